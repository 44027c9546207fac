/-
  NARROWER THAN 'FOR EVERY INPUT', by the rows' own cells (each row's printed sentence says how): StreamFirst: laid · PolyTags: laid · PolyEnds: laid · PolySimple: laid · AeadSeals: laid · AeadOpens: laid · AeadTurned: laid.
  DERIVED. THE GIVEN ROWS OF THIS SEAT. 7 by the template 'for every input the law returns true; each argument reads behind the call as it read before'; 0 by the template 'total and deterministic' (their statements: YtiolflofkoeffaaDoorTotals.lean).
  GIVEN WITH THE SEED: the statements are not yours to turn. If you find one false, say at which input.
  Laid BY PROGRAM, IN A SANDBOX (cutbox-rows.mjs): the forced cells as the released guide's own fill.sh prints them over the translation 1549c6d6faa94e5a… (all of the seat's roots in one cut). By AI agents, Wed Nov 11 2026. No macro, syntax, notation, axiom, sorry.
-/
import Derived.Test.YtiolflofkoeffaaDoorChecked
import GoSem.Claim
import GoSem.ClaimJoined
import GoSem.ClaimMapViews
import Derived.JoinedTies
import Derived.KernelRfl
namespace Go.Proofs.YtiolflofkoeffaaDoor
/- THE CELL 'sum', in the pinned program and in every row, IS THE sha256 OF THE DUMP (.gsa) THAT YtiolflofkoeffaaDoorProg.lean LOADS. Nothing in Lean hashes anything: it is a label: what it is worth is what the hold of that sum in a sandbox is worth. -/
noncomputable def Tryd.pinned : Pinned := { name := "ytiolflofkoeffaadoor", sum := "1549c6d6faa94e5ac2fb9e146298f6d74d2dd0ce5ecf28f645732a7fb48140a6", checked := Tryd.checked }
namespace Rows
def none {H : Type} : Left H := { results := [], args := [] }

/- WHAT THE LISTED PACKAGE-LEVEL VARIABLES READ AS WHEN THE CALL BEGINS. Each datum BY PROGRAM (the guide's laid-datum.mjs) off the statement by which the dump's own 'gosem.cut.vars' lays the variable. In a bare row this is a premise. The card (YtiolflofkoeffaaDoorCards.lean) ties it to the program's text. -/
def laid_sealwax_stream_quarters {H : Type} : DataW H := .agg [.agg [.lit (.int .i64 0), .lit (.int .i64 4), .lit (.int .i64 8), .lit (.int .i64 12)], .agg [.lit (.int .i64 1), .lit (.int .i64 5), .lit (.int .i64 9), .lit (.int .i64 13)], .agg [.lit (.int .i64 2), .lit (.int .i64 6), .lit (.int .i64 10), .lit (.int .i64 14)], .agg [.lit (.int .i64 3), .lit (.int .i64 7), .lit (.int .i64 11), .lit (.int .i64 15)], .agg [.lit (.int .i64 0), .lit (.int .i64 5), .lit (.int .i64 10), .lit (.int .i64 15)], .agg [.lit (.int .i64 1), .lit (.int .i64 6), .lit (.int .i64 11), .lit (.int .i64 12)], .agg [.lit (.int .i64 2), .lit (.int .i64 7), .lit (.int .i64 8), .lit (.int .i64 13)], .agg [.lit (.int .i64 3), .lit (.int .i64 4), .lit (.int .i64 9), .lit (.int .i64 14)]]
def laid_sealwax_poly_kept {H : Type} : DataW H := .agg [.lit (.int .u8 255), .lit (.int .u8 255), .lit (.int .u8 255), .lit (.int .u8 15), .lit (.int .u8 252), .lit (.int .u8 255), .lit (.int .u8 255), .lit (.int .u8 15), .lit (.int .u8 252), .lit (.int .u8 255), .lit (.int .u8 255), .lit (.int .u8 15), .lit (.int .u8 252), .lit (.int .u8 255), .lit (.int .u8 255), .lit (.int .u8 15)]

/-- 'sealwaxlaw03.StreamFirst': WHATEVER THE INPUT: true; the input reads as it did. -/
def streamFirstSpec : ChangeSpec := { name := "streamFirst", fn := fun _ => fun
  | [d] => { results := [.lit (.bool true)], args := [d] }
  | _ => none }
def streamFirstRow : OpenClaim := { program := "ytiolflofkoeffaadoor", sum := "1549c6d6faa94e5ac2fb9e146298f6d74d2dd0ce5ecf28f645732a7fb48140a6", func := "sealwax/sealwaxlaw03.StreamFirst", spec := "streamFirst", inPlace := ["internal/abi.NoEscape", "internal/bytealg.MakeNoZero"], named := ["sealwax/stream.quarters"], apart := false, laid := [("sealwax/stream.quarters", laid_sealwax_stream_quarters)] }
def StreamFirstSaid : Prop := streamFirstRow.holds Tryd.pinned (OpenSpec.ofChange streamFirstSpec)

/-- ITS FALSE NEIGHBOUR: 'it returns false'. Refute it at one input. -/
def streamFirstWrong : ChangeSpec := { name := "streamFirst", fn := fun _ => fun
  | [d] => { results := [.lit (.bool false)], args := [d] }
  | _ => none }
def StreamFirstWrongFalsely : Prop := streamFirstRow.holds Tryd.pinned (OpenSpec.ofChange streamFirstWrong)

/-- 'sealwaxlaw04.PolyTags': WHATEVER THE INPUT: true; the input reads as it did. -/
def polyTagsSpec : ChangeSpec := { name := "polyTags", fn := fun _ => fun
  | [d1, d2] => { results := [.lit (.bool true)], args := [d1, d2] }
  | _ => none }
def polyTagsRow : OpenClaim := { program := "ytiolflofkoeffaadoor", sum := "1549c6d6faa94e5ac2fb9e146298f6d74d2dd0ce5ecf28f645732a7fb48140a6", func := "sealwax/sealwaxlaw04.PolyTags", spec := "polyTags", named := ["sealwax/poly.kept"], apart := false, laid := [("sealwax/poly.kept", laid_sealwax_poly_kept)] }
def PolyTagsSaid : Prop := polyTagsRow.holds Tryd.pinned (OpenSpec.ofChange polyTagsSpec)

/-- ITS FALSE NEIGHBOUR: 'it returns false'. Refute it at one input. -/
def polyTagsWrong : ChangeSpec := { name := "polyTags", fn := fun _ => fun
  | [d1, d2] => { results := [.lit (.bool false)], args := [d1, d2] }
  | _ => none }
def PolyTagsWrongFalsely : Prop := polyTagsRow.holds Tryd.pinned (OpenSpec.ofChange polyTagsWrong)

/-- 'sealwaxlaw04.PolyEnds': WHATEVER THE INPUT: true; the input reads as it did. -/
def polyEndsSpec : ChangeSpec := { name := "polyEnds", fn := fun _ => fun
  | [d1, d2, d3] => { results := [.lit (.bool true)], args := [d1, d2, d3] }
  | _ => none }
def polyEndsRow : OpenClaim := { program := "ytiolflofkoeffaadoor", sum := "1549c6d6faa94e5ac2fb9e146298f6d74d2dd0ce5ecf28f645732a7fb48140a6", func := "sealwax/sealwaxlaw04.PolyEnds", spec := "polyEnds", named := ["sealwax/poly.kept"], apart := false, laid := [("sealwax/poly.kept", laid_sealwax_poly_kept)] }
def PolyEndsSaid : Prop := polyEndsRow.holds Tryd.pinned (OpenSpec.ofChange polyEndsSpec)

/-- ITS FALSE NEIGHBOUR: 'it returns false'. Refute it at one input. -/
def polyEndsWrong : ChangeSpec := { name := "polyEnds", fn := fun _ => fun
  | [d1, d2, d3] => { results := [.lit (.bool false)], args := [d1, d2, d3] }
  | _ => none }
def PolyEndsWrongFalsely : Prop := polyEndsRow.holds Tryd.pinned (OpenSpec.ofChange polyEndsWrong)

/-- 'sealwaxlaw04.PolySimple': WHATEVER THE INPUT: true; the input reads as it did. -/
def polySimpleSpec : ChangeSpec := { name := "polySimple", fn := fun _ => fun
  | [d1, d2, d3] => { results := [.lit (.bool true)], args := [d1, d2, d3] }
  | _ => none }
def polySimpleRow : OpenClaim := { program := "ytiolflofkoeffaadoor", sum := "1549c6d6faa94e5ac2fb9e146298f6d74d2dd0ce5ecf28f645732a7fb48140a6", func := "sealwax/sealwaxlaw04.PolySimple", spec := "polySimple", named := ["sealwax/poly.kept"], apart := false, laid := [("sealwax/poly.kept", laid_sealwax_poly_kept)] }
def PolySimpleSaid : Prop := polySimpleRow.holds Tryd.pinned (OpenSpec.ofChange polySimpleSpec)

/-- ITS FALSE NEIGHBOUR: 'it returns false'. Refute it at one input. -/
def polySimpleWrong : ChangeSpec := { name := "polySimple", fn := fun _ => fun
  | [d1, d2, d3] => { results := [.lit (.bool false)], args := [d1, d2, d3] }
  | _ => none }
def PolySimpleWrongFalsely : Prop := polySimpleRow.holds Tryd.pinned (OpenSpec.ofChange polySimpleWrong)

/-- 'sealwaxlaw05.AeadSeals': WHATEVER THE INPUT: true; the input reads as it did. -/
def aeadSealsSpec : ChangeSpec := { name := "aeadSeals", fn := fun _ => fun
  | [d1, d2, d3] => { results := [.lit (.bool true)], args := [d1, d2, d3] }
  | _ => none }
def aeadSealsRow : OpenClaim := { program := "ytiolflofkoeffaadoor", sum := "1549c6d6faa94e5ac2fb9e146298f6d74d2dd0ce5ecf28f645732a7fb48140a6", func := "sealwax/sealwaxlaw05.AeadSeals", spec := "aeadSeals", inPlace := ["internal/abi.NoEscape", "internal/bytealg.MakeNoZero"], named := ["sealwax/stream.quarters", "sealwax/poly.kept"], apart := false, laid := [("sealwax/poly.kept", laid_sealwax_poly_kept), ("sealwax/stream.quarters", laid_sealwax_stream_quarters)] }
def AeadSealsSaid : Prop := aeadSealsRow.holds Tryd.pinned (OpenSpec.ofChange aeadSealsSpec)

/-- ITS FALSE NEIGHBOUR: 'it returns false'. Refute it at one input. -/
def aeadSealsWrong : ChangeSpec := { name := "aeadSeals", fn := fun _ => fun
  | [d1, d2, d3] => { results := [.lit (.bool false)], args := [d1, d2, d3] }
  | _ => none }
def AeadSealsWrongFalsely : Prop := aeadSealsRow.holds Tryd.pinned (OpenSpec.ofChange aeadSealsWrong)

/-- 'sealwaxlaw05.AeadOpens': WHATEVER THE INPUT: true; the input reads as it did. -/
def aeadOpensSpec : ChangeSpec := { name := "aeadOpens", fn := fun _ => fun
  | [d1, d2, d3] => { results := [.lit (.bool true)], args := [d1, d2, d3] }
  | _ => none }
def aeadOpensRow : OpenClaim := { program := "ytiolflofkoeffaadoor", sum := "1549c6d6faa94e5ac2fb9e146298f6d74d2dd0ce5ecf28f645732a7fb48140a6", func := "sealwax/sealwaxlaw05.AeadOpens", spec := "aeadOpens", inPlace := ["internal/abi.NoEscape", "internal/bytealg.MakeNoZero"], named := ["sealwax/stream.quarters", "sealwax/poly.kept"], apart := false, laid := [("sealwax/poly.kept", laid_sealwax_poly_kept), ("sealwax/stream.quarters", laid_sealwax_stream_quarters)] }
def AeadOpensSaid : Prop := aeadOpensRow.holds Tryd.pinned (OpenSpec.ofChange aeadOpensSpec)

/-- ITS FALSE NEIGHBOUR: 'it returns false'. Refute it at one input. -/
def aeadOpensWrong : ChangeSpec := { name := "aeadOpens", fn := fun _ => fun
  | [d1, d2, d3] => { results := [.lit (.bool false)], args := [d1, d2, d3] }
  | _ => none }
def AeadOpensWrongFalsely : Prop := aeadOpensRow.holds Tryd.pinned (OpenSpec.ofChange aeadOpensWrong)

/-- 'sealwaxlaw05.AeadTurned': WHATEVER THE INPUT: true; the input reads as it did. -/
def aeadTurnedSpec : ChangeSpec := { name := "aeadTurned", fn := fun _ => fun
  | [d1, d2, d3] => { results := [.lit (.bool true)], args := [d1, d2, d3] }
  | _ => none }
def aeadTurnedRow : OpenClaim := { program := "ytiolflofkoeffaadoor", sum := "1549c6d6faa94e5ac2fb9e146298f6d74d2dd0ce5ecf28f645732a7fb48140a6", func := "sealwax/sealwaxlaw05.AeadTurned", spec := "aeadTurned", inPlace := ["internal/abi.NoEscape", "internal/bytealg.MakeNoZero"], named := ["sealwax/stream.quarters", "sealwax/poly.kept"], apart := false, laid := [("sealwax/poly.kept", laid_sealwax_poly_kept), ("sealwax/stream.quarters", laid_sealwax_stream_quarters)] }
def AeadTurnedSaid : Prop := aeadTurnedRow.holds Tryd.pinned (OpenSpec.ofChange aeadTurnedSpec)

/-- ITS FALSE NEIGHBOUR: 'it returns false'. Refute it at one input. -/
def aeadTurnedWrong : ChangeSpec := { name := "aeadTurned", fn := fun _ => fun
  | [d1, d2, d3] => { results := [.lit (.bool false)], args := [d1, d2, d3] }
  | _ => none }
def AeadTurnedWrongFalsely : Prop := aeadTurnedRow.holds Tryd.pinned (OpenSpec.ofChange aeadTurnedWrong)

/- THE SECOND FORM. 'bulk': how many values and letters a reading holds, each counted each time it is reached (what is shared counts as often as it is met; a slice's spare places count too). A statement '..UptoSaid' is the law's where the arguments, and the package variables that the reading takes, are together of bulk at most 1048576: NARROWER than '..Said'. Prove '..Said' where nothing that the law and all that it calls make is longer than what came in: it says more and counts as full. Else prove '..UptoSaid'. A law counts once. -/
mutual
def uptoBulk {H : Type} : DataW H → Nat
  | .lit (.string bytes) => bytes.length + 1
  | .lit _ => 1
  | .nil => 1
  | .ptr d => uptoBulk d + 1
  | .slice elems spare => uptoBulkAll elems + uptoBulkAll spare + 1
  | .agg parts => uptoBulkAll parts + 1
  | .iface _ d => uptoBulk d + 1
  | .map entries => uptoBulkEntries entries + 1
  | .held _ => 1
def uptoBulkAll {H : Type} : List (DataW H) → Nat
  | [] => 0
  | d :: r => uptoBulk d + uptoBulkAll r
def uptoBulkEntries {H : Type} : List (Lit × DataW H) → Nat
  | [] => 0
  | x :: r => uptoBulkEntry x + uptoBulkEntries r
def uptoBulkEntry {H : Type} : Lit × DataW H → Nat
  | (.string bytes, d) => bytes.length + uptoBulk d + 1
  | (_, d) => uptoBulk d + 1
 end
def uptoSmall : (H : Type) → List (DataW H) → Bool := fun _ ds => decide (uptoBulkAll ds ≤ 1048576)
def OpenSpec.upto (s : _root_.Go.ChangeSpec) : _root_.Go.OpenSpec := { _root_.Go.OpenSpec.ofChange s with cond := some uptoSmall }

/-- 'sealwaxlaw03.StreamFirst', WHERE WHAT IT READS IS OF BULK AT MOST 1048576: true; the input reads as it did. -/
def streamFirstUptoRow : OpenClaim := { program := "ytiolflofkoeffaadoor", sum := "1549c6d6faa94e5ac2fb9e146298f6d74d2dd0ce5ecf28f645732a7fb48140a6", func := "sealwax/sealwaxlaw03.StreamFirst", spec := "streamFirst", inPlace := ["internal/abi.NoEscape", "internal/bytealg.MakeNoZero"], named := ["sealwax/stream.quarters"], apart := false, laid := [("sealwax/stream.quarters", laid_sealwax_stream_quarters)], narrowed := true }
def StreamFirstUptoSaid : Prop := streamFirstUptoRow.holds Tryd.pinned (OpenSpec.upto streamFirstSpec)

/-- 'sealwaxlaw04.PolyTags', WHERE WHAT IT READS IS OF BULK AT MOST 1048576: true; the input reads as it did. -/
def polyTagsUptoRow : OpenClaim := { program := "ytiolflofkoeffaadoor", sum := "1549c6d6faa94e5ac2fb9e146298f6d74d2dd0ce5ecf28f645732a7fb48140a6", func := "sealwax/sealwaxlaw04.PolyTags", spec := "polyTags", named := ["sealwax/poly.kept"], apart := false, laid := [("sealwax/poly.kept", laid_sealwax_poly_kept)], narrowed := true }
def PolyTagsUptoSaid : Prop := polyTagsUptoRow.holds Tryd.pinned (OpenSpec.upto polyTagsSpec)

/-- 'sealwaxlaw04.PolyEnds', WHERE WHAT IT READS IS OF BULK AT MOST 1048576: true; the input reads as it did. -/
def polyEndsUptoRow : OpenClaim := { program := "ytiolflofkoeffaadoor", sum := "1549c6d6faa94e5ac2fb9e146298f6d74d2dd0ce5ecf28f645732a7fb48140a6", func := "sealwax/sealwaxlaw04.PolyEnds", spec := "polyEnds", named := ["sealwax/poly.kept"], apart := false, laid := [("sealwax/poly.kept", laid_sealwax_poly_kept)], narrowed := true }
def PolyEndsUptoSaid : Prop := polyEndsUptoRow.holds Tryd.pinned (OpenSpec.upto polyEndsSpec)

/-- 'sealwaxlaw04.PolySimple', WHERE WHAT IT READS IS OF BULK AT MOST 1048576: true; the input reads as it did. -/
def polySimpleUptoRow : OpenClaim := { program := "ytiolflofkoeffaadoor", sum := "1549c6d6faa94e5ac2fb9e146298f6d74d2dd0ce5ecf28f645732a7fb48140a6", func := "sealwax/sealwaxlaw04.PolySimple", spec := "polySimple", named := ["sealwax/poly.kept"], apart := false, laid := [("sealwax/poly.kept", laid_sealwax_poly_kept)], narrowed := true }
def PolySimpleUptoSaid : Prop := polySimpleUptoRow.holds Tryd.pinned (OpenSpec.upto polySimpleSpec)

/-- 'sealwaxlaw05.AeadSeals', WHERE WHAT IT READS IS OF BULK AT MOST 1048576: true; the input reads as it did. -/
def aeadSealsUptoRow : OpenClaim := { program := "ytiolflofkoeffaadoor", sum := "1549c6d6faa94e5ac2fb9e146298f6d74d2dd0ce5ecf28f645732a7fb48140a6", func := "sealwax/sealwaxlaw05.AeadSeals", spec := "aeadSeals", inPlace := ["internal/abi.NoEscape", "internal/bytealg.MakeNoZero"], named := ["sealwax/stream.quarters", "sealwax/poly.kept"], apart := false, laid := [("sealwax/poly.kept", laid_sealwax_poly_kept), ("sealwax/stream.quarters", laid_sealwax_stream_quarters)], narrowed := true }
def AeadSealsUptoSaid : Prop := aeadSealsUptoRow.holds Tryd.pinned (OpenSpec.upto aeadSealsSpec)

/-- 'sealwaxlaw05.AeadOpens', WHERE WHAT IT READS IS OF BULK AT MOST 1048576: true; the input reads as it did. -/
def aeadOpensUptoRow : OpenClaim := { program := "ytiolflofkoeffaadoor", sum := "1549c6d6faa94e5ac2fb9e146298f6d74d2dd0ce5ecf28f645732a7fb48140a6", func := "sealwax/sealwaxlaw05.AeadOpens", spec := "aeadOpens", inPlace := ["internal/abi.NoEscape", "internal/bytealg.MakeNoZero"], named := ["sealwax/stream.quarters", "sealwax/poly.kept"], apart := false, laid := [("sealwax/poly.kept", laid_sealwax_poly_kept), ("sealwax/stream.quarters", laid_sealwax_stream_quarters)], narrowed := true }
def AeadOpensUptoSaid : Prop := aeadOpensUptoRow.holds Tryd.pinned (OpenSpec.upto aeadOpensSpec)

/-- 'sealwaxlaw05.AeadTurned', WHERE WHAT IT READS IS OF BULK AT MOST 1048576: true; the input reads as it did. -/
def aeadTurnedUptoRow : OpenClaim := { program := "ytiolflofkoeffaadoor", sum := "1549c6d6faa94e5ac2fb9e146298f6d74d2dd0ce5ecf28f645732a7fb48140a6", func := "sealwax/sealwaxlaw05.AeadTurned", spec := "aeadTurned", inPlace := ["internal/abi.NoEscape", "internal/bytealg.MakeNoZero"], named := ["sealwax/stream.quarters", "sealwax/poly.kept"], apart := false, laid := [("sealwax/poly.kept", laid_sealwax_poly_kept), ("sealwax/stream.quarters", laid_sealwax_stream_quarters)], narrowed := true }
def AeadTurnedUptoSaid : Prop := aeadTurnedUptoRow.holds Tryd.pinned (OpenSpec.upto aeadTurnedSpec)

end Rows
end Go.Proofs.YtiolflofkoeffaaDoor
