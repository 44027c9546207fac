/-
  NARROWER THAN 'FOR EVERY INPUT', by the rows' own cells (each row's printed sentence says how): ShaSums: laid · ShaParts: laid · ShaLengths: laid · ShaHexes: laid · ShaAdds: laid · MacSums: laid · MacKeys: laid · MacExpands: laid · MacEqual: laid · MacNoughts: laid.
  DERIVED. THE GIVEN ROWS OF THIS SEAT. 10 by the template 'for every input the law returns true; each argument reads behind the call as it read before'; 0 by the template 'total and deterministic' (their statements: YtnhebfafiikilaaDoorTotals.lean).
  GIVEN WITH THE SEED: the statements are not yours to turn. If you find one false, say at which input.
  Laid BY PROGRAM, IN A SANDBOX (cutbox-rows.mjs): the forced cells as the released guide's own fill.sh prints them over the translation eab7a6b10089f2e4… (all of the seat's roots in one cut). By AI agents, Wed Nov 11 2026. No macro, syntax, notation, axiom, sorry.
-/
import Derived.Test.YtnhebfafiikilaaDoorChecked
import GoSem.Claim
import GoSem.ClaimJoined
import GoSem.ClaimMapViews
import Derived.JoinedTies
import Derived.KernelRfl
namespace Go.Proofs.YtnhebfafiikilaaDoor
/- THE CELL 'sum', in the pinned program and in every row, IS THE sha256 OF THE DUMP (.gsa) THAT YtnhebfafiikilaaDoorProg.lean LOADS. Nothing in Lean hashes anything: it is a label: what it is worth is what the hold of that sum in a sandbox is worth. -/
noncomputable def Tryd.pinned : Pinned := { name := "ytnhebfafiikilaadoor", sum := "eab7a6b10089f2e4619389b98df243857697fc8b6912eaf31d77b45c1dd18634", checked := Tryd.checked }
namespace Rows
def none {H : Type} : Left H := { results := [], args := [] }

/- WHAT THE LISTED PACKAGE-LEVEL VARIABLES READ AS WHEN THE CALL BEGINS. Each datum BY PROGRAM (the guide's laid-datum.mjs) off the statement by which the dump's own 'gosem.cut.vars' lays the variable. In a bare row this is a premise. The card (YtnhebfafiikilaaDoorCards.lean) ties it to the program's text. -/
def laid_sealwax_sha_first {H : Type} : DataW H := .agg [.lit (.int .u32 1779033703), .lit (.int .u32 3144134277), .lit (.int .u32 1013904242), .lit (.int .u32 2773480762), .lit (.int .u32 1359893119), .lit (.int .u32 2600822924), .lit (.int .u32 528734635), .lit (.int .u32 1541459225)]
def laid_sealwax_sha_constants {H : Type} : DataW H := .agg [.lit (.int .u32 1116352408), .lit (.int .u32 1899447441), .lit (.int .u32 3049323471), .lit (.int .u32 3921009573), .lit (.int .u32 961987163), .lit (.int .u32 1508970993), .lit (.int .u32 2453635748), .lit (.int .u32 2870763221), .lit (.int .u32 3624381080), .lit (.int .u32 310598401), .lit (.int .u32 607225278), .lit (.int .u32 1426881987), .lit (.int .u32 1925078388), .lit (.int .u32 2162078206), .lit (.int .u32 2614888103), .lit (.int .u32 3248222580), .lit (.int .u32 3835390401), .lit (.int .u32 4022224774), .lit (.int .u32 264347078), .lit (.int .u32 604807628), .lit (.int .u32 770255983), .lit (.int .u32 1249150122), .lit (.int .u32 1555081692), .lit (.int .u32 1996064986), .lit (.int .u32 2554220882), .lit (.int .u32 2821834349), .lit (.int .u32 2952996808), .lit (.int .u32 3210313671), .lit (.int .u32 3336571891), .lit (.int .u32 3584528711), .lit (.int .u32 113926993), .lit (.int .u32 338241895), .lit (.int .u32 666307205), .lit (.int .u32 773529912), .lit (.int .u32 1294757372), .lit (.int .u32 1396182291), .lit (.int .u32 1695183700), .lit (.int .u32 1986661051), .lit (.int .u32 2177026350), .lit (.int .u32 2456956037), .lit (.int .u32 2730485921), .lit (.int .u32 2820302411), .lit (.int .u32 3259730800), .lit (.int .u32 3345764771), .lit (.int .u32 3516065817), .lit (.int .u32 3600352804), .lit (.int .u32 4094571909), .lit (.int .u32 275423344), .lit (.int .u32 430227734), .lit (.int .u32 506948616), .lit (.int .u32 659060556), .lit (.int .u32 883997877), .lit (.int .u32 958139571), .lit (.int .u32 1322822218), .lit (.int .u32 1537002063), .lit (.int .u32 1747873779), .lit (.int .u32 1955562222), .lit (.int .u32 2024104815), .lit (.int .u32 2227730452), .lit (.int .u32 2361852424), .lit (.int .u32 2428436474), .lit (.int .u32 2756734187), .lit (.int .u32 3204031479), .lit (.int .u32 3329325298)]

/-- 'sealwaxlaw01.ShaSums': WHATEVER THE INPUT: true; the input reads as it did. -/
def shaSumsSpec : ChangeSpec := { name := "shaSums", fn := fun _ => fun
  | [d] => { results := [.lit (.bool true)], args := [d] }
  | _ => none }
def shaSumsRow : OpenClaim := { program := "ytnhebfafiikilaadoor", sum := "eab7a6b10089f2e4619389b98df243857697fc8b6912eaf31d77b45c1dd18634", func := "sealwax/sealwaxlaw01.ShaSums", spec := "shaSums", named := ["sealwax/sha.constants", "sealwax/sha.first"], apart := false, laid := [("sealwax/sha.first", laid_sealwax_sha_first), ("sealwax/sha.constants", laid_sealwax_sha_constants)] }
def ShaSumsSaid : Prop := shaSumsRow.holds Tryd.pinned (OpenSpec.ofChange shaSumsSpec)

/-- ITS FALSE NEIGHBOUR: 'it returns false'. Refute it at one input. -/
def shaSumsWrong : ChangeSpec := { name := "shaSums", fn := fun _ => fun
  | [d] => { results := [.lit (.bool false)], args := [d] }
  | _ => none }
def ShaSumsWrongFalsely : Prop := shaSumsRow.holds Tryd.pinned (OpenSpec.ofChange shaSumsWrong)

/-- 'sealwaxlaw01.ShaParts': WHATEVER THE INPUT: true; the input reads as it did. -/
def shaPartsSpec : ChangeSpec := { name := "shaParts", fn := fun _ => fun
  | [d1, d2] => { results := [.lit (.bool true)], args := [d1, d2] }
  | _ => none }
def shaPartsRow : OpenClaim := { program := "ytnhebfafiikilaadoor", sum := "eab7a6b10089f2e4619389b98df243857697fc8b6912eaf31d77b45c1dd18634", func := "sealwax/sealwaxlaw01.ShaParts", spec := "shaParts", named := ["sealwax/sha.constants", "sealwax/sha.first"], apart := false, laid := [("sealwax/sha.first", laid_sealwax_sha_first), ("sealwax/sha.constants", laid_sealwax_sha_constants)] }
def ShaPartsSaid : Prop := shaPartsRow.holds Tryd.pinned (OpenSpec.ofChange shaPartsSpec)

/-- ITS FALSE NEIGHBOUR: 'it returns false'. Refute it at one input. -/
def shaPartsWrong : ChangeSpec := { name := "shaParts", fn := fun _ => fun
  | [d1, d2] => { results := [.lit (.bool false)], args := [d1, d2] }
  | _ => none }
def ShaPartsWrongFalsely : Prop := shaPartsRow.holds Tryd.pinned (OpenSpec.ofChange shaPartsWrong)

/-- 'sealwaxlaw01.ShaLengths': WHATEVER THE INPUT: true; the input reads as it did. -/
def shaLengthsSpec : ChangeSpec := { name := "shaLengths", fn := fun _ => fun
  | [d1, d2] => { results := [.lit (.bool true)], args := [d1, d2] }
  | _ => none }
def shaLengthsRow : OpenClaim := { program := "ytnhebfafiikilaadoor", sum := "eab7a6b10089f2e4619389b98df243857697fc8b6912eaf31d77b45c1dd18634", func := "sealwax/sealwaxlaw01.ShaLengths", spec := "shaLengths", named := ["sealwax/sha.constants", "sealwax/sha.first"], apart := false, laid := [("sealwax/sha.first", laid_sealwax_sha_first), ("sealwax/sha.constants", laid_sealwax_sha_constants)] }
def ShaLengthsSaid : Prop := shaLengthsRow.holds Tryd.pinned (OpenSpec.ofChange shaLengthsSpec)

/-- ITS FALSE NEIGHBOUR: 'it returns false'. Refute it at one input. -/
def shaLengthsWrong : ChangeSpec := { name := "shaLengths", fn := fun _ => fun
  | [d1, d2] => { results := [.lit (.bool false)], args := [d1, d2] }
  | _ => none }
def ShaLengthsWrongFalsely : Prop := shaLengthsRow.holds Tryd.pinned (OpenSpec.ofChange shaLengthsWrong)

/-- 'sealwaxlaw01.ShaHexes': WHATEVER THE INPUT: true; the input reads as it did. -/
def shaHexesSpec : ChangeSpec := { name := "shaHexes", fn := fun _ => fun
  | [d] => { results := [.lit (.bool true)], args := [d] }
  | _ => none }
def shaHexesRow : OpenClaim := { program := "ytnhebfafiikilaadoor", sum := "eab7a6b10089f2e4619389b98df243857697fc8b6912eaf31d77b45c1dd18634", func := "sealwax/sealwaxlaw01.ShaHexes", spec := "shaHexes", named := ["sealwax/sha.constants", "sealwax/sha.first"], apart := false, laid := [("sealwax/sha.first", laid_sealwax_sha_first), ("sealwax/sha.constants", laid_sealwax_sha_constants)] }
def ShaHexesSaid : Prop := shaHexesRow.holds Tryd.pinned (OpenSpec.ofChange shaHexesSpec)

/-- ITS FALSE NEIGHBOUR: 'it returns false'. Refute it at one input. -/
def shaHexesWrong : ChangeSpec := { name := "shaHexes", fn := fun _ => fun
  | [d] => { results := [.lit (.bool false)], args := [d] }
  | _ => none }
def ShaHexesWrongFalsely : Prop := shaHexesRow.holds Tryd.pinned (OpenSpec.ofChange shaHexesWrong)

/-- 'sealwaxlaw01.ShaAdds': WHATEVER THE INPUT: true; the input reads as it did. -/
def shaAddsSpec : ChangeSpec := { name := "shaAdds", fn := fun _ => fun
  | [d] => { results := [.lit (.bool true)], args := [d] }
  | _ => none }
def shaAddsRow : OpenClaim := { program := "ytnhebfafiikilaadoor", sum := "eab7a6b10089f2e4619389b98df243857697fc8b6912eaf31d77b45c1dd18634", func := "sealwax/sealwaxlaw01.ShaAdds", spec := "shaAdds", named := ["sealwax/sha.constants", "sealwax/sha.first"], apart := false, laid := [("sealwax/sha.first", laid_sealwax_sha_first), ("sealwax/sha.constants", laid_sealwax_sha_constants)] }
def ShaAddsSaid : Prop := shaAddsRow.holds Tryd.pinned (OpenSpec.ofChange shaAddsSpec)

/-- ITS FALSE NEIGHBOUR: 'it returns false'. Refute it at one input. -/
def shaAddsWrong : ChangeSpec := { name := "shaAdds", fn := fun _ => fun
  | [d] => { results := [.lit (.bool false)], args := [d] }
  | _ => none }
def ShaAddsWrongFalsely : Prop := shaAddsRow.holds Tryd.pinned (OpenSpec.ofChange shaAddsWrong)

/-- 'sealwaxlaw02.MacSums': WHATEVER THE INPUT: true; the input reads as it did. -/
def macSumsSpec : ChangeSpec := { name := "macSums", fn := fun _ => fun
  | [d1, d2] => { results := [.lit (.bool true)], args := [d1, d2] }
  | _ => none }
def macSumsRow : OpenClaim := { program := "ytnhebfafiikilaadoor", sum := "eab7a6b10089f2e4619389b98df243857697fc8b6912eaf31d77b45c1dd18634", func := "sealwax/sealwaxlaw02.MacSums", spec := "macSums", named := ["sealwax/sha.constants", "sealwax/sha.first"], apart := false, laid := [("sealwax/sha.first", laid_sealwax_sha_first), ("sealwax/sha.constants", laid_sealwax_sha_constants)] }
def MacSumsSaid : Prop := macSumsRow.holds Tryd.pinned (OpenSpec.ofChange macSumsSpec)

/-- ITS FALSE NEIGHBOUR: 'it returns false'. Refute it at one input. -/
def macSumsWrong : ChangeSpec := { name := "macSums", fn := fun _ => fun
  | [d1, d2] => { results := [.lit (.bool false)], args := [d1, d2] }
  | _ => none }
def MacSumsWrongFalsely : Prop := macSumsRow.holds Tryd.pinned (OpenSpec.ofChange macSumsWrong)

/-- 'sealwaxlaw02.MacKeys': WHATEVER THE INPUT: true; the input reads as it did. -/
def macKeysSpec : ChangeSpec := { name := "macKeys", fn := fun _ => fun
  | [d1, d2, d3] => { results := [.lit (.bool true)], args := [d1, d2, d3] }
  | _ => none }
def macKeysRow : OpenClaim := { program := "ytnhebfafiikilaadoor", sum := "eab7a6b10089f2e4619389b98df243857697fc8b6912eaf31d77b45c1dd18634", func := "sealwax/sealwaxlaw02.MacKeys", spec := "macKeys", named := ["sealwax/sha.constants", "sealwax/sha.first"], apart := false, laid := [("sealwax/sha.first", laid_sealwax_sha_first), ("sealwax/sha.constants", laid_sealwax_sha_constants)] }
def MacKeysSaid : Prop := macKeysRow.holds Tryd.pinned (OpenSpec.ofChange macKeysSpec)

/-- ITS FALSE NEIGHBOUR: 'it returns false'. Refute it at one input. -/
def macKeysWrong : ChangeSpec := { name := "macKeys", fn := fun _ => fun
  | [d1, d2, d3] => { results := [.lit (.bool false)], args := [d1, d2, d3] }
  | _ => none }
def MacKeysWrongFalsely : Prop := macKeysRow.holds Tryd.pinned (OpenSpec.ofChange macKeysWrong)

/-- 'sealwaxlaw02.MacExpands': WHATEVER THE INPUT: true; the input reads as it did. -/
def macExpandsSpec : ChangeSpec := { name := "macExpands", fn := fun _ => fun
  | [d1, d2, d3] => { results := [.lit (.bool true)], args := [d1, d2, d3] }
  | _ => none }
def macExpandsRow : OpenClaim := { program := "ytnhebfafiikilaadoor", sum := "eab7a6b10089f2e4619389b98df243857697fc8b6912eaf31d77b45c1dd18634", func := "sealwax/sealwaxlaw02.MacExpands", spec := "macExpands", named := ["sealwax/sha.constants", "sealwax/sha.first"], apart := false, laid := [("sealwax/sha.first", laid_sealwax_sha_first), ("sealwax/sha.constants", laid_sealwax_sha_constants)] }
def MacExpandsSaid : Prop := macExpandsRow.holds Tryd.pinned (OpenSpec.ofChange macExpandsSpec)

/-- ITS FALSE NEIGHBOUR: 'it returns false'. Refute it at one input. -/
def macExpandsWrong : ChangeSpec := { name := "macExpands", fn := fun _ => fun
  | [d1, d2, d3] => { results := [.lit (.bool false)], args := [d1, d2, d3] }
  | _ => none }
def MacExpandsWrongFalsely : Prop := macExpandsRow.holds Tryd.pinned (OpenSpec.ofChange macExpandsWrong)

/-- 'sealwaxlaw02.MacEqual': WHATEVER THE INPUT: true; the input reads as it did. -/
def macEqualSpec : ChangeSpec := { name := "macEqual", fn := fun _ => fun
  | [d1, d2] => { results := [.lit (.bool true)], args := [d1, d2] }
  | _ => none }
def macEqualRow : OpenClaim := { program := "ytnhebfafiikilaadoor", sum := "eab7a6b10089f2e4619389b98df243857697fc8b6912eaf31d77b45c1dd18634", func := "sealwax/sealwaxlaw02.MacEqual", spec := "macEqual", named := ["sealwax/sha.constants", "sealwax/sha.first"], apart := false, laid := [("sealwax/sha.first", laid_sealwax_sha_first), ("sealwax/sha.constants", laid_sealwax_sha_constants)] }
def MacEqualSaid : Prop := macEqualRow.holds Tryd.pinned (OpenSpec.ofChange macEqualSpec)

/-- ITS FALSE NEIGHBOUR: 'it returns false'. Refute it at one input. -/
def macEqualWrong : ChangeSpec := { name := "macEqual", fn := fun _ => fun
  | [d1, d2] => { results := [.lit (.bool false)], args := [d1, d2] }
  | _ => none }
def MacEqualWrongFalsely : Prop := macEqualRow.holds Tryd.pinned (OpenSpec.ofChange macEqualWrong)

/-- 'sealwaxlaw02.MacNoughts': WHATEVER THE INPUT: true; the input reads as it did. -/
def macNoughtsSpec : ChangeSpec := { name := "macNoughts", fn := fun _ => fun
  | [d1, d2, d3] => { results := [.lit (.bool true)], args := [d1, d2, d3] }
  | _ => none }
def macNoughtsRow : OpenClaim := { program := "ytnhebfafiikilaadoor", sum := "eab7a6b10089f2e4619389b98df243857697fc8b6912eaf31d77b45c1dd18634", func := "sealwax/sealwaxlaw02.MacNoughts", spec := "macNoughts", named := ["sealwax/sha.constants", "sealwax/sha.first"], apart := false, laid := [("sealwax/sha.first", laid_sealwax_sha_first), ("sealwax/sha.constants", laid_sealwax_sha_constants)] }
def MacNoughtsSaid : Prop := macNoughtsRow.holds Tryd.pinned (OpenSpec.ofChange macNoughtsSpec)

/-- ITS FALSE NEIGHBOUR: 'it returns false'. Refute it at one input. -/
def macNoughtsWrong : ChangeSpec := { name := "macNoughts", fn := fun _ => fun
  | [d1, d2, d3] => { results := [.lit (.bool false)], args := [d1, d2, d3] }
  | _ => none }
def MacNoughtsWrongFalsely : Prop := macNoughtsRow.holds Tryd.pinned (OpenSpec.ofChange macNoughtsWrong)

/- THE SECOND FORM. 'bulk': how many values and letters a reading holds, each counted each time it is reached (what is shared counts as often as it is met; a slice's spare places count too). A statement '..UptoSaid' is the law's where the arguments, and the package variables that the reading takes, are together of bulk at most 1048576: NARROWER than '..Said'. Prove '..Said' where nothing that the law and all that it calls make is longer than what came in: it says more and counts as full. Else prove '..UptoSaid'. A law counts once. -/
mutual
def uptoBulk {H : Type} : DataW H → Nat
  | .lit (.string bytes) => bytes.length + 1
  | .lit _ => 1
  | .nil => 1
  | .ptr d => uptoBulk d + 1
  | .slice elems spare => uptoBulkAll elems + uptoBulkAll spare + 1
  | .agg parts => uptoBulkAll parts + 1
  | .iface _ d => uptoBulk d + 1
  | .map entries => uptoBulkEntries entries + 1
  | .held _ => 1
def uptoBulkAll {H : Type} : List (DataW H) → Nat
  | [] => 0
  | d :: r => uptoBulk d + uptoBulkAll r
def uptoBulkEntries {H : Type} : List (Lit × DataW H) → Nat
  | [] => 0
  | x :: r => uptoBulkEntry x + uptoBulkEntries r
def uptoBulkEntry {H : Type} : Lit × DataW H → Nat
  | (.string bytes, d) => bytes.length + uptoBulk d + 1
  | (_, d) => uptoBulk d + 1
 end
def uptoSmall : (H : Type) → List (DataW H) → Bool := fun _ ds => decide (uptoBulkAll ds ≤ 1048576)
def OpenSpec.upto (s : _root_.Go.ChangeSpec) : _root_.Go.OpenSpec := { _root_.Go.OpenSpec.ofChange s with cond := some uptoSmall }

/-- 'sealwaxlaw01.ShaSums', WHERE WHAT IT READS IS OF BULK AT MOST 1048576: true; the input reads as it did. -/
def shaSumsUptoRow : OpenClaim := { program := "ytnhebfafiikilaadoor", sum := "eab7a6b10089f2e4619389b98df243857697fc8b6912eaf31d77b45c1dd18634", func := "sealwax/sealwaxlaw01.ShaSums", spec := "shaSums", named := ["sealwax/sha.constants", "sealwax/sha.first"], apart := false, laid := [("sealwax/sha.first", laid_sealwax_sha_first), ("sealwax/sha.constants", laid_sealwax_sha_constants)], narrowed := true }
def ShaSumsUptoSaid : Prop := shaSumsUptoRow.holds Tryd.pinned (OpenSpec.upto shaSumsSpec)

/-- 'sealwaxlaw01.ShaParts', WHERE WHAT IT READS IS OF BULK AT MOST 1048576: true; the input reads as it did. -/
def shaPartsUptoRow : OpenClaim := { program := "ytnhebfafiikilaadoor", sum := "eab7a6b10089f2e4619389b98df243857697fc8b6912eaf31d77b45c1dd18634", func := "sealwax/sealwaxlaw01.ShaParts", spec := "shaParts", named := ["sealwax/sha.constants", "sealwax/sha.first"], apart := false, laid := [("sealwax/sha.first", laid_sealwax_sha_first), ("sealwax/sha.constants", laid_sealwax_sha_constants)], narrowed := true }
def ShaPartsUptoSaid : Prop := shaPartsUptoRow.holds Tryd.pinned (OpenSpec.upto shaPartsSpec)

/-- 'sealwaxlaw01.ShaLengths', WHERE WHAT IT READS IS OF BULK AT MOST 1048576: true; the input reads as it did. -/
def shaLengthsUptoRow : OpenClaim := { program := "ytnhebfafiikilaadoor", sum := "eab7a6b10089f2e4619389b98df243857697fc8b6912eaf31d77b45c1dd18634", func := "sealwax/sealwaxlaw01.ShaLengths", spec := "shaLengths", named := ["sealwax/sha.constants", "sealwax/sha.first"], apart := false, laid := [("sealwax/sha.first", laid_sealwax_sha_first), ("sealwax/sha.constants", laid_sealwax_sha_constants)], narrowed := true }
def ShaLengthsUptoSaid : Prop := shaLengthsUptoRow.holds Tryd.pinned (OpenSpec.upto shaLengthsSpec)

/-- 'sealwaxlaw01.ShaHexes', WHERE WHAT IT READS IS OF BULK AT MOST 1048576: true; the input reads as it did. -/
def shaHexesUptoRow : OpenClaim := { program := "ytnhebfafiikilaadoor", sum := "eab7a6b10089f2e4619389b98df243857697fc8b6912eaf31d77b45c1dd18634", func := "sealwax/sealwaxlaw01.ShaHexes", spec := "shaHexes", named := ["sealwax/sha.constants", "sealwax/sha.first"], apart := false, laid := [("sealwax/sha.first", laid_sealwax_sha_first), ("sealwax/sha.constants", laid_sealwax_sha_constants)], narrowed := true }
def ShaHexesUptoSaid : Prop := shaHexesUptoRow.holds Tryd.pinned (OpenSpec.upto shaHexesSpec)

/-- 'sealwaxlaw01.ShaAdds', WHERE WHAT IT READS IS OF BULK AT MOST 1048576: true; the input reads as it did. -/
def shaAddsUptoRow : OpenClaim := { program := "ytnhebfafiikilaadoor", sum := "eab7a6b10089f2e4619389b98df243857697fc8b6912eaf31d77b45c1dd18634", func := "sealwax/sealwaxlaw01.ShaAdds", spec := "shaAdds", named := ["sealwax/sha.constants", "sealwax/sha.first"], apart := false, laid := [("sealwax/sha.first", laid_sealwax_sha_first), ("sealwax/sha.constants", laid_sealwax_sha_constants)], narrowed := true }
def ShaAddsUptoSaid : Prop := shaAddsUptoRow.holds Tryd.pinned (OpenSpec.upto shaAddsSpec)

/-- 'sealwaxlaw02.MacSums', WHERE WHAT IT READS IS OF BULK AT MOST 1048576: true; the input reads as it did. -/
def macSumsUptoRow : OpenClaim := { program := "ytnhebfafiikilaadoor", sum := "eab7a6b10089f2e4619389b98df243857697fc8b6912eaf31d77b45c1dd18634", func := "sealwax/sealwaxlaw02.MacSums", spec := "macSums", named := ["sealwax/sha.constants", "sealwax/sha.first"], apart := false, laid := [("sealwax/sha.first", laid_sealwax_sha_first), ("sealwax/sha.constants", laid_sealwax_sha_constants)], narrowed := true }
def MacSumsUptoSaid : Prop := macSumsUptoRow.holds Tryd.pinned (OpenSpec.upto macSumsSpec)

/-- 'sealwaxlaw02.MacKeys', WHERE WHAT IT READS IS OF BULK AT MOST 1048576: true; the input reads as it did. -/
def macKeysUptoRow : OpenClaim := { program := "ytnhebfafiikilaadoor", sum := "eab7a6b10089f2e4619389b98df243857697fc8b6912eaf31d77b45c1dd18634", func := "sealwax/sealwaxlaw02.MacKeys", spec := "macKeys", named := ["sealwax/sha.constants", "sealwax/sha.first"], apart := false, laid := [("sealwax/sha.first", laid_sealwax_sha_first), ("sealwax/sha.constants", laid_sealwax_sha_constants)], narrowed := true }
def MacKeysUptoSaid : Prop := macKeysUptoRow.holds Tryd.pinned (OpenSpec.upto macKeysSpec)

/-- 'sealwaxlaw02.MacExpands', WHERE WHAT IT READS IS OF BULK AT MOST 1048576: true; the input reads as it did. -/
def macExpandsUptoRow : OpenClaim := { program := "ytnhebfafiikilaadoor", sum := "eab7a6b10089f2e4619389b98df243857697fc8b6912eaf31d77b45c1dd18634", func := "sealwax/sealwaxlaw02.MacExpands", spec := "macExpands", named := ["sealwax/sha.constants", "sealwax/sha.first"], apart := false, laid := [("sealwax/sha.first", laid_sealwax_sha_first), ("sealwax/sha.constants", laid_sealwax_sha_constants)], narrowed := true }
def MacExpandsUptoSaid : Prop := macExpandsUptoRow.holds Tryd.pinned (OpenSpec.upto macExpandsSpec)

/-- 'sealwaxlaw02.MacEqual', WHERE WHAT IT READS IS OF BULK AT MOST 1048576: true; the input reads as it did. -/
def macEqualUptoRow : OpenClaim := { program := "ytnhebfafiikilaadoor", sum := "eab7a6b10089f2e4619389b98df243857697fc8b6912eaf31d77b45c1dd18634", func := "sealwax/sealwaxlaw02.MacEqual", spec := "macEqual", named := ["sealwax/sha.constants", "sealwax/sha.first"], apart := false, laid := [("sealwax/sha.first", laid_sealwax_sha_first), ("sealwax/sha.constants", laid_sealwax_sha_constants)], narrowed := true }
def MacEqualUptoSaid : Prop := macEqualUptoRow.holds Tryd.pinned (OpenSpec.upto macEqualSpec)

/-- 'sealwaxlaw02.MacNoughts', WHERE WHAT IT READS IS OF BULK AT MOST 1048576: true; the input reads as it did. -/
def macNoughtsUptoRow : OpenClaim := { program := "ytnhebfafiikilaadoor", sum := "eab7a6b10089f2e4619389b98df243857697fc8b6912eaf31d77b45c1dd18634", func := "sealwax/sealwaxlaw02.MacNoughts", spec := "macNoughts", named := ["sealwax/sha.constants", "sealwax/sha.first"], apart := false, laid := [("sealwax/sha.first", laid_sealwax_sha_first), ("sealwax/sha.constants", laid_sealwax_sha_constants)], narrowed := true }
def MacNoughtsUptoSaid : Prop := macNoughtsUptoRow.holds Tryd.pinned (OpenSpec.upto macNoughtsSpec)

end Rows
end Go.Proofs.YtnhebfafiikilaaDoor
