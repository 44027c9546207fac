/-
  No cell of these rows narrows 'for every input' (looked for: loops, veiled, ifaces, maps, wideKeys, modest, calm, conditions, laid).
  DERIVED. THE GIVEN ROWS OF THIS SEAT. 5 by the template 'for every input the law returns true; each argument reads behind the call as it read before'; 0 by the template 'total and deterministic' (their statements: YtaipaifnkpgmhaaTotals.lean).
  GIVEN WITH THE SEED: the statements are not yours to turn. If you find one false, say at which input.
  Laid BY PROGRAM, IN A SANDBOX (cutbox-rows.mjs): the forced cells as the released guide's own fill.sh prints them over the translation f345b3cf860e2124… (all of the seat's roots in one cut). By AI agents, Wed Nov 11 2026. No macro, syntax, notation, axiom, sorry.
-/
import Derived.Test.YtaipaifnkpgmhaaChecked
import GoSem.Claim
import GoSem.ClaimJoined
import GoSem.ClaimMapViews
import Derived.JoinedTies
import Derived.KernelRfl
namespace Go.Proofs.Ytaipaifnkpgmhaa
/- THE CELL 'sum', in the pinned program and in every row, IS THE sha256 OF THE DUMP (.gsa) THAT YtaipaifnkpgmhaaProg.lean LOADS. Nothing in Lean hashes anything: it is a label: what it is worth is what the hold of that sum in a sandbox is worth. -/
noncomputable def Try.pinned : Pinned := { name := "ytaipaifnkpgmhaa", sum := "f345b3cf860e2124f47aaca0def492d0e3bce33f84299aa003216da61a00664a", checked := Try.checked }
namespace Rows
def none {H : Type} : Left H := { results := [], args := [] }

/-- 'sealwaxlaw15.WordsOf': WHATEVER THE INPUT: true; the input reads as it did. -/
def wordsOfSpec : ChangeSpec := { name := "wordsOf", fn := fun _ => fun
  | [d1, d2] => { results := [.lit (.bool true)], args := [d1, d2] }
  | _ => none }
def wordsOfRow : OpenClaim := { program := "ytaipaifnkpgmhaa", sum := "f345b3cf860e2124f47aaca0def492d0e3bce33f84299aa003216da61a00664a", func := "sealwax/sealwaxlaw15.WordsOf", spec := "wordsOf", inPlace := ["slices.overlaps[string]"], unfollowed := true, recurses := true, apart := false }
def WordsOfSaid : Prop := wordsOfRow.holds Try.pinned (OpenSpec.ofChange wordsOfSpec)

/-- ITS FALSE NEIGHBOUR: 'it returns false'. Refute it at one input. -/
def wordsOfWrong : ChangeSpec := { name := "wordsOf", fn := fun _ => fun
  | [d1, d2] => { results := [.lit (.bool false)], args := [d1, d2] }
  | _ => none }
def WordsOfWrongFalsely : Prop := wordsOfRow.holds Try.pinned (OpenSpec.ofChange wordsOfWrong)

/-- 'sealwaxlaw15.WordsClean': WHATEVER THE INPUT: true; the input reads as it did. -/
def wordsCleanSpec : ChangeSpec := { name := "wordsClean", fn := fun _ => fun
  | [d] => { results := [.lit (.bool true)], args := [d] }
  | _ => none }
def wordsCleanRow : OpenClaim := { program := "ytaipaifnkpgmhaa", sum := "f345b3cf860e2124f47aaca0def492d0e3bce33f84299aa003216da61a00664a", func := "sealwax/sealwaxlaw15.WordsClean", spec := "wordsClean", inPlace := ["slices.overlaps[string]"], unfollowed := true, recurses := true, apart := false }
def WordsCleanSaid : Prop := wordsCleanRow.holds Try.pinned (OpenSpec.ofChange wordsCleanSpec)

/-- ITS FALSE NEIGHBOUR: 'it returns false'. Refute it at one input. -/
def wordsCleanWrong : ChangeSpec := { name := "wordsClean", fn := fun _ => fun
  | [d] => { results := [.lit (.bool false)], args := [d] }
  | _ => none }
def WordsCleanWrongFalsely : Prop := wordsCleanRow.holds Try.pinned (OpenSpec.ofChange wordsCleanWrong)

/-- 'sealwaxlaw15.WordsJoin': WHATEVER THE INPUT: true; the input reads as it did. -/
def wordsJoinSpec : ChangeSpec := { name := "wordsJoin", fn := fun _ => fun
  | [d1, d2] => { results := [.lit (.bool true)], args := [d1, d2] }
  | _ => none }
def wordsJoinRow : OpenClaim := { program := "ytaipaifnkpgmhaa", sum := "f345b3cf860e2124f47aaca0def492d0e3bce33f84299aa003216da61a00664a", func := "sealwax/sealwaxlaw15.WordsJoin", spec := "wordsJoin", inPlace := ["slices.overlaps[string]"], unfollowed := true, recurses := true, apart := false }
def WordsJoinSaid : Prop := wordsJoinRow.holds Try.pinned (OpenSpec.ofChange wordsJoinSpec)

/-- ITS FALSE NEIGHBOUR: 'it returns false'. Refute it at one input. -/
def wordsJoinWrong : ChangeSpec := { name := "wordsJoin", fn := fun _ => fun
  | [d1, d2] => { results := [.lit (.bool false)], args := [d1, d2] }
  | _ => none }
def WordsJoinWrongFalsely : Prop := wordsJoinRow.holds Try.pinned (OpenSpec.ofChange wordsJoinWrong)

/-- 'sealwaxlaw15.WordsCase': WHATEVER THE INPUT: true; the input reads as it did. -/
def wordsCaseSpec : ChangeSpec := { name := "wordsCase", fn := fun _ => fun
  | [d] => { results := [.lit (.bool true)], args := [d] }
  | _ => none }
def wordsCaseRow : OpenClaim := { program := "ytaipaifnkpgmhaa", sum := "f345b3cf860e2124f47aaca0def492d0e3bce33f84299aa003216da61a00664a", func := "sealwax/sealwaxlaw15.WordsCase", spec := "wordsCase", inPlace := ["slices.overlaps[string]"], unfollowed := true, recurses := true, apart := false }
def WordsCaseSaid : Prop := wordsCaseRow.holds Try.pinned (OpenSpec.ofChange wordsCaseSpec)

/-- ITS FALSE NEIGHBOUR: 'it returns false'. Refute it at one input. -/
def wordsCaseWrong : ChangeSpec := { name := "wordsCase", fn := fun _ => fun
  | [d] => { results := [.lit (.bool false)], args := [d] }
  | _ => none }
def WordsCaseWrongFalsely : Prop := wordsCaseRow.holds Try.pinned (OpenSpec.ofChange wordsCaseWrong)

/-- 'sealwaxlaw15.WordsTwice': WHATEVER THE INPUT: true; the input reads as it did. -/
def wordsTwiceSpec : ChangeSpec := { name := "wordsTwice", fn := fun _ => fun
  | [d] => { results := [.lit (.bool true)], args := [d] }
  | _ => none }
def wordsTwiceRow : OpenClaim := { program := "ytaipaifnkpgmhaa", sum := "f345b3cf860e2124f47aaca0def492d0e3bce33f84299aa003216da61a00664a", func := "sealwax/sealwaxlaw15.WordsTwice", spec := "wordsTwice", inPlace := ["slices.overlaps[string]"], unfollowed := true, recurses := true, apart := false }
def WordsTwiceSaid : Prop := wordsTwiceRow.holds Try.pinned (OpenSpec.ofChange wordsTwiceSpec)

/-- ITS FALSE NEIGHBOUR: 'it returns false'. Refute it at one input. -/
def wordsTwiceWrong : ChangeSpec := { name := "wordsTwice", fn := fun _ => fun
  | [d] => { results := [.lit (.bool false)], args := [d] }
  | _ => none }
def WordsTwiceWrongFalsely : Prop := wordsTwiceRow.holds Try.pinned (OpenSpec.ofChange wordsTwiceWrong)

/- THE SECOND FORM. 'bulk': how many values and letters a reading holds, each counted each time it is reached (what is shared counts as often as it is met; a slice's spare places count too). A statement '..UptoSaid' is the law's where the arguments, and the package variables that the reading takes, are together of bulk at most 1048576: NARROWER than '..Said'. Prove '..Said' where nothing that the law and all that it calls make is longer than what came in: it says more and counts as full. Else prove '..UptoSaid'. A law counts once. -/
mutual
def uptoBulk {H : Type} : DataW H → Nat
  | .lit (.string bytes) => bytes.length + 1
  | .lit _ => 1
  | .nil => 1
  | .ptr d => uptoBulk d + 1
  | .slice elems spare => uptoBulkAll elems + uptoBulkAll spare + 1
  | .agg parts => uptoBulkAll parts + 1
  | .iface _ d => uptoBulk d + 1
  | .map entries => uptoBulkEntries entries + 1
  | .held _ => 1
def uptoBulkAll {H : Type} : List (DataW H) → Nat
  | [] => 0
  | d :: r => uptoBulk d + uptoBulkAll r
def uptoBulkEntries {H : Type} : List (Lit × DataW H) → Nat
  | [] => 0
  | x :: r => uptoBulkEntry x + uptoBulkEntries r
def uptoBulkEntry {H : Type} : Lit × DataW H → Nat
  | (.string bytes, d) => bytes.length + uptoBulk d + 1
  | (_, d) => uptoBulk d + 1
 end
def uptoSmall : (H : Type) → List (DataW H) → Bool := fun _ ds => decide (uptoBulkAll ds ≤ 1048576)
def OpenSpec.upto (s : _root_.Go.ChangeSpec) : _root_.Go.OpenSpec := { _root_.Go.OpenSpec.ofChange s with cond := some uptoSmall }

/-- 'sealwaxlaw15.WordsOf', WHERE WHAT IT READS IS OF BULK AT MOST 1048576: true; the input reads as it did. -/
def wordsOfUptoRow : OpenClaim := { program := "ytaipaifnkpgmhaa", sum := "f345b3cf860e2124f47aaca0def492d0e3bce33f84299aa003216da61a00664a", func := "sealwax/sealwaxlaw15.WordsOf", spec := "wordsOf", inPlace := ["slices.overlaps[string]"], unfollowed := true, recurses := true, apart := false, narrowed := true }
def WordsOfUptoSaid : Prop := wordsOfUptoRow.holds Try.pinned (OpenSpec.upto wordsOfSpec)

/-- 'sealwaxlaw15.WordsClean', WHERE WHAT IT READS IS OF BULK AT MOST 1048576: true; the input reads as it did. -/
def wordsCleanUptoRow : OpenClaim := { program := "ytaipaifnkpgmhaa", sum := "f345b3cf860e2124f47aaca0def492d0e3bce33f84299aa003216da61a00664a", func := "sealwax/sealwaxlaw15.WordsClean", spec := "wordsClean", inPlace := ["slices.overlaps[string]"], unfollowed := true, recurses := true, apart := false, narrowed := true }
def WordsCleanUptoSaid : Prop := wordsCleanUptoRow.holds Try.pinned (OpenSpec.upto wordsCleanSpec)

/-- 'sealwaxlaw15.WordsJoin', WHERE WHAT IT READS IS OF BULK AT MOST 1048576: true; the input reads as it did. -/
def wordsJoinUptoRow : OpenClaim := { program := "ytaipaifnkpgmhaa", sum := "f345b3cf860e2124f47aaca0def492d0e3bce33f84299aa003216da61a00664a", func := "sealwax/sealwaxlaw15.WordsJoin", spec := "wordsJoin", inPlace := ["slices.overlaps[string]"], unfollowed := true, recurses := true, apart := false, narrowed := true }
def WordsJoinUptoSaid : Prop := wordsJoinUptoRow.holds Try.pinned (OpenSpec.upto wordsJoinSpec)

/-- 'sealwaxlaw15.WordsCase', WHERE WHAT IT READS IS OF BULK AT MOST 1048576: true; the input reads as it did. -/
def wordsCaseUptoRow : OpenClaim := { program := "ytaipaifnkpgmhaa", sum := "f345b3cf860e2124f47aaca0def492d0e3bce33f84299aa003216da61a00664a", func := "sealwax/sealwaxlaw15.WordsCase", spec := "wordsCase", inPlace := ["slices.overlaps[string]"], unfollowed := true, recurses := true, apart := false, narrowed := true }
def WordsCaseUptoSaid : Prop := wordsCaseUptoRow.holds Try.pinned (OpenSpec.upto wordsCaseSpec)

/-- 'sealwaxlaw15.WordsTwice', WHERE WHAT IT READS IS OF BULK AT MOST 1048576: true; the input reads as it did. -/
def wordsTwiceUptoRow : OpenClaim := { program := "ytaipaifnkpgmhaa", sum := "f345b3cf860e2124f47aaca0def492d0e3bce33f84299aa003216da61a00664a", func := "sealwax/sealwaxlaw15.WordsTwice", spec := "wordsTwice", inPlace := ["slices.overlaps[string]"], unfollowed := true, recurses := true, apart := false, narrowed := true }
def WordsTwiceUptoSaid : Prop := wordsTwiceUptoRow.holds Try.pinned (OpenSpec.upto wordsTwiceSpec)

end Rows
end Go.Proofs.Ytaipaifnkpgmhaa
