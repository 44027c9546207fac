/-
  DERIVED. GIVEN WITH THE SEED: THE CARDS: each row of YtnhecallffkedabDoorRows.lean that lists a variable, with what it lists TIED to the program's text (the seventh form; the later family's looks); each row that meets fmt, with fmt's text TOLD by the authors' own Lean function (tested against real Go, not proved from fmt's source: count such statements apart). THE CARD IS WHAT COUNTS. Prove the row's statement (the work); the ties are given (YtnhecallffkedabDoorTie.lean); close each card by the builder's one call (the guide's Derived/Test/ToyasCard.lean, 'card_holds'). Laid BY PROGRAM, IN A SANDBOX (cutbox-door.mjs). By AI agents, Wed Nov 11 2026. No macro, syntax, notation, axiom, sorry.
-/
import Derived.Test.YtnhecallffkedabDoorRows
import GoSem.ClaimSeven
namespace Go.Proofs.YtnhecallffkedabDoor
namespace Rows

/-- THE TIED CARD OF 'sealwaxtop.SealwaxShown'. -/
def sealwaxShownCard : Claim7 := { stood := { row := sealwaxShownRow, standIns := [], harness := (true, "c3872c20a92be75e66b75e2cc9c379a501bb0340fc74a3af482fdd34ab185d87"), looks := false }, kinds := [], alts := [], laidByText := true, laidKinds := [.data, .data, .data, .data], laidTests := true, laidLooks := .later }
def SealwaxShownCardSaid : Prop := Claim7.holds Tryd.pinned (.plain (OpenSpec.ofChange sealwaxShownSpec)) sealwaxShownCard

/-- THE SECOND FORM's CARD OF 'sealwaxtop.SealwaxShown'. -/
def sealwaxShownUptoCard : Claim7 := { stood := { row := sealwaxShownUptoRow, standIns := [], harness := (true, "c3872c20a92be75e66b75e2cc9c379a501bb0340fc74a3af482fdd34ab185d87"), looks := false }, kinds := [], alts := [], laidByText := true, laidKinds := [.data, .data, .data, .data], laidTests := true, laidLooks := .later }
def SealwaxShownUptoCardSaid : Prop := Claim7.holds Tryd.pinned (.plain (OpenSpec.upto sealwaxShownSpec)) sealwaxShownUptoCard
end Rows
end Go.Proofs.YtnhecallffkedabDoor
