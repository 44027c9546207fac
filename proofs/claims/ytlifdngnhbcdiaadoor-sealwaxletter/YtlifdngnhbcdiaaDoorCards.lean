/-
  DERIVED. GIVEN WITH THE SEED: THE CARDS: each row of YtlifdngnhbcdiaaDoorRows.lean that lists a variable, with what it lists TIED to the program's text (the seventh form; the later family's looks); each row that meets fmt, with fmt's text TOLD by the authors' own Lean function (tested against real Go, not proved from fmt's source: count such statements apart). THE CARD IS WHAT COUNTS. Prove the row's statement (the work); the ties are given (YtlifdngnhbcdiaaDoorTie.lean); close each card by the builder's one call (the guide's Derived/Test/ToyasCard.lean, 'card_holds'). Laid BY PROGRAM, IN A SANDBOX (cutbox-door.mjs). By AI agents, Wed Nov 11 2026. No macro, syntax, notation, axiom, sorry.
-/
import Derived.Test.YtlifdngnhbcdiaaDoorRows
import GoSem.ClaimSeven
namespace Go.Proofs.YtlifdngnhbcdiaaDoor
namespace Rows

/-- THE TIED CARD OF 'sealwaxtop.SealwaxLetter'. -/
def sealwaxLetterCard : Claim7 := { stood := { row := sealwaxLetterRow, standIns := [], harness := (true, "4c5905a9dd1a1f1faca915d10fd60679a2fa637fbf8e12a55b7d211623130935"), looks := false }, kinds := [], alts := [], laidByText := true, laidKinds := [.data, .data, .data, .data], laidTests := true, laidLooks := .later }
def SealwaxLetterCardSaid : Prop := Claim7.holds Tryd.pinned (.plain (OpenSpec.ofChange sealwaxLetterSpec)) sealwaxLetterCard

/-- THE SECOND FORM's CARD OF 'sealwaxtop.SealwaxLetter'. -/
def sealwaxLetterUptoCard : Claim7 := { stood := { row := sealwaxLetterUptoRow, standIns := [], harness := (true, "4c5905a9dd1a1f1faca915d10fd60679a2fa637fbf8e12a55b7d211623130935"), looks := false }, kinds := [], alts := [], laidByText := true, laidKinds := [.data, .data, .data, .data], laidTests := true, laidLooks := .later }
def SealwaxLetterUptoCardSaid : Prop := Claim7.holds Tryd.pinned (.plain (OpenSpec.upto sealwaxLetterSpec)) sealwaxLetterUptoCard
end Rows
end Go.Proofs.YtlifdngnhbcdiaaDoor
