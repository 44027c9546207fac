/-
  DERIVED. GIVEN WITH THE SEED: THE CARDS: each row of YtgjkkcggcljcdaaDoorRows.lean that lists a variable, with what it lists TIED to the program's text (the seventh form; the later family's looks); each row that meets fmt, with fmt's text TOLD by the authors' own Lean function (tested against real Go, not proved from fmt's source: count such statements apart). THE CARD IS WHAT COUNTS. Prove the row's statement (the work); the ties are given (YtgjkkcggcljcdaaDoorTie.lean); close each card by the builder's one call (the guide's Derived/Test/ToyasCard.lean, 'card_holds'). Laid BY PROGRAM, IN A SANDBOX (cutbox-door.mjs). By AI agents, Wed Nov 11 2026. No macro, syntax, notation, axiom, sorry.
-/
import Derived.Test.YtgjkkcggcljcdaaDoorRows
import GoSem.ClaimSeven
namespace Go.Proofs.YtgjkkcggcljcdaaDoor
namespace Rows

/-- THE TIED CARD OF 'sealwaxlaw08.SuiteIdeal'. -/
def suiteIdealCard : Claim7 := { stood := { row := suiteIdealRow, standIns := [], harness := (true, "e7f00b0104d5d23517bcc72301557f789b8d00052f92d3e1b809dd4b06bb71c5"), looks := false }, kinds := [], alts := [], laidByText := true, laidKinds := [.data, .data, .data, .data], laidTests := true, laidLooks := .later }
def SuiteIdealCardSaid : Prop := Claim7.holds Tryd.pinned (.plain (OpenSpec.ofChange suiteIdealSpec)) suiteIdealCard

/-- THE TIED CARD OF 'sealwaxlaw08.SuiteLabels'. -/
def suiteLabelsCard : Claim7 := { stood := { row := suiteLabelsRow, standIns := [], harness := (true, "e7f00b0104d5d23517bcc72301557f789b8d00052f92d3e1b809dd4b06bb71c5"), looks := false }, kinds := [], alts := [], laidByText := true, laidKinds := [.data, .data, .data, .data], laidTests := true, laidLooks := .later }
def SuiteLabelsCardSaid : Prop := Claim7.holds Tryd.pinned (.plain (OpenSpec.ofChange suiteLabelsSpec)) suiteLabelsCard

/-- THE TIED CARD OF 'sealwaxlaw08.SuiteTape'. -/
def suiteTapeCard : Claim7 := { stood := { row := suiteTapeRow, standIns := [], harness := (true, "e7f00b0104d5d23517bcc72301557f789b8d00052f92d3e1b809dd4b06bb71c5"), looks := false }, kinds := [], alts := [], laidByText := true, laidKinds := [.data, .data, .data, .data], laidTests := true, laidLooks := .later }
def SuiteTapeCardSaid : Prop := Claim7.holds Tryd.pinned (.plain (OpenSpec.ofChange suiteTapeSpec)) suiteTapeCard

/-- THE SECOND FORM's CARD OF 'sealwaxlaw08.SuiteIdeal'. -/
def suiteIdealUptoCard : Claim7 := { stood := { row := suiteIdealUptoRow, standIns := [], harness := (true, "e7f00b0104d5d23517bcc72301557f789b8d00052f92d3e1b809dd4b06bb71c5"), looks := false }, kinds := [], alts := [], laidByText := true, laidKinds := [.data, .data, .data, .data], laidTests := true, laidLooks := .later }
def SuiteIdealUptoCardSaid : Prop := Claim7.holds Tryd.pinned (.plain (OpenSpec.upto suiteIdealSpec)) suiteIdealUptoCard

/-- THE SECOND FORM's CARD OF 'sealwaxlaw08.SuiteLabels'. -/
def suiteLabelsUptoCard : Claim7 := { stood := { row := suiteLabelsUptoRow, standIns := [], harness := (true, "e7f00b0104d5d23517bcc72301557f789b8d00052f92d3e1b809dd4b06bb71c5"), looks := false }, kinds := [], alts := [], laidByText := true, laidKinds := [.data, .data, .data, .data], laidTests := true, laidLooks := .later }
def SuiteLabelsUptoCardSaid : Prop := Claim7.holds Tryd.pinned (.plain (OpenSpec.upto suiteLabelsSpec)) suiteLabelsUptoCard

/-- THE SECOND FORM's CARD OF 'sealwaxlaw08.SuiteTape'. -/
def suiteTapeUptoCard : Claim7 := { stood := { row := suiteTapeUptoRow, standIns := [], harness := (true, "e7f00b0104d5d23517bcc72301557f789b8d00052f92d3e1b809dd4b06bb71c5"), looks := false }, kinds := [], alts := [], laidByText := true, laidKinds := [.data, .data, .data, .data], laidTests := true, laidLooks := .later }
def SuiteTapeUptoCardSaid : Prop := Claim7.holds Tryd.pinned (.plain (OpenSpec.upto suiteTapeSpec)) suiteTapeUptoCard
end Rows
end Go.Proofs.YtgjkkcggcljcdaaDoor
