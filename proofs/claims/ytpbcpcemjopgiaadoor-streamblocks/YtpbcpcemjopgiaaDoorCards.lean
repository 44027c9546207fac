/-
  DERIVED. GIVEN WITH THE SEED: THE CARDS: each row of YtpbcpcemjopgiaaDoorRows.lean that lists a variable, with what it lists TIED to the program's text (the seventh form; the later family's looks); each row that meets fmt, with fmt's text TOLD by the authors' own Lean function (tested against real Go, not proved from fmt's source: count such statements apart). THE CARD IS WHAT COUNTS. Prove the row's statement (the work); the ties are given (YtpbcpcemjopgiaaDoorTie.lean); close each card by the builder's one call (the guide's Derived/Test/ToyasCard.lean, 'card_holds'). Laid BY PROGRAM, IN A SANDBOX (cutbox-door.mjs). By AI agents, Wed Nov 11 2026. No macro, syntax, notation, axiom, sorry.
-/
import Derived.Test.YtpbcpcemjopgiaaDoorRows
import GoSem.ClaimSeven
namespace Go.Proofs.YtpbcpcemjopgiaaDoor
namespace Rows

/-- THE TIED CARD OF 'sealwaxlaw03.StreamBlocks'. -/
def streamBlocksCard : Claim7 := { stood := { row := streamBlocksRow, standIns := [], harness := (true, "d787b0594199b5ebccc174eb36e57c047e6c2f7f186d80f9ce5c096e9b8b6c01"), looks := false }, kinds := [], alts := [], laidByText := true, laidKinds := [.data], laidTests := true, laidLooks := .later }
def StreamBlocksCardSaid : Prop := Claim7.holds Tryd.pinned (.plain (OpenSpec.ofChange streamBlocksSpec)) streamBlocksCard

/-- THE TIED CARD OF 'sealwaxlaw03.StreamXors'. -/
def streamXorsCard : Claim7 := { stood := { row := streamXorsRow, standIns := [], harness := (true, "d787b0594199b5ebccc174eb36e57c047e6c2f7f186d80f9ce5c096e9b8b6c01"), looks := false }, kinds := [], alts := [], laidByText := true, laidKinds := [.data], laidTests := true, laidLooks := .later }
def StreamXorsCardSaid : Prop := Claim7.holds Tryd.pinned (.plain (OpenSpec.ofChange streamXorsSpec)) streamXorsCard

/-- THE TIED CARD OF 'sealwaxlaw03.StreamParts'. -/
def streamPartsCard : Claim7 := { stood := { row := streamPartsRow, standIns := [], harness := (true, "d787b0594199b5ebccc174eb36e57c047e6c2f7f186d80f9ce5c096e9b8b6c01"), looks := false }, kinds := [], alts := [], laidByText := true, laidKinds := [.data], laidTests := true, laidLooks := .later }
def StreamPartsCardSaid : Prop := Claim7.holds Tryd.pinned (.plain (OpenSpec.ofChange streamPartsSpec)) streamPartsCard

/-- THE TIED CARD OF 'sealwaxlaw03.StreamBytes'. -/
def streamBytesCard : Claim7 := { stood := { row := streamBytesRow, standIns := [], harness := (true, "d787b0594199b5ebccc174eb36e57c047e6c2f7f186d80f9ce5c096e9b8b6c01"), looks := false }, kinds := [], alts := [], laidByText := true, laidKinds := [.data], laidTests := true, laidLooks := .later }
def StreamBytesCardSaid : Prop := Claim7.holds Tryd.pinned (.plain (OpenSpec.ofChange streamBytesSpec)) streamBytesCard

/-- THE TIED CARD OF 'sealwaxlaw03.StreamFirst'. -/
def streamFirstCard : Claim7 := { stood := { row := streamFirstRow, standIns := [], harness := (true, "d787b0594199b5ebccc174eb36e57c047e6c2f7f186d80f9ce5c096e9b8b6c01"), looks := false }, kinds := [], alts := [], laidByText := true, laidKinds := [.data], laidTests := true, laidLooks := .later }
def StreamFirstCardSaid : Prop := Claim7.holds Tryd.pinned (.plain (OpenSpec.ofChange streamFirstSpec)) streamFirstCard

/-- THE TIED CARD OF 'sealwaxlaw04.PolyTags'. -/
def polyTagsCard : Claim7 := { stood := { row := polyTagsRow, standIns := [], harness := (true, "d787b0594199b5ebccc174eb36e57c047e6c2f7f186d80f9ce5c096e9b8b6c01"), looks := false }, kinds := [], alts := [], laidByText := true, laidKinds := [.data], laidTests := true, laidLooks := .later }
def PolyTagsCardSaid : Prop := Claim7.holds Tryd.pinned (.plain (OpenSpec.ofChange polyTagsSpec)) polyTagsCard

/-- THE TIED CARD OF 'sealwaxlaw04.PolyEnds'. -/
def polyEndsCard : Claim7 := { stood := { row := polyEndsRow, standIns := [], harness := (true, "d787b0594199b5ebccc174eb36e57c047e6c2f7f186d80f9ce5c096e9b8b6c01"), looks := false }, kinds := [], alts := [], laidByText := true, laidKinds := [.data], laidTests := true, laidLooks := .later }
def PolyEndsCardSaid : Prop := Claim7.holds Tryd.pinned (.plain (OpenSpec.ofChange polyEndsSpec)) polyEndsCard

/-- THE TIED CARD OF 'sealwaxlaw04.PolyEqual'. -/
def polyEqualCard : Claim7 := { stood := { row := polyEqualRow, standIns := [], harness := (true, "d787b0594199b5ebccc174eb36e57c047e6c2f7f186d80f9ce5c096e9b8b6c01"), looks := false }, kinds := [], alts := [], laidByText := true, laidKinds := [.data], laidTests := true, laidLooks := .later }
def PolyEqualCardSaid : Prop := Claim7.holds Tryd.pinned (.plain (OpenSpec.ofChange polyEqualSpec)) polyEqualCard

/-- THE TIED CARD OF 'sealwaxlaw04.PolySimple'. -/
def polySimpleCard : Claim7 := { stood := { row := polySimpleRow, standIns := [], harness := (true, "d787b0594199b5ebccc174eb36e57c047e6c2f7f186d80f9ce5c096e9b8b6c01"), looks := false }, kinds := [], alts := [], laidByText := true, laidKinds := [.data], laidTests := true, laidLooks := .later }
def PolySimpleCardSaid : Prop := Claim7.holds Tryd.pinned (.plain (OpenSpec.ofChange polySimpleSpec)) polySimpleCard

/-- THE SECOND FORM's CARD OF 'sealwaxlaw03.StreamBlocks'. -/
def streamBlocksUptoCard : Claim7 := { stood := { row := streamBlocksUptoRow, standIns := [], harness := (true, "d787b0594199b5ebccc174eb36e57c047e6c2f7f186d80f9ce5c096e9b8b6c01"), looks := false }, kinds := [], alts := [], laidByText := true, laidKinds := [.data], laidTests := true, laidLooks := .later }
def StreamBlocksUptoCardSaid : Prop := Claim7.holds Tryd.pinned (.plain (OpenSpec.upto streamBlocksSpec)) streamBlocksUptoCard

/-- THE SECOND FORM's CARD OF 'sealwaxlaw03.StreamXors'. -/
def streamXorsUptoCard : Claim7 := { stood := { row := streamXorsUptoRow, standIns := [], harness := (true, "d787b0594199b5ebccc174eb36e57c047e6c2f7f186d80f9ce5c096e9b8b6c01"), looks := false }, kinds := [], alts := [], laidByText := true, laidKinds := [.data], laidTests := true, laidLooks := .later }
def StreamXorsUptoCardSaid : Prop := Claim7.holds Tryd.pinned (.plain (OpenSpec.upto streamXorsSpec)) streamXorsUptoCard

/-- THE SECOND FORM's CARD OF 'sealwaxlaw03.StreamParts'. -/
def streamPartsUptoCard : Claim7 := { stood := { row := streamPartsUptoRow, standIns := [], harness := (true, "d787b0594199b5ebccc174eb36e57c047e6c2f7f186d80f9ce5c096e9b8b6c01"), looks := false }, kinds := [], alts := [], laidByText := true, laidKinds := [.data], laidTests := true, laidLooks := .later }
def StreamPartsUptoCardSaid : Prop := Claim7.holds Tryd.pinned (.plain (OpenSpec.upto streamPartsSpec)) streamPartsUptoCard

/-- THE SECOND FORM's CARD OF 'sealwaxlaw03.StreamBytes'. -/
def streamBytesUptoCard : Claim7 := { stood := { row := streamBytesUptoRow, standIns := [], harness := (true, "d787b0594199b5ebccc174eb36e57c047e6c2f7f186d80f9ce5c096e9b8b6c01"), looks := false }, kinds := [], alts := [], laidByText := true, laidKinds := [.data], laidTests := true, laidLooks := .later }
def StreamBytesUptoCardSaid : Prop := Claim7.holds Tryd.pinned (.plain (OpenSpec.upto streamBytesSpec)) streamBytesUptoCard

/-- THE SECOND FORM's CARD OF 'sealwaxlaw03.StreamFirst'. -/
def streamFirstUptoCard : Claim7 := { stood := { row := streamFirstUptoRow, standIns := [], harness := (true, "d787b0594199b5ebccc174eb36e57c047e6c2f7f186d80f9ce5c096e9b8b6c01"), looks := false }, kinds := [], alts := [], laidByText := true, laidKinds := [.data], laidTests := true, laidLooks := .later }
def StreamFirstUptoCardSaid : Prop := Claim7.holds Tryd.pinned (.plain (OpenSpec.upto streamFirstSpec)) streamFirstUptoCard

/-- THE SECOND FORM's CARD OF 'sealwaxlaw04.PolyTags'. -/
def polyTagsUptoCard : Claim7 := { stood := { row := polyTagsUptoRow, standIns := [], harness := (true, "d787b0594199b5ebccc174eb36e57c047e6c2f7f186d80f9ce5c096e9b8b6c01"), looks := false }, kinds := [], alts := [], laidByText := true, laidKinds := [.data], laidTests := true, laidLooks := .later }
def PolyTagsUptoCardSaid : Prop := Claim7.holds Tryd.pinned (.plain (OpenSpec.upto polyTagsSpec)) polyTagsUptoCard

/-- THE SECOND FORM's CARD OF 'sealwaxlaw04.PolyEnds'. -/
def polyEndsUptoCard : Claim7 := { stood := { row := polyEndsUptoRow, standIns := [], harness := (true, "d787b0594199b5ebccc174eb36e57c047e6c2f7f186d80f9ce5c096e9b8b6c01"), looks := false }, kinds := [], alts := [], laidByText := true, laidKinds := [.data], laidTests := true, laidLooks := .later }
def PolyEndsUptoCardSaid : Prop := Claim7.holds Tryd.pinned (.plain (OpenSpec.upto polyEndsSpec)) polyEndsUptoCard

/-- THE SECOND FORM's CARD OF 'sealwaxlaw04.PolyEqual'. -/
def polyEqualUptoCard : Claim7 := { stood := { row := polyEqualUptoRow, standIns := [], harness := (true, "d787b0594199b5ebccc174eb36e57c047e6c2f7f186d80f9ce5c096e9b8b6c01"), looks := false }, kinds := [], alts := [], laidByText := true, laidKinds := [.data], laidTests := true, laidLooks := .later }
def PolyEqualUptoCardSaid : Prop := Claim7.holds Tryd.pinned (.plain (OpenSpec.upto polyEqualSpec)) polyEqualUptoCard

/-- THE SECOND FORM's CARD OF 'sealwaxlaw04.PolySimple'. -/
def polySimpleUptoCard : Claim7 := { stood := { row := polySimpleUptoRow, standIns := [], harness := (true, "d787b0594199b5ebccc174eb36e57c047e6c2f7f186d80f9ce5c096e9b8b6c01"), looks := false }, kinds := [], alts := [], laidByText := true, laidKinds := [.data], laidTests := true, laidLooks := .later }
def PolySimpleUptoCardSaid : Prop := Claim7.holds Tryd.pinned (.plain (OpenSpec.upto polySimpleSpec)) polySimpleUptoCard
end Rows
end Go.Proofs.YtpbcpcemjopgiaaDoor
