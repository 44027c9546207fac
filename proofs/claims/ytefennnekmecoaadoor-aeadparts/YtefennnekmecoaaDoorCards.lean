/-
  DERIVED. GIVEN WITH THE SEED: THE CARDS: each row of YtefennnekmecoaaDoorRows.lean that lists a variable, with what it lists TIED to the program's text (the seventh form; the later family's looks); each row that meets fmt, with fmt's text TOLD by the authors' own Lean function (tested against real Go, not proved from fmt's source: count such statements apart). THE CARD IS WHAT COUNTS. Prove the row's statement (the work); the ties are given (YtefennnekmecoaaDoorTie.lean); close each card by the builder's one call (the guide's Derived/Test/ToyasCard.lean, 'card_holds'). Laid BY PROGRAM, IN A SANDBOX (cutbox-door.mjs). By AI agents, Wed Nov 11 2026. No macro, syntax, notation, axiom, sorry.
-/
import Derived.Test.YtefennnekmecoaaDoorRows
import GoSem.ClaimSeven
namespace Go.Proofs.YtefennnekmecoaaDoor
namespace Rows

/-- THE TIED CARD OF 'sealwaxlaw03.StreamXors'. -/
def streamXorsCard : Claim7 := { stood := { row := streamXorsRow, standIns := [], harness := (true, "994e9e6a67395791231b4675057e42a88d1bd2acda68ce3ff83e9ea651c935da"), looks := false }, kinds := [], alts := [], laidByText := true, laidKinds := [.data], laidTests := true, laidLooks := .later }
def StreamXorsCardSaid : Prop := Claim7.holds Tryd.pinned (.plain (OpenSpec.ofChange streamXorsSpec)) streamXorsCard

/-- THE TIED CARD OF 'sealwaxlaw03.StreamParts'. -/
def streamPartsCard : Claim7 := { stood := { row := streamPartsRow, standIns := [], harness := (true, "994e9e6a67395791231b4675057e42a88d1bd2acda68ce3ff83e9ea651c935da"), looks := false }, kinds := [], alts := [], laidByText := true, laidKinds := [.data], laidTests := true, laidLooks := .later }
def StreamPartsCardSaid : Prop := Claim7.holds Tryd.pinned (.plain (OpenSpec.ofChange streamPartsSpec)) streamPartsCard

/-- THE TIED CARD OF 'sealwaxlaw03.StreamBytes'. -/
def streamBytesCard : Claim7 := { stood := { row := streamBytesRow, standIns := [], harness := (true, "994e9e6a67395791231b4675057e42a88d1bd2acda68ce3ff83e9ea651c935da"), looks := false }, kinds := [], alts := [], laidByText := true, laidKinds := [.data], laidTests := true, laidLooks := .later }
def StreamBytesCardSaid : Prop := Claim7.holds Tryd.pinned (.plain (OpenSpec.ofChange streamBytesSpec)) streamBytesCard

/-- THE TIED CARD OF 'sealwaxlaw03.StreamFirst'. -/
def streamFirstCard : Claim7 := { stood := { row := streamFirstRow, standIns := [], harness := (true, "994e9e6a67395791231b4675057e42a88d1bd2acda68ce3ff83e9ea651c935da"), looks := false }, kinds := [], alts := [], laidByText := true, laidKinds := [.data], laidTests := true, laidLooks := .later }
def StreamFirstCardSaid : Prop := Claim7.holds Tryd.pinned (.plain (OpenSpec.ofChange streamFirstSpec)) streamFirstCard

/-- THE TIED CARD OF 'sealwaxlaw04.PolyTags'. -/
def polyTagsCard : Claim7 := { stood := { row := polyTagsRow, standIns := [], harness := (true, "994e9e6a67395791231b4675057e42a88d1bd2acda68ce3ff83e9ea651c935da"), looks := false }, kinds := [], alts := [], laidByText := true, laidKinds := [.data], laidTests := true, laidLooks := .later }
def PolyTagsCardSaid : Prop := Claim7.holds Tryd.pinned (.plain (OpenSpec.ofChange polyTagsSpec)) polyTagsCard

/-- THE TIED CARD OF 'sealwaxlaw04.PolyEnds'. -/
def polyEndsCard : Claim7 := { stood := { row := polyEndsRow, standIns := [], harness := (true, "994e9e6a67395791231b4675057e42a88d1bd2acda68ce3ff83e9ea651c935da"), looks := false }, kinds := [], alts := [], laidByText := true, laidKinds := [.data], laidTests := true, laidLooks := .later }
def PolyEndsCardSaid : Prop := Claim7.holds Tryd.pinned (.plain (OpenSpec.ofChange polyEndsSpec)) polyEndsCard

/-- THE TIED CARD OF 'sealwaxlaw04.PolyEqual'. -/
def polyEqualCard : Claim7 := { stood := { row := polyEqualRow, standIns := [], harness := (true, "994e9e6a67395791231b4675057e42a88d1bd2acda68ce3ff83e9ea651c935da"), looks := false }, kinds := [], alts := [], laidByText := true, laidKinds := [.data], laidTests := true, laidLooks := .later }
def PolyEqualCardSaid : Prop := Claim7.holds Tryd.pinned (.plain (OpenSpec.ofChange polyEqualSpec)) polyEqualCard

/-- THE TIED CARD OF 'sealwaxlaw04.PolySimple'. -/
def polySimpleCard : Claim7 := { stood := { row := polySimpleRow, standIns := [], harness := (true, "994e9e6a67395791231b4675057e42a88d1bd2acda68ce3ff83e9ea651c935da"), looks := false }, kinds := [], alts := [], laidByText := true, laidKinds := [.data], laidTests := true, laidLooks := .later }
def PolySimpleCardSaid : Prop := Claim7.holds Tryd.pinned (.plain (OpenSpec.ofChange polySimpleSpec)) polySimpleCard

/-- THE TIED CARD OF 'sealwaxlaw05.AeadSeals'. -/
def aeadSealsCard : Claim7 := { stood := { row := aeadSealsRow, standIns := [], harness := (true, "994e9e6a67395791231b4675057e42a88d1bd2acda68ce3ff83e9ea651c935da"), looks := false }, kinds := [], alts := [], laidByText := true, laidKinds := [.data, .data], laidTests := true, laidLooks := .later }
def AeadSealsCardSaid : Prop := Claim7.holds Tryd.pinned (.plain (OpenSpec.ofChange aeadSealsSpec)) aeadSealsCard

/-- THE TIED CARD OF 'sealwaxlaw05.AeadOpens'. -/
def aeadOpensCard : Claim7 := { stood := { row := aeadOpensRow, standIns := [], harness := (true, "994e9e6a67395791231b4675057e42a88d1bd2acda68ce3ff83e9ea651c935da"), looks := false }, kinds := [], alts := [], laidByText := true, laidKinds := [.data, .data], laidTests := true, laidLooks := .later }
def AeadOpensCardSaid : Prop := Claim7.holds Tryd.pinned (.plain (OpenSpec.ofChange aeadOpensSpec)) aeadOpensCard

/-- THE TIED CARD OF 'sealwaxlaw05.AeadTurned'. -/
def aeadTurnedCard : Claim7 := { stood := { row := aeadTurnedRow, standIns := [], harness := (true, "994e9e6a67395791231b4675057e42a88d1bd2acda68ce3ff83e9ea651c935da"), looks := false }, kinds := [], alts := [], laidByText := true, laidKinds := [.data, .data], laidTests := true, laidLooks := .later }
def AeadTurnedCardSaid : Prop := Claim7.holds Tryd.pinned (.plain (OpenSpec.ofChange aeadTurnedSpec)) aeadTurnedCard

/-- THE TIED CARD OF 'sealwaxlaw05.AeadParts'. -/
def aeadPartsCard : Claim7 := { stood := { row := aeadPartsRow, standIns := [], harness := (true, "994e9e6a67395791231b4675057e42a88d1bd2acda68ce3ff83e9ea651c935da"), looks := false }, kinds := [], alts := [], laidByText := true, laidKinds := [.data, .data], laidTests := true, laidLooks := .later }
def AeadPartsCardSaid : Prop := Claim7.holds Tryd.pinned (.plain (OpenSpec.ofChange aeadPartsSpec)) aeadPartsCard

/-- THE TIED CARD OF 'sealwaxlaw05.AeadShort'. -/
def aeadShortCard : Claim7 := { stood := { row := aeadShortRow, standIns := [], harness := (true, "994e9e6a67395791231b4675057e42a88d1bd2acda68ce3ff83e9ea651c935da"), looks := false }, kinds := [], alts := [], laidByText := true, laidKinds := [.data, .data], laidTests := true, laidLooks := .later }
def AeadShortCardSaid : Prop := Claim7.holds Tryd.pinned (.plain (OpenSpec.ofChange aeadShortSpec)) aeadShortCard

/-- THE SECOND FORM's CARD OF 'sealwaxlaw03.StreamXors'. -/
def streamXorsUptoCard : Claim7 := { stood := { row := streamXorsUptoRow, standIns := [], harness := (true, "994e9e6a67395791231b4675057e42a88d1bd2acda68ce3ff83e9ea651c935da"), looks := false }, kinds := [], alts := [], laidByText := true, laidKinds := [.data], laidTests := true, laidLooks := .later }
def StreamXorsUptoCardSaid : Prop := Claim7.holds Tryd.pinned (.plain (OpenSpec.upto streamXorsSpec)) streamXorsUptoCard

/-- THE SECOND FORM's CARD OF 'sealwaxlaw03.StreamParts'. -/
def streamPartsUptoCard : Claim7 := { stood := { row := streamPartsUptoRow, standIns := [], harness := (true, "994e9e6a67395791231b4675057e42a88d1bd2acda68ce3ff83e9ea651c935da"), looks := false }, kinds := [], alts := [], laidByText := true, laidKinds := [.data], laidTests := true, laidLooks := .later }
def StreamPartsUptoCardSaid : Prop := Claim7.holds Tryd.pinned (.plain (OpenSpec.upto streamPartsSpec)) streamPartsUptoCard

/-- THE SECOND FORM's CARD OF 'sealwaxlaw03.StreamBytes'. -/
def streamBytesUptoCard : Claim7 := { stood := { row := streamBytesUptoRow, standIns := [], harness := (true, "994e9e6a67395791231b4675057e42a88d1bd2acda68ce3ff83e9ea651c935da"), looks := false }, kinds := [], alts := [], laidByText := true, laidKinds := [.data], laidTests := true, laidLooks := .later }
def StreamBytesUptoCardSaid : Prop := Claim7.holds Tryd.pinned (.plain (OpenSpec.upto streamBytesSpec)) streamBytesUptoCard

/-- THE SECOND FORM's CARD OF 'sealwaxlaw03.StreamFirst'. -/
def streamFirstUptoCard : Claim7 := { stood := { row := streamFirstUptoRow, standIns := [], harness := (true, "994e9e6a67395791231b4675057e42a88d1bd2acda68ce3ff83e9ea651c935da"), looks := false }, kinds := [], alts := [], laidByText := true, laidKinds := [.data], laidTests := true, laidLooks := .later }
def StreamFirstUptoCardSaid : Prop := Claim7.holds Tryd.pinned (.plain (OpenSpec.upto streamFirstSpec)) streamFirstUptoCard

/-- THE SECOND FORM's CARD OF 'sealwaxlaw04.PolyTags'. -/
def polyTagsUptoCard : Claim7 := { stood := { row := polyTagsUptoRow, standIns := [], harness := (true, "994e9e6a67395791231b4675057e42a88d1bd2acda68ce3ff83e9ea651c935da"), looks := false }, kinds := [], alts := [], laidByText := true, laidKinds := [.data], laidTests := true, laidLooks := .later }
def PolyTagsUptoCardSaid : Prop := Claim7.holds Tryd.pinned (.plain (OpenSpec.upto polyTagsSpec)) polyTagsUptoCard

/-- THE SECOND FORM's CARD OF 'sealwaxlaw04.PolyEnds'. -/
def polyEndsUptoCard : Claim7 := { stood := { row := polyEndsUptoRow, standIns := [], harness := (true, "994e9e6a67395791231b4675057e42a88d1bd2acda68ce3ff83e9ea651c935da"), looks := false }, kinds := [], alts := [], laidByText := true, laidKinds := [.data], laidTests := true, laidLooks := .later }
def PolyEndsUptoCardSaid : Prop := Claim7.holds Tryd.pinned (.plain (OpenSpec.upto polyEndsSpec)) polyEndsUptoCard

/-- THE SECOND FORM's CARD OF 'sealwaxlaw04.PolyEqual'. -/
def polyEqualUptoCard : Claim7 := { stood := { row := polyEqualUptoRow, standIns := [], harness := (true, "994e9e6a67395791231b4675057e42a88d1bd2acda68ce3ff83e9ea651c935da"), looks := false }, kinds := [], alts := [], laidByText := true, laidKinds := [.data], laidTests := true, laidLooks := .later }
def PolyEqualUptoCardSaid : Prop := Claim7.holds Tryd.pinned (.plain (OpenSpec.upto polyEqualSpec)) polyEqualUptoCard

/-- THE SECOND FORM's CARD OF 'sealwaxlaw04.PolySimple'. -/
def polySimpleUptoCard : Claim7 := { stood := { row := polySimpleUptoRow, standIns := [], harness := (true, "994e9e6a67395791231b4675057e42a88d1bd2acda68ce3ff83e9ea651c935da"), looks := false }, kinds := [], alts := [], laidByText := true, laidKinds := [.data], laidTests := true, laidLooks := .later }
def PolySimpleUptoCardSaid : Prop := Claim7.holds Tryd.pinned (.plain (OpenSpec.upto polySimpleSpec)) polySimpleUptoCard

/-- THE SECOND FORM's CARD OF 'sealwaxlaw05.AeadSeals'. -/
def aeadSealsUptoCard : Claim7 := { stood := { row := aeadSealsUptoRow, standIns := [], harness := (true, "994e9e6a67395791231b4675057e42a88d1bd2acda68ce3ff83e9ea651c935da"), looks := false }, kinds := [], alts := [], laidByText := true, laidKinds := [.data, .data], laidTests := true, laidLooks := .later }
def AeadSealsUptoCardSaid : Prop := Claim7.holds Tryd.pinned (.plain (OpenSpec.upto aeadSealsSpec)) aeadSealsUptoCard

/-- THE SECOND FORM's CARD OF 'sealwaxlaw05.AeadOpens'. -/
def aeadOpensUptoCard : Claim7 := { stood := { row := aeadOpensUptoRow, standIns := [], harness := (true, "994e9e6a67395791231b4675057e42a88d1bd2acda68ce3ff83e9ea651c935da"), looks := false }, kinds := [], alts := [], laidByText := true, laidKinds := [.data, .data], laidTests := true, laidLooks := .later }
def AeadOpensUptoCardSaid : Prop := Claim7.holds Tryd.pinned (.plain (OpenSpec.upto aeadOpensSpec)) aeadOpensUptoCard

/-- THE SECOND FORM's CARD OF 'sealwaxlaw05.AeadTurned'. -/
def aeadTurnedUptoCard : Claim7 := { stood := { row := aeadTurnedUptoRow, standIns := [], harness := (true, "994e9e6a67395791231b4675057e42a88d1bd2acda68ce3ff83e9ea651c935da"), looks := false }, kinds := [], alts := [], laidByText := true, laidKinds := [.data, .data], laidTests := true, laidLooks := .later }
def AeadTurnedUptoCardSaid : Prop := Claim7.holds Tryd.pinned (.plain (OpenSpec.upto aeadTurnedSpec)) aeadTurnedUptoCard

/-- THE SECOND FORM's CARD OF 'sealwaxlaw05.AeadParts'. -/
def aeadPartsUptoCard : Claim7 := { stood := { row := aeadPartsUptoRow, standIns := [], harness := (true, "994e9e6a67395791231b4675057e42a88d1bd2acda68ce3ff83e9ea651c935da"), looks := false }, kinds := [], alts := [], laidByText := true, laidKinds := [.data, .data], laidTests := true, laidLooks := .later }
def AeadPartsUptoCardSaid : Prop := Claim7.holds Tryd.pinned (.plain (OpenSpec.upto aeadPartsSpec)) aeadPartsUptoCard

/-- THE SECOND FORM's CARD OF 'sealwaxlaw05.AeadShort'. -/
def aeadShortUptoCard : Claim7 := { stood := { row := aeadShortUptoRow, standIns := [], harness := (true, "994e9e6a67395791231b4675057e42a88d1bd2acda68ce3ff83e9ea651c935da"), looks := false }, kinds := [], alts := [], laidByText := true, laidKinds := [.data, .data], laidTests := true, laidLooks := .later }
def AeadShortUptoCardSaid : Prop := Claim7.holds Tryd.pinned (.plain (OpenSpec.upto aeadShortSpec)) aeadShortUptoCard
end Rows
end Go.Proofs.YtefennnekmecoaaDoor
