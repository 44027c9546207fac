/-
  DERIVED. GIVEN WITH THE SEED: THE CARDS: each row of YtiolflofkoeffaaDoorRows.lean that lists a variable, with what it lists TIED to the program's text (the seventh form; the later family's looks); each row that meets fmt, with fmt's text TOLD by the authors' own Lean function (tested against real Go, not proved from fmt's source: count such statements apart). THE CARD IS WHAT COUNTS. Prove the row's statement (the work); the ties are given (YtiolflofkoeffaaDoorTie.lean); close each card by the builder's one call (the guide's Derived/Test/ToyasCard.lean, 'card_holds'). Laid BY PROGRAM, IN A SANDBOX (cutbox-door.mjs). By AI agents, Wed Nov 11 2026. No macro, syntax, notation, axiom, sorry.
-/
import Derived.Test.YtiolflofkoeffaaDoorRows
import GoSem.ClaimSeven
namespace Go.Proofs.YtiolflofkoeffaaDoor
namespace Rows

/-- THE TIED CARD OF 'sealwaxlaw03.StreamFirst'. -/
def streamFirstCard : Claim7 := { stood := { row := streamFirstRow, standIns := [], harness := (true, "4ef1aa8046ad72e0f2a2ba804a5fbf7824ea6c11f5c175acc1006f039ded8901"), looks := false }, kinds := [], alts := [], laidByText := true, laidKinds := [.data], laidTests := true, laidLooks := .later }
def StreamFirstCardSaid : Prop := Claim7.holds Tryd.pinned (.plain (OpenSpec.ofChange streamFirstSpec)) streamFirstCard

/-- THE TIED CARD OF 'sealwaxlaw04.PolyTags'. -/
def polyTagsCard : Claim7 := { stood := { row := polyTagsRow, standIns := [], harness := (true, "4ef1aa8046ad72e0f2a2ba804a5fbf7824ea6c11f5c175acc1006f039ded8901"), looks := false }, kinds := [], alts := [], laidByText := true, laidKinds := [.data], laidTests := true, laidLooks := .later }
def PolyTagsCardSaid : Prop := Claim7.holds Tryd.pinned (.plain (OpenSpec.ofChange polyTagsSpec)) polyTagsCard

/-- THE TIED CARD OF 'sealwaxlaw04.PolyEnds'. -/
def polyEndsCard : Claim7 := { stood := { row := polyEndsRow, standIns := [], harness := (true, "4ef1aa8046ad72e0f2a2ba804a5fbf7824ea6c11f5c175acc1006f039ded8901"), looks := false }, kinds := [], alts := [], laidByText := true, laidKinds := [.data], laidTests := true, laidLooks := .later }
def PolyEndsCardSaid : Prop := Claim7.holds Tryd.pinned (.plain (OpenSpec.ofChange polyEndsSpec)) polyEndsCard

/-- THE TIED CARD OF 'sealwaxlaw04.PolySimple'. -/
def polySimpleCard : Claim7 := { stood := { row := polySimpleRow, standIns := [], harness := (true, "4ef1aa8046ad72e0f2a2ba804a5fbf7824ea6c11f5c175acc1006f039ded8901"), looks := false }, kinds := [], alts := [], laidByText := true, laidKinds := [.data], laidTests := true, laidLooks := .later }
def PolySimpleCardSaid : Prop := Claim7.holds Tryd.pinned (.plain (OpenSpec.ofChange polySimpleSpec)) polySimpleCard

/-- THE TIED CARD OF 'sealwaxlaw05.AeadSeals'. -/
def aeadSealsCard : Claim7 := { stood := { row := aeadSealsRow, standIns := [], harness := (true, "4ef1aa8046ad72e0f2a2ba804a5fbf7824ea6c11f5c175acc1006f039ded8901"), looks := false }, kinds := [], alts := [], laidByText := true, laidKinds := [.data, .data], laidTests := true, laidLooks := .later }
def AeadSealsCardSaid : Prop := Claim7.holds Tryd.pinned (.plain (OpenSpec.ofChange aeadSealsSpec)) aeadSealsCard

/-- THE TIED CARD OF 'sealwaxlaw05.AeadOpens'. -/
def aeadOpensCard : Claim7 := { stood := { row := aeadOpensRow, standIns := [], harness := (true, "4ef1aa8046ad72e0f2a2ba804a5fbf7824ea6c11f5c175acc1006f039ded8901"), looks := false }, kinds := [], alts := [], laidByText := true, laidKinds := [.data, .data], laidTests := true, laidLooks := .later }
def AeadOpensCardSaid : Prop := Claim7.holds Tryd.pinned (.plain (OpenSpec.ofChange aeadOpensSpec)) aeadOpensCard

/-- THE TIED CARD OF 'sealwaxlaw05.AeadTurned'. -/
def aeadTurnedCard : Claim7 := { stood := { row := aeadTurnedRow, standIns := [], harness := (true, "4ef1aa8046ad72e0f2a2ba804a5fbf7824ea6c11f5c175acc1006f039ded8901"), looks := false }, kinds := [], alts := [], laidByText := true, laidKinds := [.data, .data], laidTests := true, laidLooks := .later }
def AeadTurnedCardSaid : Prop := Claim7.holds Tryd.pinned (.plain (OpenSpec.ofChange aeadTurnedSpec)) aeadTurnedCard

/-- THE SECOND FORM's CARD OF 'sealwaxlaw03.StreamFirst'. -/
def streamFirstUptoCard : Claim7 := { stood := { row := streamFirstUptoRow, standIns := [], harness := (true, "4ef1aa8046ad72e0f2a2ba804a5fbf7824ea6c11f5c175acc1006f039ded8901"), looks := false }, kinds := [], alts := [], laidByText := true, laidKinds := [.data], laidTests := true, laidLooks := .later }
def StreamFirstUptoCardSaid : Prop := Claim7.holds Tryd.pinned (.plain (OpenSpec.upto streamFirstSpec)) streamFirstUptoCard

/-- THE SECOND FORM's CARD OF 'sealwaxlaw04.PolyTags'. -/
def polyTagsUptoCard : Claim7 := { stood := { row := polyTagsUptoRow, standIns := [], harness := (true, "4ef1aa8046ad72e0f2a2ba804a5fbf7824ea6c11f5c175acc1006f039ded8901"), looks := false }, kinds := [], alts := [], laidByText := true, laidKinds := [.data], laidTests := true, laidLooks := .later }
def PolyTagsUptoCardSaid : Prop := Claim7.holds Tryd.pinned (.plain (OpenSpec.upto polyTagsSpec)) polyTagsUptoCard

/-- THE SECOND FORM's CARD OF 'sealwaxlaw04.PolyEnds'. -/
def polyEndsUptoCard : Claim7 := { stood := { row := polyEndsUptoRow, standIns := [], harness := (true, "4ef1aa8046ad72e0f2a2ba804a5fbf7824ea6c11f5c175acc1006f039ded8901"), looks := false }, kinds := [], alts := [], laidByText := true, laidKinds := [.data], laidTests := true, laidLooks := .later }
def PolyEndsUptoCardSaid : Prop := Claim7.holds Tryd.pinned (.plain (OpenSpec.upto polyEndsSpec)) polyEndsUptoCard

/-- THE SECOND FORM's CARD OF 'sealwaxlaw04.PolySimple'. -/
def polySimpleUptoCard : Claim7 := { stood := { row := polySimpleUptoRow, standIns := [], harness := (true, "4ef1aa8046ad72e0f2a2ba804a5fbf7824ea6c11f5c175acc1006f039ded8901"), looks := false }, kinds := [], alts := [], laidByText := true, laidKinds := [.data], laidTests := true, laidLooks := .later }
def PolySimpleUptoCardSaid : Prop := Claim7.holds Tryd.pinned (.plain (OpenSpec.upto polySimpleSpec)) polySimpleUptoCard

/-- THE SECOND FORM's CARD OF 'sealwaxlaw05.AeadSeals'. -/
def aeadSealsUptoCard : Claim7 := { stood := { row := aeadSealsUptoRow, standIns := [], harness := (true, "4ef1aa8046ad72e0f2a2ba804a5fbf7824ea6c11f5c175acc1006f039ded8901"), looks := false }, kinds := [], alts := [], laidByText := true, laidKinds := [.data, .data], laidTests := true, laidLooks := .later }
def AeadSealsUptoCardSaid : Prop := Claim7.holds Tryd.pinned (.plain (OpenSpec.upto aeadSealsSpec)) aeadSealsUptoCard

/-- THE SECOND FORM's CARD OF 'sealwaxlaw05.AeadOpens'. -/
def aeadOpensUptoCard : Claim7 := { stood := { row := aeadOpensUptoRow, standIns := [], harness := (true, "4ef1aa8046ad72e0f2a2ba804a5fbf7824ea6c11f5c175acc1006f039ded8901"), looks := false }, kinds := [], alts := [], laidByText := true, laidKinds := [.data, .data], laidTests := true, laidLooks := .later }
def AeadOpensUptoCardSaid : Prop := Claim7.holds Tryd.pinned (.plain (OpenSpec.upto aeadOpensSpec)) aeadOpensUptoCard

/-- THE SECOND FORM's CARD OF 'sealwaxlaw05.AeadTurned'. -/
def aeadTurnedUptoCard : Claim7 := { stood := { row := aeadTurnedUptoRow, standIns := [], harness := (true, "4ef1aa8046ad72e0f2a2ba804a5fbf7824ea6c11f5c175acc1006f039ded8901"), looks := false }, kinds := [], alts := [], laidByText := true, laidKinds := [.data, .data], laidTests := true, laidLooks := .later }
def AeadTurnedUptoCardSaid : Prop := Claim7.holds Tryd.pinned (.plain (OpenSpec.upto aeadTurnedSpec)) aeadTurnedUptoCard
end Rows
end Go.Proofs.YtiolflofkoeffaaDoor
