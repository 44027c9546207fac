/-
  The laws' own Cut and Few; a slice of texts opened.
-/
import Derived.Test.YtnhecallffkedabDoorBase
import Derived.Test.YtnhecallffkedabDoorLawKit
import Derived.Test.YtnhecallffkedabDoorShaRefHex
import Derived.SliceStrings
namespace Go.Proofs.YtnhecallffkedabDoor
open Go.ChangeShapes Go.WideShapes Go.ChangeAt Go.RowKit
open Go.Lib (hid)

end Go.Proofs.YtnhecallffkedabDoor
