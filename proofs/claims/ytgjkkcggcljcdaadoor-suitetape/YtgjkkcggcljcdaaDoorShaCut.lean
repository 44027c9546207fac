/-
  The laws' own Cut and Few; a slice of texts opened.
-/
import Derived.Test.YtgjkkcggcljcdaaDoorBase
import Derived.Test.YtgjkkcggcljcdaaDoorLawKit
import Derived.Test.YtgjkkcggcljcdaaDoorShaRefHex
import Derived.SliceStrings
namespace Go.Proofs.YtgjkkcggcljcdaaDoor
open Go.ChangeShapes Go.WideShapes Go.ChangeAt Go.RowKit
open Go.Lib (hid)

end Go.Proofs.YtgjkkcggcljcdaaDoor
