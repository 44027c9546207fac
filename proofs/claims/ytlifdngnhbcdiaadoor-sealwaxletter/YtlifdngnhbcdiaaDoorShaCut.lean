/-
  The laws' own Cut and Few; a slice of texts opened.
-/
import Derived.Test.YtlifdngnhbcdiaaDoorBase
import Derived.Test.YtlifdngnhbcdiaaDoorLawKit
import Derived.Test.YtlifdngnhbcdiaaDoorShaRefHex
import Derived.SliceStrings
namespace Go.Proofs.YtlifdngnhbcdiaaDoor
open Go.ChangeShapes Go.WideShapes Go.ChangeAt Go.RowKit
open Go.Lib (hid)

end Go.Proofs.YtlifdngnhbcdiaaDoor
