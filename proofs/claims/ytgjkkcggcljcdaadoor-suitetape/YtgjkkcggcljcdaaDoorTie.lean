/-
  DERIVED. GIVEN WITH THE SEED: THE PROGRAM's TIES (one call each: nine closed facts by the kernel) AND EACH ROW's TIE, after the 31st guide's Derived/Test/Toyas{Tie, Card}.lean. No idea stands in it: it is a product of the set-up. Laid BY PROGRAM, IN A SANDBOX (cutbox-door.mjs). By AI agents, Wed Nov 11 2026. No macro, syntax, notation, axiom, sorry.
-/
import Derived.Test.YtgjkkcggcljcdaaDoorRows
import Derived.LaidByTextLater
import Derived.SevenTiedAt
import Derived.LaidSub
import Derived.LaidOnce
namespace Go.Proofs.YtgjkkcggcljcdaaDoor
open Go
set_option maxRecDepth 100000
theorem seatTie1 : Tryd.prog.laidByTextLater [("sealwax/poly.kept", Rows.laid_sealwax_poly_kept), ("sealwax/sha.first", Rows.laid_sealwax_sha_first), ("sealwax/sha.constants", Rows.laid_sealwax_sha_constants), ("sealwax/stream.quarters", Rows.laid_sealwax_stream_quarters)] [.data, .data, .data, .data] true :=
  Program.laidByTextLater_by_one 37 8 65 (by kernel_rfl) (by kernel_rfl) (by kernel_rfl) (by kernel_rfl) (by kernel_rfl) (by kernel_rfl) (fun _ _ => by kernel_rfl)
theorem noOwnUnsafe : Tryd.pinned.checked.prog.headLifts.contains "ownunsafe" = false := by kernel_rfl
theorem tie : Tryd.prog.laidByTextLater [("sealwax/poly.kept", Rows.laid_sealwax_poly_kept), ("sealwax/sha.first", Rows.laid_sealwax_sha_first), ("sealwax/sha.constants", Rows.laid_sealwax_sha_constants), ("sealwax/stream.quarters", Rows.laid_sealwax_stream_quarters)] [.data, .data, .data, .data] true :=
  Program.laidByTextLater.sub seatTie1 ["sealwax/poly.kept", "sealwax/sha.first", "sealwax/sha.constants", "sealwax/stream.quarters"] (by kernel_rfl) (by kernel_rfl)
theorem suiteIdeal_row_tie : Rows.suiteIdealRow.laidByTextAt .later Tryd.pinned [.data, .data, .data, .data] true :=
  OpenClaim.laidByTextAt_later rfl rfl tie noOwnUnsafe
theorem suiteLabels_row_tie : Rows.suiteLabelsRow.laidByTextAt .later Tryd.pinned [.data, .data, .data, .data] true :=
  OpenClaim.laidByTextAt_later rfl rfl tie noOwnUnsafe
theorem suiteTape_row_tie : Rows.suiteTapeRow.laidByTextAt .later Tryd.pinned [.data, .data, .data, .data] true :=
  OpenClaim.laidByTextAt_later rfl rfl tie noOwnUnsafe
theorem suiteIdealUpto_row_tie : Rows.suiteIdealUptoRow.laidByTextAt .later Tryd.pinned [.data, .data, .data, .data] true :=
  OpenClaim.laidByTextAt_later rfl rfl tie noOwnUnsafe
theorem suiteLabelsUpto_row_tie : Rows.suiteLabelsUptoRow.laidByTextAt .later Tryd.pinned [.data, .data, .data, .data] true :=
  OpenClaim.laidByTextAt_later rfl rfl tie noOwnUnsafe
theorem suiteTapeUpto_row_tie : Rows.suiteTapeUptoRow.laidByTextAt .later Tryd.pinned [.data, .data, .data, .data] true :=
  OpenClaim.laidByTextAt_later rfl rfl tie noOwnUnsafe
end Go.Proofs.YtgjkkcggcljcdaaDoor
