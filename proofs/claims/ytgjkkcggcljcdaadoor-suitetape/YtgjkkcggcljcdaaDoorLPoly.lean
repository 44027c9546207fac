/-
  The laws of layer 4: the fixed fact that each begins with, and the listed table.
-/
import Derived.Test.YtgjkkcggcljcdaaDoorPolyA
import Derived.Lib.LaidTab
import Derived.Lib.SlBytesConst
import Derived.Stop.LaidErr
namespace Go.Proofs.YtgjkkcggcljcdaaDoor
open Go.ChangeShapes Go.WideShapes Go.ChangeAt Go.RowKit
open Go.Lib (hid)

theorem gKp : Tryd.prog.globalNamed "sealwax/poly.kept" = some 1 := by kernel_rfl
theorem gKpType : (Tryd.prog.globals[1]?).map (·.type) = some 44 := by kernel_rfl
theorem dataKp : (Rows.laid_sealwax_poly_kept : DataW Unit) = Lib.tabData .u8 (Px.kept.map fun n : Nat => (n : Int)) := by kernel_rfl
/-- The row's list gives the table. -/
theorem tabk_of {W : World} (h : laidMetH Tryd.prog [("sealwax/poly.kept", Rows.laid_sealwax_poly_kept)] W) : TabK W := by
  have h' : laidMet Tryd.prog [("sealwax/poly.kept", Rows.laid_sealwax_poly_kept)] W := h
  rw [dataKp] at h'
  have t1 := Lib.tabIs_of_head gKp gKpType Tryd.underlying44 Tryd.underlying5 (by kernel_rfl) (by kernel_rfl) h'
  intro j v hj
  have hlt : j < Px.kept.length := by have := (List.getElem?_eq_some_iff.1 hj).1; rwa [ints_llen] at this
  rw [Nat.zero_add, t1.cell gKp j (by rw [List.length_map]; exact hlt), getD_cast, ← hj, Array.getElem?_toList, ints_get _ _ _ hlt]

namespace Px
def wakeKey : List Nat := [133, 214, 190, 120, 87, 85, 109, 51, 127, 68, 82, 254, 66, 213, 6, 168, 1, 3, 128, 138, 251, 13, 178, 253, 74, 191, 246, 175, 65, 73, 245, 27]
def wakeA : List Nat := [67, 114, 121, 112, 116, 111, 103, 114, 97, 112, 104, 105, 99, 32, 70, 111, 114, 117, 109, 32]
def wakeB : List Nat := [82, 101, 115, 101, 97, 114, 99, 104, 32, 71, 114, 111, 117, 112]
theorem wake : of wakeKey [wakeA, wakeB].flatten = [168, 6, 29, 193, 48, 81, 54, 198, 194, 43, 139, 175, 12, 1, 39, 169] := by decide +kernel
/-- The first k bytes laid. -/
def wakeN (k : Nat) : List Nat := wakeKey.take k ++ List.replicate (32 - k) 0
theorem wakeN_succ : ∀ k, k < 32 → (wakeN k).set k (wakeKey.getD k 0) = wakeN (k + 1) := by decide +kernel
theorem wakeN_length (k : Nat) (h : k ≤ 32) : (wakeN k).length = 32 := by
  have : wakeKey.length = 32 := rfl
  rw [wakeN, List.length_append, List.length_take, List.length_replicate]; omega
end Px

theorem conv_same (w : World) (A : Obj) (C : Array Value) (n c : Nat) : (convert 46 46 (.slice (some ⟨w.heap.size + 1, 0, none⟩) n c)).run Tryd.prog ((w.alloc A).alloc (.cells C 5)) = .ok (.slice (some ⟨w.heap.size + 1, 0, none⟩) n c) ((w.alloc A).alloc (.cells C 5 (C.size, C.size + 1))) := by
  have h := Lib.run_convert_bytes_const (P := Tryd.prog) (w.alloc A) 46 5 C n c Tryd.underlying46 Tryd.underlying5
  rwa [show (w.alloc A).heap.size = w.heap.size + 1 from by simp] at h

end Go.Proofs.YtgjkkcggcljcdaaDoor
