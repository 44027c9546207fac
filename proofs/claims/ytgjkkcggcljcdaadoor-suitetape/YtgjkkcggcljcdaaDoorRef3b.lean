/-
  The reference of layer 3: what sealwaxref03.number and Block return.
-/
import Derived.Test.YtgjkkcggcljcdaaDoorRef3
namespace Go.Proofs.YtgjkkcggcljcdaaDoor
open Go.RowKit
open Go.Lib (hid)

namespace Cx
theorem le4_slice (l : List Nat) (k : Nat) : le4 ((l.drop (4 * k)).take 4) 0 = le4 l k := by
  unfold le4
  simp [List.getElem?_take, List.getElem?_drop]
theorem quarters_col (k : Nat) (h : k < 4) : quarters.getD k [] = [k, 4 + k, 8 + k, 12 + k] := by revert k; decide
theorem quarters_dia (k : Nat) (h : k < 4) : quarters.getD (4 + k) [] = [k, 4 + (k + 1) % 4, 8 + (k + 2) % 4, 12 + (k + 3) % 4] := by revert k; decide
theorem part_col (x : List Nat) (k : Nat) (h : k < 4) : quarter (part x k) k (4 + k) (8 + k) (12 + k) = part x (k + 1) := by
  rw [part_succ x k (by omega), quarters_col k h]; rfl
theorem part_dia (x : List Nat) (k : Nat) (h : k < 4) : quarter (part x (4 + k)) k (4 + (k + 1) % 4) (8 + (k + 2) % 4) (12 + (k + 3) % 4) = part x (4 + (k + 1)) := by
  rw [show 4 + (k + 1) = (4 + k) + 1 from by omega, part_succ x (4 + k) (by omega), quarters_dia k h]; rfl
theorem addM_comm (l r : List Nat) : addM l r = addM r l := by
  unfold addM
  rw [List.zipWith_comm]
  congr 1
  funext x y
  rw [Nat.add_comm]
theorem addM_get (l r : List Nat) (hl : l.length = 16) (hr : r.length = 16) (k : Nat) (hk : k < 16) : (addM l r).getD k 0 = (l.getD k 0 + r.getD k 0) % Sx.M := by
  have h1 : k < l.length := by omega
  have h2 : k < r.length := by omega
  simp [addM, List.getElem?_zipWith, List.getElem?_eq_getElem h1, List.getElem?_eq_getElem h2]
end Cx
theorem M_lt40 (d : Nat) (h : d < Sx.M) : d < 2 ^ 40 := by unfold Sx.M at h; omega
/-- A slice of a text that is a list of bytes. -/
theorem str_mid (T : List Nat) (a b n : Nat) (h : b = a + n) (hT : ∀ x ∈ T, x < 256) : (str T).extract a b = str ((T.drop a).take n) := by rw [h]; exact extract_mid T hT a n
theorem OwnI.built (w : World) (base : Nat) (l : List Nat) (hb : base ≤ w.heap.size) (hl : l.length ≤ 1000) :
    OwnI (w.alloc (.cells (ints .i64 l) 3)) base (.slice (some ⟨w.heap.size, 0, none⟩) l.length l.length) l :=
  ⟨by rw [ints_llen]; omega, Or.inr ⟨w.heap.size, l.length, ints .i64 l, rfl, hb, heap_alloc_new _ _, Nat.le_refl _, by unfold maxLen; omega, by rw [ints_size]; omega, by rw [Nat.mul_one, List.take_of_length_le (by rw [ints_llen]; omega)]⟩⟩
theorem cells_fourI (w : World) (x y z u : Nat) (t : TypeId) : ∀ j, j < 4 → (w.alloc (.cells #[.int .i64 (x : Int), .int .i64 (y : Int), .int .i64 (z : Int), .int .i64 (u : Int)] t)).cell? ((⟨w.heap.size, 0, none⟩ : Addr).add j) = some (.int .i64 ([x, y, z, u].getD j 0 : Nat)) := by
  intro j hj
  rw [Addr.add_mid, Nat.zero_add, cell_of_row _ _ _ _ _ _ (heap_alloc_new _ _)]
  obtain rfl | rfl | rfl | rfl : j = 0 ∨ j = 1 ∨ j = 2 ∨ j = 3 := by omega
  all_goals rfl

end Go.Proofs.YtgjkkcggcljcdaaDoor
