/-
  Layer 1's law: the fixed fact awake.
-/
import Derived.Test.YtgjkkcggcljcdaaDoorBase
import Derived.Test.YtgjkkcggcljcdaaDoorShaBytes
import Derived.Stop.BytesEq
namespace Go.Proofs.YtgjkkcggcljcdaaDoor
open Go.RowKit
open Go.Lib (hid)

/-- Two sums are equal just if their bytes are. -/
theorem eql_sums (w : World) (l r : List Nat) (hl : ∀ x ∈ l, x < 256) (hr : ∀ x ∈ r, x < 256) (l32 : l.length = 32) (r32 : r.length = 32) :
    (binOp .eql 37 (.agg (ints .u8 l)) (.agg (ints .u8 r))).run Tryd.prog w = .ok (.bool (l == r)) w := by
  rw [ints_cell l hl, ints_cell r hr, run_eql_bytes w 37 5 32 Tryd.underlying37 Tryd.underlying5 (fun w => by kernel_rfl) _ _ (by simpa using l32) (by simpa using r32), map_u8_inj l r hl hr]
theorem out_lt (h : List Nat) (hM : ∀ x ∈ h, x < Sx.M) : ∀ x ∈ Sx.out h, x < 256 := by
  intro x hx
  simp only [Sx.out, List.mem_flatMap] at hx
  obtain ⟨y, hy, hx⟩ := hx
  have := hM y hy
  unfold Sx.M at this
  simp only [Sx.bytes4, List.mem_cons, List.not_mem_nil, or_false] at hx
  omega
theorem runB_lt (t : List Nat) (k : Nat) : ∀ x ∈ Sx.runB t k, x < Sx.M := by
  cases k with
  | zero => intro x hx; revert x hx; show ∀ x ∈ Sx.H0, x < Sx.M; decide
  | succ k =>
    intro x hx
    simp only [Sx.runB, Sx.compress, Sx.addM] at hx
    rw [List.mem_iff_getElem] at hx
    obtain ⟨i, hi, rfl⟩ := hx
    rw [List.getElem_zipWith]
    exact Nat.mod_lt _ (by decide)
theorem digest_lt (t : List Nat) : ∀ x ∈ Sx.digest t, x < 256 := out_lt _ (runB_lt _ _)
theorem hexL_lt (l : List Nat) (h : ∀ x ∈ l, x < 256) : ∀ x ∈ Sx.hexL l, x < 256 := by
  intro x hx
  simp only [Sx.hexL, List.mem_flatMap] at hx
  obtain ⟨y, hy, hx⟩ := hx
  have := h y hy
  simp only [Sx.hexd, List.mem_cons, List.not_mem_nil, or_false] at hx
  rcases hx with rfl | rfl
  · split <;> omega
  · split <;> omega

set_option maxRecDepth 100000 in
theorem abc_hex : Sx.hexL (Sx.digest [97, 98, 99]) = [98, 97, 55, 56, 49, 54, 98, 102, 56, 102, 48, 49, 99, 102, 101, 97, 52, 49, 52, 49, 52, 48, 100, 101, 53, 100, 97, 101, 50, 50, 50, 51, 98, 48, 48, 51, 54, 49, 97, 51, 57, 54, 49, 55, 55, 97, 57, 99, 98, 52, 49, 48, 102, 102, 54, 49, 102, 50, 48, 48, 49, 53, 97, 100] := by decide +kernel

/-- of_any at a slice of its own. -/
theorem of_one (x : List Nat) (hx : ∀ y ∈ x, y < 256) (hl : x.length ≤ 100000000000) (w : World) (hT : Tabs w) (t : TypeId) :
    Calls Tryd.prog 49 #[.slice (some ⟨w.heap.size, 0, none⟩) 1 1] (w.alloc (.cells #[.string (str x)] t)) fun e w' => e = .returned (.agg (ints .u8 (Sx.digest x))) ∧ Below w.heap.size w w' := by
  have h := of_any [x] (some ⟨w.heap.size, 0, none⟩) 1 (by simpa using hx) (w.alloc (.cells #[.string (str x)] t)) (hT.below ((Below.refl _ _).alloc (Nat.le_refl _) _) (Nat.le_refl _)) (strs_one w x t) (by simp; omega) (by simp)
  simp only [List.flatten_cons, List.flatten_nil, List.append_nil] at h
  exact h.mono fun e w' ⟨he, hb⟩ => ⟨he, ((Below.refl _ _).alloc (Nat.le_refl _) _).trans (hb.mono (by simp))⟩
theorem of_two (x y : List Nat) (hx : ∀ z ∈ x, z < 256) (hy : ∀ z ∈ y, z < 256) (hl : x.length + y.length ≤ 100000000000) (w : World) (hT : Tabs w) (t : TypeId) :
    Calls Tryd.prog 49 #[.slice (some ⟨w.heap.size, 0, none⟩) 2 2] (w.alloc (.cells #[.string (str x), .string (str y)] t)) fun e w' => e = .returned (.agg (ints .u8 (Sx.digest (x ++ y)))) ∧ Below w.heap.size w w' := by
  have h := of_any [x, y] (some ⟨w.heap.size, 0, none⟩) 2 (by simp only [List.flatten_cons, List.flatten_nil, List.append_nil, List.mem_append]; rintro z (hz | hz); exact hx z hz; exact hy z hz) (w.alloc (.cells #[.string (str x), .string (str y)] t)) (hT.below ((Below.refl _ _).alloc (Nat.le_refl _) _) (Nat.le_refl _)) (strs_two w x y t) (by simp; omega) (by simp)
  simp only [List.flatten_cons, List.flatten_nil, List.append_nil] at h
  exact h.mono fun e w' ⟨he, hb⟩ => ⟨he, ((Below.refl _ _).alloc (Nat.le_refl _) _).trans (hb.mono (by simp))⟩

end Go.Proofs.YtgjkkcggcljcdaaDoor
