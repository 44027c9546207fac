/-
  Layer 1: rows of numbers in memory, the two tables, and what (numbers).state returns.
-/
import Derived.Test.YtgjkkcggcljcdaaDoorBase
import Derived.Test.YtgjkkcggcljcdaaDoorShaRot
import Derived.Deep.QuietTactic
import Derived.BigQuiet
import Derived.BigRegion
import Derived.Deep.WholeRow
import Derived.Laws.CopyOwn
namespace Go.Proofs.YtgjkkcggcljcdaaDoor
open Go.RowKit
open Go.Lib (hid)

/-- The two tables lie in memory. -/
structure Tabs (w : World) : Prop where
  ks : ∀ i, i < 64 → w.cell? ⟨2, i, none⟩ = some (.int .u32 (Sx.K.getD i 0 : Nat))
  hs : ∀ i, i < 8 → w.cell? ⟨3, i, none⟩ = some (.int .u32 (Sx.H0.getD i 0 : Nat))
theorem Tabs.lt {w : World} (h : Tabs w) : 2 < w.heap.size ∧ 3 < w.heap.size :=
  ⟨block_lt_of_cell (h.ks 0 (by decide)), block_lt_of_cell (h.hs 0 (by decide))⟩
theorem Tabs.below {w w' : World} {B : Nat} (h : Tabs w) (hb : Below B w w') (hB : w.heap.size ≤ B) : Tabs w' :=
  ⟨fun i hi => (hb.cell (Nat.lt_of_lt_of_le h.lt.1 hB)).trans (h.ks i hi), fun i hi => (hb.cell (Nat.lt_of_lt_of_le h.lt.2 hB)).trans (h.hs i hi)⟩

namespace Sx
/-- The first k numbers of xs with those of r added. -/
def stepS (xs r : List Nat) (k : Nat) : List Nat := addM (xs.take k) (r.take k) ++ xs.drop k
theorem H0_length : H0.length = 8 := rfl
theorem addM_length (l r : List Nat) : (addM l r).length = min l.length r.length := by simp [addM]
theorem stepS_length (xs r : List Nat) (k : Nat) (hk : k ≤ 8) (hl : xs.length = 8) (hr : r.length = 8) : (stepS xs r k).length = 8 := by
  simp [stepS, addM_length, hr, hl]; omega
theorem stepS_get (xs r : List Nat) (k : Nat) (hk : k < 8) (hl : xs.length = 8) (hr : r.length = 8) : (stepS xs r k).getD k 0 = xs.getD k 0 := by
  have h1 : (addM (xs.take k) (r.take k)).length = k := by simp [addM_length, hr, hl]; omega
  simp [stepS, List.getElem?_append, h1, List.getElem?_drop]
theorem stepS_set (xs r : List Nat) (k : Nat) (hk : k < 8) (hl : xs.length = 8) (hr : r.length = 8) : (stepS xs r k).set k ((xs.getD k 0 + r.getD k 0) % M) = stepS xs r (k + 1) := by
  have h1 : (addM (xs.take k) (r.take k)).length = k := by simp [addM_length, hr, hl]; omega
  have hx : k < xs.length := by omega
  have hh : k < r.length := by omega
  unfold stepS
  rw [List.set_append_right _ _ (by omega), h1, Nat.sub_self]
  rw [List.drop_eq_getElem_cons hx, List.set_cons_zero]
  have e : addM (xs.take (k + 1)) (r.take (k + 1)) = addM (xs.take k) (r.take k) ++ [(xs.getD k 0 + r.getD k 0) % M] := by
    unfold addM
    rw [List.take_succ_eq_append_getElem hx, List.take_succ_eq_append_getElem hh, List.zipWith_append (by simp; omega)]
    simp [hx, hh]
  rw [e]; simp
theorem stepS_full (xs r : List Nat) (hl : xs.length = 8) (hr : r.length = 8) : stepS xs r 8 = addM xs r := by
  unfold stepS
  rw [List.take_of_length_le (by omega), List.take_of_length_le (by omega), List.drop_of_length_le (by omega), List.append_nil]
theorem stepS_zero (xs r : List Nat) : stepS xs r 0 = xs := by simp [stepS, addM]
end Sx

theorem info36 : (Tryd.prog.info? 99).map (·.size) = some 8 := by kernel_rfl

set_option maxRecDepth 100000 in
theorem state_any (xs : List Nat) (hl : xs.length = 8) (w : World) (hT : Tabs w) :
    Calls Tryd.prog 75 #[.agg (ints .u32 xs)] w fun e w' => e = .returned (.agg (ints .u32 (Sx.addM xs Sx.H0))) ∧ Below w.heap.size w w' := by
  have hs : (ints .u32 xs).size = 8 := by rw [ints_size, hl]
  have hg := hT.lt.2
  have HT := hid hT
  clear hT
  go_enter Tryd.func75, Tryd.ntmps75
  go_wp2
  go_loopw [4] (fun i wr => ∃ k : Nat, k ≤ 8 ∧ i = .int .i64 k ∧ Row wr w.heap.size .u32 99 (Sx.stepS xs Sx.H0 k) ∧ Row wr (w.heap.size + 1) .u32 99 (List.replicate 8 0) ∧ Below w.heap.size w wr)
    (fun i _ => 8 - (intOf i).toNat)
  case atStart =>
    refine ⟨0, by omega, rfl, ?_, ?_, ?_⟩
    · unfold Row
      rw [heap_alloc2_old]
      simp [Sx.stepS, Sx.addM]
    · unfold Row
      rw [heap_alloc2_new]
      rfl
    · exact ((Below.refl _ _).alloc (Nat.le_refl _) _).alloc (by simp) _
  case round =>
    obtain ⟨k, hk, rfl, hrow, hz, hbel⟩ := hrel
    by_cases hlt : k < 8
    · have hc := hrow.cell k (by rw [Sx.stepS_length xs _ k hk hl rfl]; exact hlt)
      rw [Sx.stepS_get xs _ k hlt hl rfl] at hc
      have hf := hrow.free k
      have hh : wr.cell? ⟨3, k, none⟩ = some (.int .u32 (Sx.H0.getD k 0 : Nat)) := (hbel.cell hg).trans (HT.out.hs k hlt)
      have hr' := (hrow.set k ((xs.getD k 0 + Sx.H0.getD k 0) % Sx.M))
      rw [Sx.stepS_set xs _ k hlt hl rfl] at hr'
      have hz' := hz.set_other ⟨w.heap.size, k, none⟩ (.int .u32 ((xs.getD k 0 + Sx.H0.getD k 0) % Sx.M : Nat)) (by simp)
      have hb' := hbel.setCell (p := ⟨w.heap.size, k, none⟩) (Nat.le_refl _) (.int .u32 ((xs.getD k 0 + Sx.H0.getD k 0) % Sx.M : Nat))
      have hw := add32 (xs.getD k 0) (Sx.H0.getD k 0)
      generalize xs.getD k 0 = x at *
      generalize Sx.H0.getD k 0 = y at *
      generalize (x + y) % Sx.M = z at *
      have HR := hid hr'
      have HZ := hid hz'
      have HB := hid hb'
      clear hr' hz' hb' hrow hz hbel
      go_wp2
      go_region
      all_goals go_wp2
      all_goals go_roundw
      case rel => exact ⟨k + 1, by omega, by go_num, HR.out, HZ.out, HB.out.drew⟩
      case measure => simp [intOf]; omega
    · obtain rfl : k = 8 := by omega
      rw [Sx.stepS_full xs _ hl rfl] at hrow
      go_wp2_with (first | (refine wpList_load_row rfl _ _ rfl w.heap.size rfl _ _ _ _ hrow Tryd.underlying99 rfl (by rw [ints_size, Sx.addM_length, hl]; exact info36) ?_) | (refine wpList_store_row rfl _ _ _ rfl (w.heap.size + 1) _ rfl rfl _ _ hz (by rw [ints_size, Sx.addM_length, hl]; exact info36) (by rw [ints_size, ints_size, Sx.addM_length, hl]; rfl) (ints_one _ _) ?_))
      exact bodyPost_ret (v := .agg (ints .u32 (Sx.addM xs Sx.H0)))
        (results_cell_row Tryd.results75 _ _ (w.heap.size + 1) _ _ _ _ rfl (setRow_heap wr (w.heap.size + 1) _ _ _ _ hz) Tryd.underlying99 rfl (by rw [ints_size, Sx.addM_length, hl]; exact info36))
        rfl ⟨rfl, below_setRow hbel (Nat.le_succ _) _⟩
end Go.Proofs.YtgjkkcggcljcdaaDoor
