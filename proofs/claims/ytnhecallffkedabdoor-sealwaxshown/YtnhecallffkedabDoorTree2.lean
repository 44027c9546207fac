/-
  Layer 7: sums in memory, a level, and what (level).at returns.
-/
import Derived.Test.YtnhecallffkedabDoorBase
import Derived.Test.YtnhecallffkedabDoorTree1
namespace Go.Proofs.YtnhecallffkedabDoor
open Go.RowKit
open Go.Lib (hid)

/-- The slice v holds the sums F. -/
def Sums (w : World) (v : Value) (F : List (List Nat)) : Prop :=
  ∃ ao cap, v = .slice ao F.length cap ∧ ∀ i, i < F.length → ∃ b o, ao = some ⟨b, o, none⟩ ∧ b < w.heap.size ∧ w.rangeAt b (o + i * 32) (ints .u8 (F.getD i [])).toList
theorem range_below {w w' : World} {B b o : Nat} {cs : List Value} (h : w.rangeAt b o cs) (hb : Below B w w') (hlt : b < B) : w'.rangeAt b o cs := by
  intro j v hj
  have := h j v hj
  simp only [World.cell?] at this ⊢
  rw [hb.block b hlt]
  exact this
theorem Sums.below {w w' : World} {v : Value} {F : List (List Nat)} (h : Sums w v F) (hb : Below w.heap.size w w') : Sums w' v F := by
  obtain ⟨ao, cap, rfl, hc⟩ := h
  refine ⟨ao, cap, rfl, fun i hi => ?_⟩
  obtain ⟨b, o, h1, h2, h3⟩ := hc i hi
  exact ⟨b, o, h1, Nat.lt_of_lt_of_le h2 hb.size, range_below h3 hb h2⟩
/-- A level as a value. -/
def lvC (v : Value) (r : List Nat) : Array Value := #[v] ++ ints .u8 r
theorem lvC_size (v : Value) (r : List Nat) (h : r.length = 32) : (lvC v r).size = 33 := by simp [lvC, ints_size, h]
theorem lvC_first {w : World} {b : Nat} {v : Value} {r : List Nat} {t : TypeId} {fr : Nat × Nat} (h : w.heap[b]? = some (.cells (lvC v r) t fr)) : w.cell? ⟨b, 0, none⟩ = some v := by
  rw [cell_of_row w b 0 _ _ _ h]; simp only [lvC]; rw [Array.getElem?_append_left (by simp)]; rfl
theorem lvC_rest {w : World} {b : Nat} {v : Value} {r : List Nat} {t : TypeId} {fr : Nat × Nat} (h : w.heap[b]? = some (.cells (lvC v r) t fr)) : w.rangeAt b 1 (ints .u8 r).toList := by
  intro j u hj
  rw [cell_of_row w b (1 + j) _ _ _ h]
  simp only [lvC]
  rw [Array.getElem?_append_right (by simp)]
  simpa using hj
theorem info27 : (Tryd.prog.info? 27).map (·.size) = some 32 := by kernel_rfl


set_option maxHeartbeats 1000000 in
set_option maxRecDepth 100000 in
theorem at_any (v : Value) (F : List (List Nat)) (r : List Nat) (hF : ∀ f ∈ F, f.length = 32) (hr : r.length = 32) (hFl : F.length ≤ 1000000) (i : Nat) (hi : i ≤ 1000000) (w : World) (hS : Sums w v F) :
    Calls Tryd.prog 18 #[.agg (lvC v r), .int .i64 (i : Int)] w fun e w' => e = .returned (.agg (ints .u8 (F.getD i r))) ∧ Below w.heap.size w w' := by
  obtain ⟨ao, cap, rfl, hc⟩ := hS
  have HC := hid hc
  have HF := hid hF
  clear hc hF
  by_cases hlt : i < F.length
  · obtain ⟨b, o, rfl, hbw, hrg⟩ := HC.out i hlt
    have hg : F.getD i r = F.getD i [] := by simp [List.getD_eq_getElem?_getD, hlt]
    have hgl : (F.getD i []).length = 32 := HF.out _ (by simp [List.getD_eq_getElem?_getD, hlt])
    rw [hg]
    have hsz : (ints .u8 (F.getD i [])).size = 32 := by rw [ints_size, hgl]
    have g1 : (i : Int) < F.length := by omega
    clear hg hgl HC
    generalize F.getD i [] = f at *
    have HRG0 := hid hrg
    clear hrg
    generalize hLV : lvC _ r = LV
    have HLV := hid hLV
    clear hLV
    go_enter Tryd.func18, Tryd.ntmps18
    go_upto_region 1 with (fail)
    generalize hw0 : (w.alloc _).alloc _ = w0
    have hl0 : w0.heap[w.heap.size]? = some (.cells LV 53 (0, 0)) := by rw [← hw0]; exact heap_alloc2_old _ _ _
    have HZ := hid (show Row w0 (w.heap.size + 1) .u8 27 (List.replicate 32 0) from by rw [← hw0]; unfold Row; rw [heap_alloc2_new]; kernel_rfl)
    have HB0 := hid (show Below w.heap.size w w0 from by rw [← hw0]; exact ((Below.refl _ _).alloc (Nat.le_refl _) _).alloc (by simp) _)
    rw [← HLV.out] at hl0
    have hfst := lvC_first hl0
    have HRS := hid (lvC_rest hl0)
    clear hw0 hl0
    have HRG := hid (range_below HRG0.out HB0.out hbw)
    clear HRG0 HRS
    go_wp2_with (first
      | (refine wpList_load_mid rfl _ _ rfl b (o + i * 32) rfl _ _ HRG.out Tryd.underlying27 rfl (by rw [Array.length_toList, hsz]; exact info27) ?_; rw [Array.toArray_toList])
      | (refine wpList_store_row rfl _ _ _ rfl (w.heap.size + 1) _ rfl rfl _ _ HZ.out (by rw [hsz]; exact info27) (by rw [hsz, ints_size, List.length_replicate]) (ints_one _ _) ?_))
    exact bodyPost_ret (v := .agg (ints .u8 f))
      (results_cell_row Tryd.results18 _ _ (w.heap.size + 1) _ _ _ _ rfl (setRow_heap w0 (w.heap.size + 1) _ _ _ _ HZ.out) Tryd.underlying27 rfl (by rw [hsz]; exact info27))
      rfl ⟨rfl, below_setRow HB0.out (by omega) _⟩
  · have hg : F.getD i r = r := by simp [List.getD_eq_getElem?_getD, List.getElem?_eq_none (show F.length ≤ i by omega)]
    rw [hg]
    have hsz : (ints .u8 r).size = 32 := by rw [ints_size, hr]
    have g1 : ¬ (i : Int) < F.length := by omega
    clear hg HC
    generalize hLV : lvC _ r = LV
    have HLV := hid hLV
    clear hLV
    go_enter Tryd.func18, Tryd.ntmps18
    go_upto_region 1 with (fail)
    generalize hw0 : (w.alloc _).alloc _ = w0
    have hl0 : w0.heap[w.heap.size]? = some (.cells LV 53 (0, 0)) := by rw [← hw0]; exact heap_alloc2_old _ _ _
    have HZ := hid (show Row w0 (w.heap.size + 1) .u8 27 (List.replicate 32 0) from by rw [← hw0]; unfold Row; rw [heap_alloc2_new]; kernel_rfl)
    have HB0 := hid (show Below w.heap.size w w0 from by rw [← hw0]; exact ((Below.refl _ _).alloc (Nat.le_refl _) _).alloc (by simp) _)
    rw [← HLV.out] at hl0
    have hfst := lvC_first hl0
    have HRS := hid (lvC_rest hl0)
    clear hw0 hl0
    go_wp2_with (first
      | (refine wpList_load_mid rfl _ _ rfl w.heap.size 1 rfl _ _ HRS.out Tryd.underlying27 rfl (by rw [Array.length_toList, hsz]; exact info27) ?_; rw [Array.toArray_toList])
      | (refine wpList_store_row rfl _ _ _ rfl (w.heap.size + 1) _ rfl rfl _ _ HZ.out (by rw [hsz]; exact info27) (by rw [hsz, ints_size, List.length_replicate]) (ints_one _ _) ?_))
    exact bodyPost_ret (v := .agg (ints .u8 r))
      (results_cell_row Tryd.results18 _ _ (w.heap.size + 1) _ _ _ _ rfl (setRow_heap w0 (w.heap.size + 1) _ _ _ _ HZ.out) Tryd.underlying27 rfl (by rw [hsz]; exact info27))
      rfl ⟨rfl, below_setRow HB0.out (by omega) _⟩
end Go.Proofs.YtnhecallffkedabDoor
