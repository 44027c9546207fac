/-
  Layer 1: what (numbers).sum returns.
-/
import Derived.Test.YtgjkkcggcljcdaaDoorBase
import Derived.Test.YtgjkkcggcljcdaaDoorShaAfter
namespace Go.Proofs.YtgjkkcggcljcdaaDoor
open Go.RowKit
open Go.Lib (hid)

namespace Sx
/-- The first p bytes of L, and noughts behind them. -/
def fillL (L : List Nat) (p : Nat) : List Nat := L.take p ++ List.replicate (L.length - p) 0
theorem fillL_length (L : List Nat) (p : Nat) (h : p ≤ L.length) : (fillL L p).length = L.length := by simp [fillL]; omega
theorem fillL_set (L : List Nat) (p : Nat) (h : p < L.length) : (fillL L p).set p (L.getD p 0) = fillL L (p + 1) := by
  unfold fillL
  have h1 : (L.take p).length = p := by simp; omega
  rw [List.set_append_right _ _ (by omega), h1, Nat.sub_self, show L.length - p = (L.length - (p + 1)) + 1 from by omega, List.replicate_succ, List.set_cons_zero,
    List.take_succ_eq_append_getElem h, List.append_assoc]
  simp [h]
theorem fillL_zero (L : List Nat) : fillL L 0 = List.replicate L.length 0 := by simp [fillL]
theorem fillL_full (L : List Nat) : fillL L L.length = L := by simp [fillL]
theorem out_length (h : List Nat) : (out h).length = 4 * h.length := by
  induction h with
  | nil => rfl
  | cons x t ih => simp only [out, List.flatMap_cons, List.length_append, List.length_cons] at *; rw [ih]; simp [bytes4]; omega
theorem out_get (h : List Nat) (hM : ∀ i, h.getD i 0 < M) (i j : Nat) (hi : i < h.length) (hj : j < 4) : (out h).getD (4 * i + j) 0 = h.getD i 0 / 2 ^ (24 - 8 * j) % 256 := by
  induction h generalizing i with
  | nil => simp at hi
  | cons x t ih =>
    cases i with
    | zero =>
      have hx := hM 0
      simp only [List.getD_cons_zero] at hx
      unfold M at hx
      obtain rfl | rfl | rfl | rfl : j = 0 ∨ j = 1 ∨ j = 2 ∨ j = 3 := by omega
      all_goals simp [out, bytes4]
      omega
    | succ i =>
      have e : (out (x :: t)) = bytes4 x ++ out t := rfl
      have := ih (fun k => by have := hM (k + 1); simpa using this) i (by simpa using hi)
      rw [e, show 4 * (i + 1) + j = (4 * i + j) + 4 from by omega]
      simp only [List.getD_eq_getElem?_getD] at this ⊢
      rw [List.getElem?_append_right (by simp [bytes4])]
      simpa [bytes4] using this
end Sx

theorem info26M : (Tryd.prog.info? 37).map (·.size) = some 32 := by kernel_rfl

set_option maxRecDepth 100000 in
set_option maxHeartbeats 1000000 in
theorem sum_any (xs : List Nat) (hl : xs.length = 8) (w : World) (hT : Tabs w) :
    Calls Tryd.prog 64 #[.agg (ints .u32 xs)] w fun e w' => e = .returned (.agg (ints .u8 (Sx.out (Sx.addM xs Sx.H0)))) ∧ Below w.heap.size w w' := by
  have hs8 : (ints .u32 xs).size = 8 := by rw [ints_size, hl]
  have HT := hid hT
  clear hT
  go_enter Tryd.func64, Tryd.ntmps64
  go_upto_region 2 with (fail)
  generalize hw0 : (((w.alloc _).alloc _).alloc _) = w0
  have rn : Row w0 w.heap.size .u32 99 xs := by rw [← hw0]; unfold Row; rw [heap_alloc3_0]
  have rr : Row w0 (w.heap.size + 1) .u8 37 (List.replicate 32 0) := by rw [← hw0]; unfold Row; rw [heap_alloc3_1]; kernel_rfl
  have ro : Row w0 (w.heap.size + 1 + 1) .u8 37 (List.replicate 32 0) := by rw [← hw0]; unfold Row; rw [heap_alloc3_2]; kernel_rfl
  have hbel0 : Below w.heap.size w w0 := by rw [← hw0]; exact (((Below.refl _ _).alloc (Nat.le_refl _) _).alloc (by simp) _).alloc (by simp; omega) _
  clear hw0
  have HT0 := hid (HT.out.below hbel0 (Nat.le_refl _))
  go_wp2_with (first | (refine wpList_load_row rfl _ _ rfl (w.heap.size) rfl _ _ _ _ rn Tryd.underlying99 rfl (by rw [hs8]; exact info36) ?_) | (go_at_call 75; refine (state_any xs hl _ HT0.out).mono ?_; rintro e w1 ⟨rfl, hb1⟩))
  have hh8 : (Sx.addM xs Sx.H0).length = 8 := by rw [Sx.addM_length, hl]; rfl
  have hlt' := Sx.addM_lt xs Sx.H0
  generalize ehv : Sx.addM xs Sx.H0 = hv at *
  have EHV := hid ehv
  clear ehv
  have hlo : (Sx.out hv).length = 32 := by rw [Sx.out_length, hh8]
  have hget := fun i j hi hj => Sx.out_get hv hlt' i j hi hj
  have r1 := rr.below hb1 rr.lt
  have o1 := ro.below hb1 ro.lt
  have hbel1 := hbel0.trans (hb1.mono (by have := hbel0.size; omega))
  have HG := hid hget
  have HO := hid hlo
  have HL := hid hlt'
  have R1 := hid r1
  have O1 := hid o1
  have HB1 := hid hbel1
  have HH := hid hh8
  clear hget hlo hlt' r1 o1 hbel1 rn rr ro hb1 hbel0 HT HT0 hh8
  generalize hL : Sx.out hv = L at *
  go_loopw [9] (fun i wr => ∃ k : Nat, k ≤ 8 ∧ i = .int .i64 k ∧ Row wr (w.heap.size + 1) .u8 37 (List.replicate 32 0) ∧ Row wr (w.heap.size + 1 + 1) .u8 37 (Sx.fillL L (4 * k)) ∧ Below w.heap.size w wr)
    (fun i _ => 8 - (intOf i).toNat)
  case atStart => exact ⟨0, by omega, rfl, R1.out, by rw [Sx.fillL_zero, HO.out]; exact O1.out, HB1.out⟩
  case round =>
    obtain ⟨k, hk, rfl, hrr, hro, hbel⟩ := hrel
    by_cases hlt : k < 8
    · have hi := fun wx => run_index_ints (P := Tryd.prog) wx 99 88 8 .u32 hv Tryd.underlying99 Tryd.underlying88 (by kernel_rfl) HH.out k hlt
      have hxM := HL.out k
      have hg := fun j hj => HG.out k j (by rw [HH.out]; exact hlt) hj
      generalize hv.getD k 0 = x at *
      have HGK := hid hg
      have HRR := hid hrr
      have HRO := hid hro
      have HBE := hid hbel
      clear hg hrr hro hbel
      go_wp2
      go_loopw [13] (fun i wq => ∃ j : Nat, j ≤ 4 ∧ i = .int .i64 j ∧ Row wq (w.heap.size + 1) .u8 37 (List.replicate 32 0) ∧ Row wq (w.heap.size + 1 + 1) .u8 37 (Sx.fillL L (4 * k + j)) ∧ Below w.heap.size w wq)
        (fun i _ => 4 - (intOf i).toNat)
      case atStart => exact ⟨0, by omega, rfl, HRR.out, HRO.out, HBE.out⟩
      case round =>
        obtain ⟨j, hj, rfl, hrr, hro, hbel⟩ := hrel
        by_cases hjt : j < 4
        · have hp : 4 * k + j < L.length := by rw [HO.out]; omega
          have hc := hro.cell (4 * k + j) (by rw [Sx.fillL_length L _ (by omega)]; exact hp)
          have hf := hro.free (4 * k + j)
          have hv0 := HGK.out j hjt
          have hr' := hro.set (4 * k + j) (L.getD (4 * k + j) 0)
          rw [Sx.fillL_set L _ hp] at hr'
          have hz' := hrr.set_other ⟨w.heap.size + 1 + 1, 4 * k + j, none⟩ (.int .u8 (L.getD (4 * k + j) 0 : Nat)) (by simp)
          have hb' := hbel.setCell (p := ⟨w.heap.size + 1 + 1, 4 * k + j, none⟩) (by simp; omega) (.int .u8 (L.getD (4 * k + j) 0 : Nat))
          generalize L.getD (4 * k + j) 0 = z at *
          generalize (Sx.fillL L (4 * k + j)).getD (4 * k + j) 0 = zz at *
          have HR := hid hr'
          have HZ := hid hz'
          have HB := hid hb'
          have HV := hid hv0
          clear hr' hz' hb' hv0 hro hrr hbel hp
          have hz2 : (x : Int) / 2 ^ (24 - 8 * j) % 256 = (z : Int) := by rw [HV.out]; simp
          go_wp2
          go_roundw
          case rel => exact ⟨j + 1, by omega, by go_num, HZ.out, HR.out, HB.out⟩
          case measure => simp [intOf]; omega
        · obtain rfl : j = 4 := by omega
          have HRR := hid hrr
          have HRO := hid hro
          have HBE := hid hbel
          clear hrr hro hbel
          go_wp2
          go_roundw
          case rel => exact ⟨k + 1, by omega, by go_num, HRR.out, HRO.out, HBE.out⟩
          case measure => simp [intOf]; omega
    · obtain rfl : k = 8 := by omega
      have hsz : (ints .u8 L).size = 32 := by rw [ints_size, HO.out]
      have hfl : Sx.fillL L (4 * 8) = L := by
        have := Sx.fillL_full L
        rwa [HO.out] at this
      rw [hfl] at hro
      have Hsz := hid hsz
      clear hsz hfl
      go_wp2_with (first | (refine wpList_load_row rfl _ _ rfl (w.heap.size + 1 + 1) rfl _ _ _ _ hro Tryd.underlying37 rfl (by rw [Hsz.out]; exact info26M) ?_) | (refine wpList_store_row rfl _ _ _ rfl (w.heap.size + 1) _ rfl rfl _ _ hrr (by rw [Hsz.out]; exact info26M) (by rw [Hsz.out, ints_size, List.length_replicate]) (ints_one _ _) ?_))
      refine bodyPost_ret (v := .agg (ints .u8 L))
        (results_cell_row Tryd.results64 _ _ (w.heap.size + 1) _ _ _ _ rfl (setRow_heap _ (w.heap.size + 1) _ _ _ _ hrr) Tryd.underlying37 rfl (by rw [Hsz.out]; exact info26M))
        rfl ⟨by rw [EHV.out, hL], below_setRow hbel (by omega) _⟩
end Go.Proofs.YtgjkkcggcljcdaaDoor
