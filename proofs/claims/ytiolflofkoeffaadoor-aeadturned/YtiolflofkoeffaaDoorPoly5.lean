/-
  Layer 4: what (number).least and low return, as they stand (modulo 2^64).
-/
import Derived.Test.YtiolflofkoeffaaDoorPoly4
namespace Go.Proofs.YtiolflofkoeffaaDoor
open Go.RowKit
open Go.Lib (hid)

namespace Px
def more0 (l : List Nat) : List Nat := l.set 0 ((l.getD 0 0 + 5) % B)
def more (l : List Nat) : List Nat := spread (more0 l)
def least (l : List Nat) : List Nat := if (more l).getD 4 0 / 67108864 = 0 then l else (more l).set 4 ((more l).getD 4 0 % 67108864)
theorem more0_length (l : List Nat) : (more0 l).length = l.length := by simp [more0]
theorem more_length (l : List Nat) : (more l).length = l.length := by rw [more, spread_length, more0_length]
theorem least_length (l : List Nat) : (least l).length = l.length := by unfold least; split <;> simp [more_length]
theorem Ok.more0 {l : List Nat} (h : Ok l) : Ok (more0 l) := h.set _ _ (Nat.mod_lt _ (by decide))
theorem Ok.more {l : List Nat} (h : Ok l) : Ok (more l) := h.more0.spread
theorem Ok.least {l : List Nat} (h : Ok l) : Ok (least l) := by
  unfold Px.least
  split
  · exact h
  · exact h.more.set _ _ (Nat.lt_of_le_of_lt (Nat.mod_le _ _) (h.more.get 4))
end Px
theorem add64c (a : Nat) : IntKind.u64.wrap ((a : Int) + 5) = (((a + 5) % Px.B : Nat) : Int) := by
  simp [IntKind.wrap, IntKind.bits, IntKind.signed]; unfold Px.B; omega

set_option maxHeartbeats 1000000 in
set_option maxRecDepth 100000 in
theorem least_any (l : List Nat) (hl : l.length = 5) (ho : Px.Ok l) (w : World) :
    Calls Tryd.prog 54 #[.agg (ints .u64 l)] w fun e w' => e = .returned (.agg (ints .u64 (Px.least l))) ∧ Below w.heap.size w w' := by
  have hs : (ints .u64 l).size = 5 := by rw [ints_size, hl]
  have HM := hid (fun wx => spread_any (Px.more0 l) (by rw [Px.more0_length, hl]) ho.more0 wx)
  have HE : Hid (Px.more0 l = l.set 0 ((l.getD 0 0 + 5) % Px.B)) := rfl
  have hml : (Px.more l).length = 5 := by rw [Px.more_length, hl]
  have hms : (ints .u64 (Px.more l)).size = 5 := by rw [ints_size, hml]
  have hm0 : (ints .u64 (Px.more0 l)).size = 5 := by rw [ints_size, Px.more0_length, hl]
  have HMO := hid ho.more
  have HLE : Hid (Px.least l = if (Px.more l).getD 4 0 / 67108864 = 0 then l else (Px.more l).set 4 ((Px.more l).getD 4 0 % 67108864)) := rfl
  rw [show Px.spread (Px.more0 l) = Px.more l from rfl] at HM
  generalize Px.more l = M at *
  clear ho
  go_enter Tryd.func54, Tryd.ntmps54
  go_upto_region 1 with (fail)
  generalize hw0 : (w.alloc _).alloc _ = w0
  have rl : Row w0 w.heap.size .u64 66 l := by rw [← hw0]; unfold Row; rw [heap_alloc2_old]
  have rz : Row w0 (w.heap.size + 1) .u64 66 (List.replicate 5 0) := by rw [← hw0]; unfold Row; rw [heap_alloc2_new]; kernel_rfl
  have hb0 : Below w.heap.size w w0 := by rw [← hw0]; exact ((Below.refl _ _).alloc (Nat.le_refl _) _).alloc (by simp) _
  have hsz0 : w0.heap.size = w.heap.size + 1 + 1 := by rw [← hw0]; simp
  clear hw0
  have HB0 := hid hb0
  have HRZ := hid rz
  have HSZ0 := hid hsz0
  clear hb0 rz hsz0
  go_upto_region 2 with (first
    | (refine wpList_load_row rfl _ _ rfl w.heap.size rfl _ _ _ _ rl Tryd.underlying66 rfl (by rw [hs]; exact info77) ?_)
    | (refine wpList_store_row rfl _ _ _ rfl w0.heap.size _ rfl rfl _ _ (heap_alloc_new _ _) (by rw [hs]; exact info77) (by rw [hs]; rfl) (ints_one _ _) ?_))
  have r2 : Row ((w0.alloc (.cells #[.int .u64 0, .int .u64 0, .int .u64 0, .int .u64 0, .int .u64 0] 66)).setRow w0.heap.size (ints .u64 l)) w0.heap.size .u64 66 l := setRow_heap _ _ _ _ _ _ (heap_alloc_new _ _)
  have z2 : Row ((w0.alloc (.cells #[.int .u64 0, .int .u64 0, .int .u64 0, .int .u64 0, .int .u64 0] 66)).setRow w0.heap.size (ints .u64 l)) (w.heap.size + 1) .u64 66 (List.replicate 5 0) := by
    unfold Row; rw [setRow_other _ _ _ _ (by rw [HSZ0.out]; omega)]; exact HRZ.out.alloc _
  have l2 : Row ((w0.alloc (.cells #[.int .u64 0, .int .u64 0, .int .u64 0, .int .u64 0, .int .u64 0] 66)).setRow w0.heap.size (ints .u64 l)) w.heap.size .u64 66 l := by
    unfold Row; rw [setRow_other _ _ _ _ (by rw [HSZ0.out]; omega)]; exact rl.alloc _
  have b2 : Below w.heap.size w ((w0.alloc (.cells #[.int .u64 0, .int .u64 0, .int .u64 0, .int .u64 0, .int .u64 0] 66)).setRow w0.heap.size (ints .u64 l)) := below_setRow (HB0.out.alloc HB0.out.size _) HB0.out.size _
  generalize (w0.alloc _).setRow _ _ = w2 at *
  obtain ⟨q, hq⟩ : ∃ q, q = w0.heap.size := ⟨_, rfl⟩
  rw [← hq] at r2 ⊢
  have hq2 : q = w.heap.size + 1 + 1 := by rw [hq, HSZ0.out]
  have HQ := hid hq2
  clear rl HB0 HRZ HSZ0 hq hq2
  have d0 := r2.cell 0 (by omega)
  have g0 := r2.free 0
  have hadd := add64c (l.getD 0 0)
  have r3 := r2.set 0 ((l.getD 0 0 + 5) % Px.B)
  rw [← HE.out] at r3
  have z3 := z2.set_other ⟨q, 0, none⟩ (.int .u64 ((l.getD 0 0 + 5) % Px.B : Nat)) (by have := HQ.out; simp; omega)
  have l3 := l2.set_other ⟨q, 0, none⟩ (.int .u64 ((l.getD 0 0 + 5) % Px.B : Nat)) (by have := HQ.out; simp; omega)
  have b3 := b2.setCell (p := ⟨q, 0, none⟩) (by have := HQ.out; simp; omega) (.int .u64 ((l.getD 0 0 + 5) % Px.B : Nat))
  clear r2 z2 l2 b2 HE
  generalize (l.getD 0 0 + 5) % Px.B = v at *
  generalize l.getD 0 0 = x0 at *
  generalize Px.more0 l = M0 at *
  have HR3 := hid r3
  have HZ3 := hid z3
  have HL3 := hid l3
  have HB3 := hid b3
  clear r3 z3 l3 b3
  go_upto_region 3 with (fail)
  clear d0 g0 hadd
  have r3 := HR3.out
  have HZ4 := hid HZ3.out
  have HL4 := hid HL3.out
  have HB4 := hid HB3.out
  clear HR3 HZ3 HL3 HB3
  generalize w2.setCell _ _ = w3 at *
  go_upto_region 4 with (first
    | (refine wpList_load_row rfl _ _ rfl q rfl _ _ _ _ r3 Tryd.underlying66 rfl (by rw [hm0]; exact info77) ?_)
    | (go_at_call 67; refine (HM.out _).mono ?_; rintro e w4 ⟨rfl, k4⟩; have r4 := r3.below k4 r3.lt)
    | (refine wpList_store_row rfl _ _ _ rfl q _ rfl rfl _ _ r4 (by rw [hms]; exact info77) (by rw [hms, hm0]) (ints_one _ _) ?_))
  have r5 : Row (w4.setRow q (ints .u64 M)) q .u64 66 M := setRow_heap _ _ _ _ _ _ r4
  have z5 : Row (w4.setRow q (ints .u64 M)) (w.heap.size + 1) .u64 66 (List.replicate 5 0) := by
    unfold Row; rw [setRow_other _ _ _ _ (by rw [HQ.out]; omega)]; exact HZ4.out.below k4 HZ4.out.lt
  have l5 : Row (w4.setRow q (ints .u64 M)) w.heap.size .u64 66 l := by
    unfold Row; rw [setRow_other _ _ _ _ (by rw [HQ.out]; omega)]; exact HL4.out.below k4 HL4.out.lt
  have b5 : Below w.heap.size w (w4.setRow q (ints .u64 M)) := below_setRow (HB4.out.trans (k4.mono HB4.out.size)) (by rw [HQ.out]; omega) _
  clear r3 r4 HZ4 HL4 HB4 k4
  generalize w4.setRow _ _ = w5 at *
  have d4 := r5.cell 4 (by omega)
  have g4 := r5.free 4
  have hmk := mask26 (M.getD 4 0) (HMO.out.get 4)
  have hsh : (M.getD 4 0 : Int) / 67108864 = ((M.getD 4 0 / 67108864 : Nat) : Int) := by omega
  by_cases hc : M.getD 4 0 / 67108864 = 0
  · rw [if_pos hc] at HLE
    rw [hc] at hsh
    have HB5 := hid b5
    clear r5 b5 g4 hmk hc
    generalize M.getD 4 0 = x4 at *
    go_wp2_with (first | (refine wpList_load_row rfl _ _ rfl w.heap.size rfl _ _ _ _ l5 Tryd.underlying66 rfl (by rw [hs]; exact info77) ?_) | (refine wpList_store_row rfl _ _ _ rfl (w.heap.size + 1) _ rfl rfl _ _ z5 (by rw [hs]; exact info77) (by rw [hs, ints_size, List.length_replicate]) (ints_one _ _) ?_))
    exact bodyPost_ret (v := .agg (ints .u64 l))
      (results_cell_row Tryd.results54 _ _ (w.heap.size + 1) _ _ _ _ rfl (setRow_heap w5 (w.heap.size + 1) _ _ _ _ z5) Tryd.underlying66 rfl (by rw [hs]; exact info77))
      rfl ⟨by rw [HLE.out], below_setRow HB5.out (Nat.le_succ _) _⟩
  · rw [if_neg hc] at HLE
    have hcb : ((M.getD 4 0 / 67108864 : Nat) : Int) ≠ 0 := by omega
    have r6 := r5.set 4 (M.getD 4 0 % 67108864)
    have z6 := z5.set_other ⟨q, 4, none⟩ (.int .u64 (M.getD 4 0 % 67108864 : Nat)) (by have := HQ.out; simp; omega)
    have b6 := b5.setCell (p := ⟨q, 4, none⟩) (by have := HQ.out; simp; omega) (.int .u64 (M.getD 4 0 % 67108864 : Nat))
    rw [← HLE.out] at r6
    have hsz : (ints .u64 (Px.least l)).size = 5 := by rw [ints_size, Px.least_length, hl]
    generalize hT : Px.least l = T at HLE r6 hsz
    have HTE := hid hT
    have HR6 := hid r6
    have HZ6 := hid z6
    have HB6 := hid b6
    clear r5 z5 l5 b5 r6 z6 b6 HLE HMO hT
    generalize M.getD 4 0 % 67108864 = v4 at *
    generalize M.getD 4 0 / 67108864 = v5 at *
    generalize M.getD 4 0 = x4 at *
    go_upto_region 7 with (fail)
    clear d4 g4 hmk hsh
    have r6 := HR6.out
    have z6 := HZ6.out
    have HB7 := hid HB6.out
    clear HR6 HZ6 HB6
    generalize w5.setCell _ _ = w6 at *
    go_wp2_with (first | (refine wpList_load_row rfl _ _ rfl q rfl _ _ _ _ r6 Tryd.underlying66 rfl (by rw [hsz]; exact info77) ?_) | (refine wpList_store_row rfl _ _ _ rfl (w.heap.size + 1) _ rfl rfl _ _ z6 (by rw [hsz]; exact info77) (by rw [hsz, ints_size, List.length_replicate]) (ints_one _ _) ?_))
    exact bodyPost_ret (v := .agg (ints .u64 T))
      (results_cell_row Tryd.results54 _ _ (w.heap.size + 1) _ _ _ _ rfl (setRow_heap w6 (w.heap.size + 1) _ _ _ _ z6) Tryd.underlying66 rfl (by rw [hsz]; exact info77))
      rfl ⟨by rw [HTE.out], below_setRow HB7.out (Nat.le_succ _) _⟩
end Go.Proofs.YtiolflofkoeffaaDoor
