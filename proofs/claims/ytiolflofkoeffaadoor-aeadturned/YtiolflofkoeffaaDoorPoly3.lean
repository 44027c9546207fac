/-
  Layer 4: what (number).plus and carried return, as they stand (modulo 2^64).
-/
import Derived.Test.YtiolflofkoeffaaDoorPoly2
namespace Go.Proofs.YtiolflofkoeffaaDoor
open Go.RowKit
open Go.Lib (hid)

namespace Px
/-- The first k limbs of m are added. -/
def plN (l m : List Nat) : Nat → List Nat
  | 0 => l
  | k + 1 => (plN l m k).set k (((plN l m k).getD k 0 + m.getD k 0) % B)
def plus (l m : List Nat) : List Nat := plN l m 5
theorem plN_length (l m : List Nat) (k : Nat) : (plN l m k).length = l.length := by
  induction k with
  | zero => rfl
  | succ k ih => rw [plN, List.length_set, ih]
theorem plus_length (l m : List Nat) : (plus l m).length = l.length := plN_length l m 5
theorem Ok.plN {l : List Nat} (h : Ok l) (m : List Nat) (k : Nat) : Ok (plN l m k) := by
  induction k with
  | zero => exact h
  | succ k ih => exact ih.set _ _ (Nat.mod_lt _ (by decide))
theorem Ok.plus {l : List Nat} (h : Ok l) (m : List Nat) : Ok (plus l m) := h.plN m 5
theorem Ok.spread {l : List Nat} (h : Ok l) : Ok (spread l) := h.spN 4
end Px

set_option maxHeartbeats 1000000 in
set_option maxRecDepth 100000 in
theorem plus_any (l p : List Nat) (hl : l.length = 5) (hp : p.length = 5) (w : World) :
    Calls Tryd.prog 55 #[.agg (ints .u64 l), .agg (ints .u64 p)] w fun e w' => e = .returned (.agg (ints .u64 (Px.plus l p))) ∧ Below w.heap.size w w' := by
  have hs : (ints .u64 l).size = 5 := by rw [ints_size, hl]
  have hsp : (ints .u64 p).size = 5 := by rw [ints_size, hp]
  go_enter Tryd.func55, Tryd.ntmps55
  go_upto_region 1 with (fail)
  generalize hw0 : (((w.alloc _).alloc _).alloc _) = w0
  have rl : Row w0 w.heap.size .u64 66 l := by rw [← hw0]; unfold Row; rw [heap_alloc3_0]
  have rp : Row w0 (w.heap.size + 1) .u64 66 p := by rw [← hw0]; unfold Row; rw [heap_alloc3_1]
  have rz : Row w0 (w.heap.size + 1 + 1) .u64 66 (List.replicate 5 0) := by rw [← hw0]; unfold Row; rw [heap_alloc3_2]; kernel_rfl
  have hb0 : Below w.heap.size w w0 := by rw [← hw0]; exact (((Below.refl _ _).alloc (Nat.le_refl _) _).alloc (by simp) _).alloc (by simp; omega) _
  clear hw0
  have HRL := hid rl
  have HRZ := hid rz
  have HB0 := hid hb0
  clear rl rz hb0
  go_wp2_with (refine wpList_load_row rfl _ _ rfl (w.heap.size + 1) rfl _ _ _ _ rp Tryd.underlying66 rfl (by rw [hsp]; exact info77) ?_)
  clear rp
  go_loopw [8] (fun i wr => ∃ k : Nat, k ≤ 5 ∧ i = .int .i64 k ∧ Row wr w.heap.size .u64 66 (Px.plN l p k) ∧ Row wr (w.heap.size + 1 + 1) .u64 66 (List.replicate 5 0) ∧ Below w.heap.size w wr)
    (fun i _ => 5 - (intOf i).toNat)
  case atStart => exact ⟨0, by omega, rfl, HRL.out, HRZ.out, HB0.out⟩
  case round =>
    clear HRL HRZ HB0
    obtain ⟨k, hk, rfl, rl, rz, hbel⟩ := hrel
    by_cases hlt : k < 5
    · have hi := fun wx => run_index_ints (P := Tryd.prog) wx 66 64 5 .u64 p Tryd.underlying66 Tryd.underlying64 (by kernel_rfl) hp k hlt
      have HST : Hid (∀ n : Nat, Px.plN l p (k + 1) = (Px.plN l p k).set k (((Px.plN l p k).getD k 0 + p.getD k 0) % Px.B)) := fun _ => rfl
      have hll : (Px.plN l p k).length = 5 := by rw [Px.plN_length, hl]
      generalize Px.plN l p k = y at *
      have c0 := rl.cell k (by omega)
      have f0 := rl.free k
      have hadd := add64 (y.getD k 0) (p.getD k 0)
      have hr' := rl.set k ((y.getD k 0 + p.getD k 0) % Px.B)
      rw [← HST.out 0] at hr'
      have hz' := rz.set_other ⟨w.heap.size, k, none⟩ (.int .u64 ((y.getD k 0 + p.getD k 0) % Px.B : Nat)) (by simp; omega)
      have hb' := hbel.setCell (p := ⟨w.heap.size, k, none⟩) (Nat.le_refl _) (.int .u64 ((y.getD k 0 + p.getD k 0) % Px.B : Nat))
      have HR := hid hr'
      have HZ := hid hz'
      have HB := hid hb'
      clear hr' hz' hb' rl rz hbel HST hll
      generalize (y.getD k 0 + p.getD k 0) % Px.B = v at *
      generalize y.getD k 0 = x0 at *
      generalize p.getD k 0 = x1 at *
      go_wp2
      go_roundw
      case rel =>
        first
          | exact ⟨k + 1, by omega, by go_num, HR.out, HZ.out, HB.out⟩
          | ((repeat apply Exists.intro); refine ⟨?_, rfl⟩; exact ⟨k + 1, by omega, by go_num, HR.out, HZ.out, HB.out⟩)
      case measure => simp [intOf]; omega
    · obtain rfl : k = 5 := by omega
      rw [show Px.plN l p 5 = Px.plus l p from rfl] at rl
      have hsz : (ints .u64 (Px.plus l p)).size = 5 := by rw [ints_size, Px.plus_length, hl]
      have HSZ := hid hsz
      clear hsz
      rw [show ((5 : Nat) : Int) = 5 from rfl]
      go_wp2_with (first | (refine wpList_load_row rfl _ _ rfl w.heap.size rfl _ _ _ _ rl Tryd.underlying66 rfl (by rw [HSZ.out]; exact info77) ?_) | (refine wpList_store_row rfl _ _ _ rfl (w.heap.size + 1 + 1) _ rfl rfl _ _ rz (by rw [HSZ.out]; exact info77) (by rw [HSZ.out, ints_size, List.length_replicate]) (ints_one _ _) ?_))
      exact bodyPost_ret (v := .agg (ints .u64 (Px.plus l p)))
        (results_cell_row Tryd.results55 _ _ (w.heap.size + 1 + 1) _ _ _ _ rfl (setRow_heap wr (w.heap.size + 1 + 1) _ _ _ _ rz) Tryd.underlying66 rfl (by rw [HSZ.out]; exact info77))
        rfl ⟨rfl, below_setRow hbel (by omega) _⟩

namespace Px
/-- What exceeds 26 bits in the last limb goes to the first, five times. -/
def fold0 (y : List Nat) : List Nat := y.set 0 ((y.getD 0 0 + 5 * (y.getD 4 0 / 67108864) % B) % B)
def fold (y : List Nat) : List Nat := (fold0 y).set 4 (y.getD 4 0 % 67108864)
def carried (l : List Nat) : List Nat := fold (spread l)
theorem fold_length (y : List Nat) : (fold y).length = y.length := by simp [fold, fold0]
theorem carried_length (l : List Nat) : (carried l).length = l.length := by rw [carried, fold_length, spread_length]
theorem Ok.fold {y : List Nat} (h : Ok y) : Ok (fold y) :=
  (h.set _ _ (Nat.mod_lt _ (by decide))).set _ _ (Nat.lt_of_le_of_lt (Nat.mod_le _ _) (h.get 4))
theorem Ok.carried {l : List Nat} (h : Ok l) : Ok (carried l) := h.spread.fold
end Px
theorem mul64 (b : Nat) : IntKind.u64.wrap (5 * (b : Int)) = ((5 * b % Px.B : Nat) : Int) := by
  simp [IntKind.wrap, IntKind.bits, IntKind.signed]; unfold Px.B; omega

set_option maxHeartbeats 1000000 in
set_option maxRecDepth 100000 in
theorem carried_any (l : List Nat) (hl : l.length = 5) (ho : Px.Ok l) (w : World) :
    Calls Tryd.prog 74 #[.agg (ints .u64 l)] w fun e w' => e = .returned (.agg (ints .u64 (Px.carried l))) ∧ Below w.heap.size w w' := by
  have hs : (ints .u64 l).size = 5 := by rw [ints_size, hl]
  have HO := hid ho
  clear ho
  go_enter Tryd.func74, Tryd.ntmps74
  go_upto_region 1 with (fail)
  generalize hw0 : (w.alloc _).alloc _ = w0
  have rl : Row w0 w.heap.size .u64 66 l := by rw [← hw0]; unfold Row; rw [heap_alloc2_old]
  have rz : Row w0 (w.heap.size + 1) .u64 66 (List.replicate 5 0) := by rw [← hw0]; unfold Row; rw [heap_alloc2_new]; kernel_rfl
  have hb0 : Below w.heap.size w w0 := by rw [← hw0]; exact ((Below.refl _ _).alloc (Nat.le_refl _) _).alloc (by simp) _
  clear hw0
  have HRZ := hid rz
  have HB0 := hid hb0
  have HC := hid (spread_any l hl HO.out w0)
  clear rz hb0
  have hsz : (ints .u64 (Px.spread l)).size = 5 := by rw [ints_size, Px.spread_length, hl]
  have hyl : (Px.spread l).length = 5 := by rw [Px.spread_length, hl]
  have hyo := HO.out.spread
  have HE : Hid (Px.carried l = Px.fold (Px.spread l)) := rfl
  generalize Px.spread l = y at *
  generalize hz : Px.carried l = z at HE
  have HZE := hid hz
  clear hz
  have HSZ := hid hsz
  have HYL := hid hyl
  have HYO := hid hyo
  clear hsz hyl hyo
  go_upto_region 2 with (first | (refine wpList_load_row rfl _ _ rfl w.heap.size rfl _ _ _ _ rl Tryd.underlying66 rfl (by rw [hs]; exact info77) ?_) | (go_at_call 67; refine HC.out.mono ?_; rintro e w1 ⟨rfl, k1⟩; have rl1 := rl.below k1 rl.lt; have HK1 := hid k1; clear k1) | (refine wpList_store_row rfl _ _ _ rfl w.heap.size _ rfl rfl _ _ rl1 (by rw [HSZ.out]; exact info77) (by rw [HSZ.out, hs]) (ints_one _ _) ?_))
  have r2 : Row (w1.setRow w.heap.size (ints .u64 y)) w.heap.size .u64 66 y := setRow_heap w1 _ _ _ _ _ rl1
  have z2 : Row (w1.setRow w.heap.size (ints .u64 y)) (w.heap.size + 1) .u64 66 (List.replicate 5 0) := by
    unfold Row; rw [setRow_other _ _ _ _ (by omega)]; exact HRZ.out.below HK1.out HRZ.out.lt
  have b2 : Below w.heap.size w (w1.setRow w.heap.size (ints .u64 y)) := below_setRow (HB0.out.trans (HK1.out.mono HB0.out.size)) (Nat.le_refl _) _
  clear rl rl1 HRZ HB0 HK1 HC hs
  generalize w1.setRow _ _ = w2 at *
  have d0 := r2.cell 0 (by rw [HYL.out]; omega)
  have d4 := r2.cell 4 (by rw [HYL.out]; omega)
  have g0 := r2.free 0
  have h5 := mul64 (y.getD 4 0 / 67108864)
  have hadd := add64 (y.getD 0 0) (5 * (y.getD 4 0 / 67108864) % Px.B)
  have hsh : (y.getD 4 0 : Int) / 67108864 = ((y.getD 4 0 / 67108864 : Nat) : Int) := by omega
  have hmk := mask26 (y.getD 4 0) (HYO.out.get 4)
  have r3 := r2.set 0 ((y.getD 0 0 + 5 * (y.getD 4 0 / 67108864) % Px.B) % Px.B)
  have z3 := z2.set_other ⟨w.heap.size, 0, none⟩ (.int .u64 ((y.getD 0 0 + 5 * (y.getD 4 0 / 67108864) % Px.B) % Px.B : Nat)) (by simp)
  have b3 := b2.setCell (p := ⟨w.heap.size, 0, none⟩) (Nat.le_refl _) (.int .u64 ((y.getD 0 0 + 5 * (y.getD 4 0 / 67108864) % Px.B) % Px.B : Nat))
  have HE2 : Hid (z = (y.set 0 ((y.getD 0 0 + 5 * (y.getD 4 0 / 67108864) % Px.B) % Px.B)).set 4 (y.getD 4 0 % 67108864)) := HE.out
  have hg4 : (y.set 0 ((y.getD 0 0 + 5 * (y.getD 4 0 / 67108864) % Px.B) % Px.B)).getD 4 0 = y.getD 4 0 := by simp
  have hl1 : (y.set 0 ((y.getD 0 0 + 5 * (y.getD 4 0 / 67108864) % Px.B) % Px.B)).length = 5 := by rw [List.length_set, HYL.out]
  generalize y.set 0 ((y.getD 0 0 + 5 * (y.getD 4 0 / 67108864) % Px.B) % Px.B) = y1 at *
  generalize (y.getD 0 0 + 5 * (y.getD 4 0 / 67108864) % Px.B) % Px.B = v0 at *
  generalize 5 * (y.getD 4 0 / 67108864) % Px.B = v5 at *
  generalize y.getD 4 0 / 67108864 = q at *
  generalize y.getD 4 0 = x4 at *
  generalize y.getD 0 0 = x0 at *
  have HR3 := hid r3
  have HZ3 := hid z3
  have HB3 := hid b3
  have HG4 := hid hg4
  have HL1 := hid hl1
  clear r2 z2 b2 r3 z3 b3 HE HYO HYL HSZ hg4 hl1
  go_upto_region 3 with (fail)
  clear d0 d4 g0 h5 hadd hsh
  have r4 := HR3.out
  have z4 := HZ3.out
  have b4 := HB3.out
  clear HR3 HZ3 HB3
  generalize w2.setCell _ _ = w3 at *
  have d4 := r4.cell 4 (by rw [HL1.out]; omega)
  rw [HG4.out] at d4
  have g4 := r4.free 4
  have r5 := r4.set 4 (x4 % 67108864)
  rw [← HE2.out] at r5
  have z5 := z4.set_other ⟨w.heap.size, 4, none⟩ (.int .u64 (x4 % 67108864 : Nat)) (by simp)
  have b5 := b4.setCell (p := ⟨w.heap.size, 4, none⟩) (Nat.le_refl _) (.int .u64 (x4 % 67108864 : Nat))
  have hsz : (ints .u64 z).size = 5 := by rw [ints_size, HE2.out, List.length_set, HL1.out]
  generalize x4 % 67108864 = v4 at *
  have HSZ := hid hsz
  have HR5 := hid r5
  have HZ5 := hid z5
  have HB5 := hid b5
  clear r4 z4 b4 r5 z5 b5 HG4 HL1 HE2 hsz
  go_upto_region 4 with (fail)
  clear d4 g4
  have r6 := HR5.out
  have z6 := HZ5.out
  have b6 := HB5.out
  clear HR5 HZ5 HB5
  generalize w3.setCell _ _ = w4 at *
  go_wp2_with (first | (refine wpList_load_row rfl _ _ rfl w.heap.size rfl _ _ _ _ r6 Tryd.underlying66 rfl (by rw [HSZ.out]; exact info77) ?_) | (refine wpList_store_row rfl _ _ _ rfl (w.heap.size + 1) _ rfl rfl _ _ z6 (by rw [HSZ.out]; exact info77) (by rw [HSZ.out, ints_size, List.length_replicate]) (ints_one _ _) ?_))
  exact bodyPost_ret (v := .agg (ints .u64 z))
    (results_cell_row Tryd.results74 _ _ (w.heap.size + 1) _ _ _ _ rfl (setRow_heap w4 (w.heap.size + 1) _ _ _ _ z6) Tryd.underlying66 rfl (by rw [HSZ.out]; exact info77))
    rfl ⟨by rw [HZE.out], below_setRow b6 (Nat.le_succ _) _⟩
end Go.Proofs.YtiolflofkoeffaaDoor
