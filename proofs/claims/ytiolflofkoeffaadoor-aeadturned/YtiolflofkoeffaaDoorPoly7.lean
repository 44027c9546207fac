/-
  Layer 4: what numberOf returns, as it stands (modulo 2^64).
-/
import Derived.Test.YtiolflofkoeffaaDoorPoly6
namespace Go.Proofs.YtiolflofkoeffaaDoor
open Go.RowKit
open Go.Lib (hid)

namespace Px
/-- Byte i is added where it belongs. -/
def nb1 (o : List Nat) (x i : Nat) : List Nat := o.set (8 * i / 26) ((o.getD (8 * i / 26) 0 + x * 2 ^ (8 * i % 26) % B) % B)
def nbN (b : List Nat) : Nat → List Nat
  | 0 => List.replicate 5 0
  | k + 1 => nb1 (nbN b k) (b.getD k 0) k
def numberOf (b : List Nat) : List Nat := spread (nbN b 17)
theorem nbN_length (b : List Nat) (k : Nat) : (nbN b k).length = 5 := by
  induction k with
  | zero => rfl
  | succ k ih => rw [nbN, nb1, List.length_set, ih]
theorem numberOf_length (b : List Nat) : (numberOf b).length = 5 := by rw [numberOf, spread_length, nbN_length]
theorem ok_nbN (b : List Nat) (k : Nat) : Ok (nbN b k) := by
  induction k with
  | zero => intro x hx; rw [List.eq_of_mem_replicate hx]; decide
  | succ k ih => exact ih.set _ _ (Nat.mod_lt _ (by decide))
theorem ok_numberOf (b : List Nat) : Ok (numberOf b) := (ok_nbN b 17).spread
end Px
theorem info82 : (Tryd.prog.info? 68).map (·.size) = some 17 := by kernel_rfl

set_option maxHeartbeats 1000000 in
set_option maxRecDepth 100000 in
theorem numberOf_any (b : List Nat) (hl : b.length = 17) (hx : ∀ x ∈ b, x < 256) (w : World) :
    Calls Tryd.prog 52 #[.agg (ints .u8 b)] w fun e w' => e = .returned (.agg (ints .u64 (Px.numberOf b))) ∧ Below w.heap.size w w' := by
  have hs : (ints .u8 b).size = 17 := by rw [ints_size, hl]
  have HX := hid hx
  have HM := hid (fun wx => spread_any (Px.nbN b 17) (Px.nbN_length b 17) (Px.ok_nbN b 17) wx)
  have HLE : Hid (Px.numberOf b = Px.spread (Px.nbN b 17)) := rfl
  rw [← HLE.out] at HM
  have hsz : (ints .u64 (Px.numberOf b)).size = 5 := by rw [ints_size, Px.numberOf_length]
  generalize hT : Px.numberOf b = T at HM hsz
  clear hx HLE hT
  go_enter Tryd.func52, Tryd.ntmps52
  go_upto_region 2 with (fail)
  generalize hw0 : (((w.alloc _).alloc _).alloc _) = w0
  have rl : Row w0 w.heap.size .u8 68 b := by rw [← hw0]; unfold Row; rw [heap_alloc3_0]
  have rz : Row w0 (w.heap.size + 1) .u64 66 (List.replicate 5 0) := by rw [← hw0]; unfold Row; rw [heap_alloc3_1]; kernel_rfl
  have ro : Row w0 (w.heap.size + 1 + 1) .u64 66 (Px.nbN b 0) := by rw [← hw0]; unfold Row; rw [heap_alloc3_2]; kernel_rfl
  have hb0 : Below w.heap.size w w0 := by rw [← hw0]; exact (((Below.refl _ _).alloc (Nat.le_refl _) _).alloc (by simp) _).alloc (by simp; omega) _
  clear hw0
  have HRZ := hid rz
  have HRO := hid ro
  have HB0 := hid hb0
  clear rz ro hb0
  go_wp2_with (refine wpList_load_row rfl _ _ rfl w.heap.size rfl _ _ _ _ rl Tryd.underlying68 rfl (by rw [hs]; exact info82) ?_)
  clear rl
  go_loopw [7] (fun i wr => ∃ k : Nat, k ≤ 17 ∧ i = .int .i64 k ∧ Row wr (w.heap.size + 1) .u64 66 (List.replicate 5 0) ∧ Row wr (w.heap.size + 1 + 1) .u64 66 (Px.nbN b k) ∧ Below w.heap.size w wr)
    (fun i _ => 17 - (intOf i).toNat)
  case atStart => exact ⟨0, by omega, rfl, HRZ.out, HRO.out, HB0.out⟩
  case round =>
    clear HRZ HRO HB0
    obtain ⟨k, hk, rfl, rz, ro, hbel⟩ := hrel
    by_cases hlt : k < 17
    · have hi := fun wx => run_index_ints (P := Tryd.prog) wx 68 5 17 .u8 b Tryd.underlying68 Tryd.underlying5 (by kernel_rfl) hl k hlt
      have hbx := getD_lt (by omega) HX.out k
      have HRO := hid ro
      have HRZ := hid rz
      have HBL := hid hbel
      clear ro rz hbel
      have HST : Hid (∀ n : Nat, Px.nbN b (k + 1) = (Px.nbN b k).set (8 * k / 26) (((Px.nbN b k).getD (8 * k / 26) 0 + b.getD k 0 * 2 ^ (8 * k % 26) % Px.B) % Px.B)) := fun _ => rfl
      have hll : (Px.nbN b k).length = 5 := Px.nbN_length b k
      generalize Px.nbN b k = y at *
      generalize b.getD k 0 = x at *
      go_upto_region 5 with (fail)
      clear hi
      have ro := HRO.out
      have rz := HRZ.out
      have hbel := HBL.out
      clear HRO HRZ HBL
      obtain ⟨a, ha⟩ : ∃ a, a = 8 * k / 26 := ⟨_, rfl⟩
      obtain ⟨d, hd0⟩ : ∃ d, d = 8 * k % 26 := ⟨_, rfl⟩
      rw [← ha, ← hd0] at HST
      have ha5 : a < 5 := by omega
      have hd26 : d < 26 := by omega
      have hd : (8 * (k : Int)) / 26 = (a : Int) := by omega
      have hr : (8 * (k : Int)) % 26 = (d : Int) := by omega
      have hshl := shl64 x d
      have c0 := fun m => show (wr.drewN m).cell? ⟨w.heap.size + 1 + 1, a, none⟩ = _ from ro.cell a (by omega)
      have f0 := fun m => show (wr.drewN m).frozen? ⟨w.heap.size + 1 + 1, a, none⟩ = false from ro.free a
      have hadd := add64 (y.getD a 0) (x * 2 ^ d % Px.B)
      have r1 := fun m => show Row ((wr.drewN m).setCell ⟨w.heap.size + 1 + 1, a, none⟩ (.int .u64 ((y.getD a 0 + x * 2 ^ d % Px.B) % Px.B : Nat))) (w.heap.size + 1 + 1) .u64 66 _ from Row.set (w := wr.drewN m) ro a _
      rw [← HST.out 0] at r1
      have z1 := fun m => Row.set_other (w := wr.drewN m) rz ⟨w.heap.size + 1 + 1, a, none⟩ (.int .u64 ((y.getD a 0 + x * 2 ^ d % Px.B) % Px.B : Nat)) (by simp)
      have b1 := fun m => (show Below w.heap.size w (wr.drewN m) from hbel.trans ⟨rfl, rfl, rfl, Nat.le_refl _, fun _ _ => rfl⟩).setCell (p := ⟨w.heap.size + 1 + 1, a, none⟩) (by show w.heap.size ≤ w.heap.size + 1 + 1; omega) (.int .u64 ((y.getD a 0 + x * 2 ^ d % Px.B) % Px.B : Nat))
      have HR := hid r1
      have HZ := hid z1
      have HB := hid b1
      clear r1 z1 b1 ro rz hbel HST ha hd0 hll
      generalize (y.getD a 0 + x * 2 ^ d % Px.B) % Px.B = v at *
      generalize x * 2 ^ d % Px.B = s at *
      generalize y.getD a 0 = y0 at *
      refine wp_region_noPanic ?_
      refine wp_region_hd1 13 1 rfl (by kernel_rfl) (by kernel_rfl) (fun _ _ _ _ _ h => h) ?_
      simp only [List.take_succ_cons, List.take_zero, List.drop_succ_cons, List.drop_zero]
      repeat (go_big_quiet_step (fail))
      refine wpQuiet_nil ?_
      intro m
      go_wp2
      refine NoPanic.normal ?_
      go_wp2
      go_roundw
      case rel =>
        first
          | exact ⟨k + 1, by omega, by go_num, HZ.out m, HR.out m, HB.out m⟩
          | ((repeat apply Exists.intro); refine ⟨?_, rfl⟩; exact ⟨k + 1, by omega, by go_num, HZ.out m, HR.out m, HB.out m⟩)
      case measure => simp [intOf]; omega
    · obtain rfl : k = 17 := by omega
      have hno : (ints .u64 (Px.nbN b 17)).size = 5 := by rw [ints_size, Px.nbN_length]
      generalize Px.nbN b 17 = N at *
      have HB := hid hbel
      have HRZ := hid rz
      clear hbel rz
      rw [show ((17 : Nat) : Int) = 17 from rfl]
      go_wp2_with (first
        | (refine wpList_load_row rfl _ _ rfl (w.heap.size + 1 + 1) rfl _ _ _ _ ro Tryd.underlying66 rfl (by rw [hno]; exact info77) ?_)
        | (go_at_call 67; refine (HM.out _).mono ?_; rintro e w1 ⟨rfl, k1⟩; have z1 := HRZ.out.below k1 HRZ.out.lt)
        | (refine wpList_store_row rfl _ _ _ rfl (w.heap.size + 1) _ rfl rfl _ _ z1 (by rw [hsz]; exact info77) (by rw [hsz, ints_size, List.length_replicate]) (ints_one _ _) ?_))
      exact bodyPost_ret (v := .agg (ints .u64 T))
        (results_cell_row Tryd.results52 _ _ (w.heap.size + 1) _ _ _ _ rfl (setRow_heap w1 (w.heap.size + 1) _ _ _ _ z1) Tryd.underlying66 rfl (by rw [hsz]; exact info77))
        rfl ⟨rfl, below_setRow (HB.out.trans (k1.mono HB.out.size)) (Nat.le_succ _) _⟩
end Go.Proofs.YtiolflofkoeffaaDoor
