/-
  Layer 4: numbers of five limbs: what (number).spread and plus return, as they stand (modulo 2^64).
-/
import Derived.Test.YtiolflofkoeffaaDoorPoly1
namespace Go.Proofs.YtiolflofkoeffaaDoor
open Go.RowKit
open Go.Lib (hid)

namespace Px
/-- 2^64. -/
def B : Nat := 18446744073709551616
/-- Limb i hands on what exceeds 26 bits. -/
def sp1 (l : List Nat) (i : Nat) : List Nat := (l.set (i + 1) ((l.getD (i + 1) 0 + l.getD i 0 / 67108864) % B)).set i (l.getD i 0 % 67108864)
def spN (l : List Nat) : Nat → List Nat
  | 0 => l
  | k + 1 => sp1 (spN l k) k
def spread (l : List Nat) : List Nat := spN l 4
theorem sp1_length (l : List Nat) (i : Nat) : (sp1 l i).length = l.length := by simp [sp1]
theorem spN_length (l : List Nat) (k : Nat) : (spN l k).length = l.length := by
  induction k with
  | zero => rfl
  | succ k ih => rw [spN, sp1_length, ih]
theorem spread_length (l : List Nat) : (spread l).length = l.length := spN_length l 4
def Ok (l : List Nat) : Prop := ∀ x ∈ l, x < B
theorem Ok.get {l : List Nat} (h : Ok l) (i : Nat) : l.getD i 0 < B := getD_lt (by decide) h i
theorem Ok.set {l : List Nat} (h : Ok l) (i v : Nat) (hv : v < B) : Ok (l.set i v) := by
  intro u hu
  rcases List.mem_or_eq_of_mem_set hu with h' | rfl
  · exact h u h'
  · exact hv
theorem Ok.sp1 {l : List Nat} (h : Ok l) (i : Nat) : Ok (sp1 l i) :=
  (h.set _ _ (Nat.mod_lt _ (by decide))).set _ _ (by have := h.get i; exact Nat.lt_of_le_of_lt (Nat.mod_le _ _) this)
theorem Ok.spN {l : List Nat} (h : Ok l) (k : Nat) : Ok (spN l k) := by
  induction k with
  | zero => exact h
  | succ k ih => exact ih.sp1 k
end Px

theorem add64 (a b : Nat) : IntKind.u64.wrap ((a : Int) + (b : Int)) = (((a + b) % Px.B : Nat) : Int) := by
  simp [IntKind.wrap, IntKind.bits, IntKind.signed]; unfold Px.B; omega
theorem mask26 (x : Nat) (h : x < Px.B) : bits .and .u64 (x : Int) 67108863 = ((x % 67108864 : Nat) : Int) := by
  have h := bits_mask .u64 64 (by decide) (fun n h0 h1 => by simp [IntKind.wrap, IntKind.bits, IntKind.signed]; omega) 26 (by decide) (x : Int) (by omega) (by unfold Px.B at h; omega)
  have h' : bits .and .u64 (x : Int) 67108863 = (x : Int) % 67108864 := h
  rw [h']; omega
theorem info77 : (Tryd.prog.info? 66).map (·.size) = some 5 := by kernel_rfl

set_option maxHeartbeats 1000000 in
set_option maxRecDepth 100000 in
theorem spread_any (l : List Nat) (hl : l.length = 5) (ho : Px.Ok l) (w : World) :
    Calls Tryd.prog 67 #[.agg (ints .u64 l)] w fun e w' => e = .returned (.agg (ints .u64 (Px.spread l))) ∧ Below w.heap.size w w' := by
  have hs : (ints .u64 l).size = 5 := by rw [ints_size, hl]
  have HO := hid ho
  clear ho
  go_enter Tryd.func67, Tryd.ntmps67
  go_upto_region 2 with (fail)
  generalize hw0 : (w.alloc _).alloc _ = w0
  have rl : Row w0 w.heap.size .u64 66 l := by rw [← hw0]; unfold Row; rw [heap_alloc2_old]
  have rz : Row w0 (w.heap.size + 1) .u64 66 (List.replicate 5 0) := by rw [← hw0]; unfold Row; rw [heap_alloc2_new]; kernel_rfl
  have hb0 : Below w.heap.size w w0 := by rw [← hw0]; exact ((Below.refl _ _).alloc (Nat.le_refl _) _).alloc (by simp) _
  clear hw0
  have HRL := hid rl
  have HRZ := hid rz
  have HB0 := hid hb0
  clear rl rz hb0
  go_loopw [4] (fun i wr => ∃ k : Nat, k ≤ 4 ∧ i = .int .i64 k ∧ Row wr w.heap.size .u64 66 (Px.spN l k) ∧ Row wr (w.heap.size + 1) .u64 66 (List.replicate 5 0) ∧ Below w.heap.size w wr)
    (fun i _ => 4 - (intOf i).toNat)
  case atStart => exact ⟨0, by omega, rfl, HRL.out, HRZ.out, HB0.out⟩
  case round =>
    clear HRL HRZ HB0
    obtain ⟨k, hk, rfl, rl, rz, hbel⟩ := hrel
    by_cases hlt : k < 4
    · have HST : Hid (∀ n : Nat, Px.spN l (k + 1) = Px.sp1 (Px.spN l k) k) := fun _ => rfl
      have hol := HO.out.spN k
      have hll : (Px.spN l k).length = 5 := by rw [Px.spN_length, hl]
      generalize Px.spN l k = y at *
      have c0 := fun m => show (wr.drewN m).cell? ⟨w.heap.size, k, none⟩ = _ from rl.cell k (by omega)
      have c1 := fun m => show (wr.drewN m).cell? ⟨w.heap.size, k + 1, none⟩ = _ from rl.cell (k + 1) (by omega)
      have f1 := fun m => show (wr.drewN m).frozen? ⟨w.heap.size, k + 1, none⟩ = false from rl.free (k + 1)
      have hadd := add64 (y.getD (k + 1) 0) (y.getD k 0 / 67108864)
      have hsh : (y.getD k 0 : Int) / 67108864 = ((y.getD k 0 / 67108864 : Nat) : Int) := by omega
      have hmk := mask26 (y.getD k 0) (hol.get k)
      have r1 := fun m => show Row ((wr.drewN m).setCell ⟨w.heap.size, k + 1, none⟩ (.int .u64 ((y.getD (k + 1) 0 + y.getD k 0 / 67108864) % Px.B : Nat))) w.heap.size .u64 66 _ from Row.set (w := wr.drewN m) rl (k + 1) _
      have hne : k + 1 ≠ k := by omega
      have hgk : (y.set (k + 1) ((y.getD (k + 1) 0 + y.getD k 0 / 67108864) % Px.B)).getD k 0 = y.getD k 0 := by simp [List.getElem?_set_ne hne]
      have hsp : (y.set (k + 1) ((y.getD (k + 1) 0 + y.getD k 0 / 67108864) % Px.B)).set k (y.getD k 0 % 67108864) = Px.sp1 y k := rfl
      have hzz := fun m => Row.set_other (w := wr.drewN m) rz ⟨w.heap.size, k + 1, none⟩ (.int .u64 ((y.getD (k + 1) 0 + y.getD k 0 / 67108864) % Px.B : Nat)) (by simp)
      have hbb := fun m => (show Below w.heap.size w (wr.drewN m) from hbel.trans ⟨rfl, rfl, rfl, Nat.le_refl _, fun _ _ => rfl⟩).setCell (p := ⟨w.heap.size, k + 1, none⟩) (Nat.le_refl _) (.int .u64 ((y.getD (k + 1) 0 + y.getD k 0 / 67108864) % Px.B : Nat))
      generalize y.set (k + 1) ((y.getD (k + 1) 0 + y.getD k 0 / 67108864) % Px.B) = y1 at *
      generalize (y.getD (k + 1) 0 + y.getD k 0 / 67108864) % Px.B = v1 at *
      have HR1 := hid r1
      have HZZ := hid hzz
      have HBB := hid hbb
      have HSP := hid hsp
      have HGK := hid hgk
      have HLL := hid hll
      clear rl rz hbel r1 hzz hbb hsp hol hgk hll
      generalize y.getD k 0 / 67108864 = q at *
      generalize y.getD k 0 = x0 at *
      generalize y.getD (k + 1) 0 = x1 at *
      go_upto_region 4 with (fail)
      refine wp_region_noPanic ?_
      refine wp_region_hd1 9 2 rfl (by kernel_rfl) (by kernel_rfl) (fun _ _ _ _ _ h => h) ?_
      simp only [List.take_succ_cons, List.take_zero, List.drop_succ_cons, List.drop_zero]
      repeat (go_big_quiet_step (fail))
      refine wpQuiet_nil ?_
      intro m
      go_wp2
      refine NoPanic.normal ?_
      have r1 := HR1.out m
      have HZ := hid (HZZ.out m)
      have HB := hid (HBB.out m)
      clear HR1 HZZ HBB c0 c1 f1
      generalize (wr.drewN m).setCell _ _ = w1 at *
      have hy1 : y1.length = 5 := by have h := congrArg List.length HSP.out; rw [List.length_set, Px.sp1_length, HLL.out] at h; exact h
      have d0 := r1.cell k (by omega)
      rw [HGK.out] at d0
      have g0 := r1.free k
      have HR2 := hid (r1.set k (x0 % 67108864))
      rw [HSP.out, ← HST.out 0] at HR2
      have HZ2 := hid (HZ.out.set_other ⟨w.heap.size, k, none⟩ (.int .u64 (x0 % 67108864 : Nat)) (by simp))
      have HB2 := hid (HB.out.setCell (p := ⟨w.heap.size, k, none⟩) (Nat.le_refl _) (.int .u64 (x0 % 67108864 : Nat)))
      clear r1 HZ HB hadd hsh HSP HST HGK HLL hy1
      generalize x0 % 67108864 = v0 at *
      go_wp2
      go_roundw
      case rel =>
        first
          | exact ⟨k + 1, by omega, by go_num, HR2.out, HZ2.out, HB2.out⟩
          | ((repeat apply Exists.intro); refine ⟨?_, rfl⟩; exact ⟨k + 1, by omega, by go_num, HR2.out, HZ2.out, HB2.out⟩)
      case measure => simp [intOf]; omega
    · obtain rfl : k = 4 := by omega
      rw [show Px.spN l 4 = Px.spread l from rfl] at rl
      have hsz : (ints .u64 (Px.spread l)).size = 5 := by rw [ints_size, Px.spread_length, hl]
      have HSZ := hid hsz
      clear hsz
      rw [show ((4 : Nat) : Int) = 4 from rfl]
      go_wp2_with (first | (refine wpList_load_row rfl _ _ rfl w.heap.size rfl _ _ _ _ rl Tryd.underlying66 rfl (by rw [HSZ.out]; exact info77) ?_) | (refine wpList_store_row rfl _ _ _ rfl (w.heap.size + 1) _ rfl rfl _ _ rz (by rw [HSZ.out]; exact info77) (by rw [HSZ.out, ints_size, List.length_replicate]) (ints_one _ _) ?_))
      exact bodyPost_ret (v := .agg (ints .u64 (Px.spread l)))
        (results_cell_row Tryd.results67 _ _ (w.heap.size + 1) _ _ _ _ rfl (setRow_heap wr (w.heap.size + 1) _ _ _ _ rz) Tryd.underlying66 rfl (by rw [HSZ.out]; exact info77))
        rfl ⟨rfl, below_setRow hbel (Nat.le_succ _) _⟩
end Go.Proofs.YtiolflofkoeffaaDoor
