/-
  Layer 4: what (number).times returns, as it stands (modulo 2^64).
-/
import Derived.Test.YtiolflofkoeffaaDoorPoly3
namespace Go.Proofs.YtiolflofkoeffaaDoor
open Go.RowKit
open Go.Lib (hid)

namespace Px
/-- The product of limb i and limb j is added where it belongs. -/
def tm1 (o : List Nat) (x y i j : Nat) : List Nat :=
  if i + j < 5 then o.set (i + j) ((o.getD (i + j) 0 + x * y % B) % B) else o.set (i + j - 5) ((o.getD (i + j - 5) 0 + (5 * x % B) * y % B) % B)
def tmJ (o : List Nat) (x : Nat) (m : List Nat) (i : Nat) : Nat → List Nat
  | 0 => o
  | j + 1 => tm1 (tmJ o x m i j) x (m.getD j 0) i j
def tmI (l m : List Nat) : Nat → List Nat
  | 0 => List.replicate 5 0
  | i + 1 => tmJ (tmI l m i) (l.getD i 0) m i 5
def times (l m : List Nat) : List Nat := carried (carried (tmI l m 5))
theorem tm1_length (o : List Nat) (x y i j : Nat) : (tm1 o x y i j).length = o.length := by unfold tm1; split <;> simp
theorem tmJ_length (o : List Nat) (x : Nat) (m : List Nat) (i j : Nat) : (tmJ o x m i j).length = o.length := by
  induction j with
  | zero => rfl
  | succ j ih => rw [tmJ, tm1_length, ih]
theorem tmI_length (l m : List Nat) (i : Nat) : (tmI l m i).length = 5 := by
  induction i with
  | zero => rfl
  | succ i ih => rw [tmI, tmJ_length, ih]
theorem times_length (l m : List Nat) : (times l m).length = 5 := by rw [times, carried_length, carried_length, tmI_length]
theorem Ok.tm1 {o : List Nat} (h : Ok o) (x y i j : Nat) : Ok (tm1 o x y i j) := by
  unfold Px.tm1; split <;> exact h.set _ _ (Nat.mod_lt _ (by decide))
theorem Ok.tmJ {o : List Nat} (h : Ok o) (x : Nat) (m : List Nat) (i j : Nat) : Ok (tmJ o x m i j) := by
  induction j with
  | zero => exact h
  | succ j ih => exact ih.tm1 _ _ _ _
theorem ok_tmI (l m : List Nat) (i : Nat) : Ok (tmI l m i) := by
  induction i with
  | zero => intro x hx; rw [List.eq_of_mem_replicate hx]; decide
  | succ i ih => exact ih.tmJ _ _ _ _
theorem ok_times (l m : List Nat) : Ok (times l m) := (ok_tmI l m 5).carried.carried
end Px
theorem mul64b (a b : Nat) : IntKind.u64.wrap ((a : Int) * (b : Int)) = ((a * b % Px.B : Nat) : Int) := by
  rw [← Int.natCast_mul]
  generalize a * b = c
  simp [IntKind.wrap, IntKind.bits, IntKind.signed]; unfold Px.B; omega

set_option maxHeartbeats 1000000 in
set_option maxRecDepth 100000 in
theorem times_any (l p : List Nat) (hl : l.length = 5) (hp : p.length = 5) (w : World) :
    Calls Tryd.prog 68 #[.agg (ints .u64 l), .agg (ints .u64 p)] w fun e w' => e = .returned (.agg (ints .u64 (Px.times l p))) ∧ Below w.heap.size w w' := by
  have hs : (ints .u64 l).size = 5 := by rw [ints_size, hl]
  have hsp : (ints .u64 p).size = 5 := by rw [ints_size, hp]
  go_enter Tryd.func68, Tryd.ntmps68
  go_upto_region 2 with (fail)
  generalize hw00 : (((w.alloc _).alloc _).alloc _) = w00
  generalize hw0 : w00.alloc _ = w0
  have rl : Row w0 w.heap.size .u64 66 l := by rw [← hw0]; refine Row.alloc ?_ _; rw [← hw00]; unfold Row; rw [heap_alloc3_0]
  have rp : Row w0 (w.heap.size + 1) .u64 66 p := by rw [← hw0]; refine Row.alloc ?_ _; rw [← hw00]; unfold Row; rw [heap_alloc3_1]
  have rz : Row w0 (w.heap.size + 1 + 1) .u64 66 (List.replicate 5 0) := by rw [← hw0]; refine Row.alloc ?_ _; rw [← hw00]; unfold Row; rw [heap_alloc3_2]; kernel_rfl
  have hsz0 : w00.heap.size = w.heap.size + 1 + 1 + 1 := by rw [← hw00]; simp
  have ro : Row w0 (w.heap.size + 1 + 1 + 1) .u64 66 (List.replicate 5 0) := by rw [← hw0, ← hsz0]; exact heap_alloc_new _ _
  have hb0 : Below w.heap.size w w0 := by
    have h : Below w.heap.size w w00 := by rw [← hw00]; exact (((Below.refl _ _).alloc (Nat.le_refl _) _).alloc (by simp) _).alloc (by simp; omega) _
    rw [← hw0]; exact h.alloc h.size _
  clear hw0 hw00 hsz0
  have HRP := hid rp
  have HRZ := hid rz
  have HRO := hid ro
  have HB0 := hid hb0
  clear rp rz ro hb0
  go_wp2_with (refine wpList_load_row rfl _ _ rfl w.heap.size rfl _ _ _ _ rl Tryd.underlying66 rfl (by rw [hs]; exact info77) ?_)
  clear rl
  go_loopw [11] (fun i wr => ∃ k : Nat, k ≤ 5 ∧ i = .int .i64 k ∧ Row wr (w.heap.size + 1) .u64 66 p ∧ Row wr (w.heap.size + 1 + 1) .u64 66 (List.replicate 5 0) ∧ Row wr (w.heap.size + 1 + 1 + 1) .u64 66 (Px.tmI l p k) ∧ Below w.heap.size w wr)
    (fun i _ => 5 - (intOf i).toNat)
  case atStart => exact ⟨0, by omega, rfl, HRP.out, HRZ.out, HRO.out, HB0.out⟩
  case round =>
    clear HRP HRZ HRO HB0
    obtain ⟨k, hk, rfl, rp, rz, ro, hbel⟩ := hrel
    by_cases hlt : k < 5
    · have hi := fun wx => run_index_ints (P := Tryd.prog) wx 66 64 5 .u64 l Tryd.underlying66 Tryd.underlying64 (by kernel_rfl) hl k hlt
      have HST : Hid (∀ n : Nat, Px.tmI l p (k + 1) = Px.tmJ (Px.tmI l p k) (l.getD k 0) p k 5) := fun _ => rfl
      have HLO := hid (Px.tmI_length l p k)
      generalize Px.tmI l p k = o at *
      generalize l.getD k 0 = x at *
      have HRZ := hid rz
      have HRO := hid ro
      have HBL := hid hbel
      have HRP := hid rp
      clear rz ro hbel
      go_upto_region 6 with (refine wpList_load_row rfl _ _ rfl (w.heap.size + 1) rfl _ _ _ _ rp Tryd.underlying66 rfl (by rw [hsp]; exact info77) ?_)
      clear hi rp
      go_loopw [16] (fun j wq => ∃ n : Nat, n ≤ 5 ∧ j = .int .i64 n ∧ Row wq (w.heap.size + 1) .u64 66 p ∧ Row wq (w.heap.size + 1 + 1) .u64 66 (List.replicate 5 0) ∧ Row wq (w.heap.size + 1 + 1 + 1) .u64 66 (Px.tmJ o x p k n) ∧ Below w.heap.size w wq)
        (fun i _ => 5 - (intOf i).toNat)
      case atStart => exact ⟨0, by omega, rfl, HRP.out, HRZ.out, HRO.out, HBL.out⟩
      case round =>
        clear HRP HRZ HRO HBL
        obtain ⟨n, hn, rfl, rp, rz, ro, hbel⟩ := hrel
        by_cases hlt2 : n < 5
        · have hi := fun wx => run_index_ints (P := Tryd.prog) wx 66 64 5 .u64 p Tryd.underlying66 Tryd.underlying64 (by kernel_rfl) hp n hlt2
          have HSJ : Hid (∀ m : Nat, Px.tmJ o x p k (n + 1) = Px.tm1 (Px.tmJ o x p k n) x (p.getD n 0) k n) := fun _ => rfl
          have hlj : (Px.tmJ o x p k n).length = 5 := by rw [Px.tmJ_length, HLO.out]
          generalize Px.tmJ o x p k n = y at *
          generalize p.getD n 0 = z at *
          by_cases hkn : k + n < 5
          · have hst := HSJ.out 0
            unfold Px.tm1 at hst
            rw [if_pos hkn] at hst
            clear HSJ
            have hkn' : ((k : Int) + (n : Int) < 5) := by omega
            go_upto_region 9 with (fail)
            have c0 := ro.cell (k + n) (by omega)
            have f0 := ro.free (k + n)
            have hmul := mul64b x z
            have hadd := add64 (y.getD (k + n) 0) (x * z % Px.B)
            have r1 := ro.set (k + n) ((y.getD (k + n) 0 + x * z % Px.B) % Px.B)
            rw [← hst] at r1
            have z1 := rz.set_other ⟨w.heap.size + 1 + 1 + 1, k + n, none⟩ (.int .u64 ((y.getD (k + n) 0 + x * z % Px.B) % Px.B : Nat)) (by simp)
            have p1 := rp.set_other ⟨w.heap.size + 1 + 1 + 1, k + n, none⟩ (.int .u64 ((y.getD (k + n) 0 + x * z % Px.B) % Px.B : Nat)) (by show w.heap.size + 1 ≠ w.heap.size + 1 + 1 + 1; omega)
            have b1 := hbel.setCell (p := ⟨w.heap.size + 1 + 1 + 1, k + n, none⟩) (by show w.heap.size ≤ w.heap.size + 1 + 1 + 1; omega) (.int .u64 ((y.getD (k + n) 0 + x * z % Px.B) % Px.B : Nat))
            have HR := hid r1
            have HZ := hid z1
            have HP := hid p1
            have HB := hid b1
            clear r1 z1 p1 b1 hst ro rz rp hbel hi
            generalize (y.getD (k + n) 0 + x * z % Px.B) % Px.B = v1 at *
            generalize y.getD (k + n) 0 = x0 at *
            generalize x * z % Px.B = v0 at *
            go_wp2
            go_roundw
            case rel =>
              first
                | exact ⟨n + 1, by omega, by go_num, HP.out, HZ.out, HR.out, HB.out⟩
                | ((repeat apply Exists.intro); refine ⟨?_, rfl⟩; exact ⟨n + 1, by omega, by go_num, HP.out, HZ.out, HR.out, HB.out⟩)
            case measure => simp [intOf]; omega
          · have hst := HSJ.out 0
            unfold Px.tm1 at hst
            rw [if_neg hkn] at hst
            clear HSJ
            obtain ⟨m, hm⟩ : ∃ m, k + n = m + 5 := ⟨k + n - 5, by omega⟩
            rw [show k + n - 5 = m from by omega] at hst
            have hkn' : ¬ ((k : Int) + (n : Int) < 5) := by omega
            have hsb : (k : Int) + (n : Int) - 5 = (m : Int) := by omega
            have hm5 : m < 5 := by omega
            have hm5' : (m : Int) < 5 := by omega
            clear hm hkn
            go_upto_region 10 with (fail)
            have c0 := ro.cell m (by omega)
            have f0 := ro.free m
            have hmul5 := mul64 x
            have hmul := mul64b (5 * x % Px.B) z
            have hadd := add64 (y.getD m 0) (5 * x % Px.B * z % Px.B)
            have r1 := ro.set m ((y.getD m 0 + 5 * x % Px.B * z % Px.B) % Px.B)
            rw [← hst] at r1
            have z1 := rz.set_other ⟨w.heap.size + 1 + 1 + 1, m, none⟩ (.int .u64 ((y.getD m 0 + 5 * x % Px.B * z % Px.B) % Px.B : Nat)) (by simp)
            have p1 := rp.set_other ⟨w.heap.size + 1 + 1 + 1, m, none⟩ (.int .u64 ((y.getD m 0 + 5 * x % Px.B * z % Px.B) % Px.B : Nat)) (by show w.heap.size + 1 ≠ w.heap.size + 1 + 1 + 1; omega)
            have b1 := hbel.setCell (p := ⟨w.heap.size + 1 + 1 + 1, m, none⟩) (by show w.heap.size ≤ w.heap.size + 1 + 1 + 1; omega) (.int .u64 ((y.getD m 0 + 5 * x % Px.B * z % Px.B) % Px.B : Nat))
            have HR := hid r1
            have HZ := hid z1
            have HP := hid p1
            have HB := hid b1
            clear r1 z1 p1 b1 hst ro rz rp hbel hi
            generalize (y.getD m 0 + 5 * x % Px.B * z % Px.B) % Px.B = v1 at *
            generalize y.getD m 0 = x0 at *
            generalize 5 * x % Px.B * z % Px.B = v0 at *
            generalize 5 * x % Px.B = v5 at *
            go_wp2
            go_roundw
            case rel =>
              first
                | exact ⟨n + 1, by omega, by go_num, HP.out, HZ.out, HR.out, HB.out⟩
                | ((repeat apply Exists.intro); refine ⟨?_, rfl⟩; exact ⟨n + 1, by omega, by go_num, HP.out, HZ.out, HR.out, HB.out⟩)
            case measure => simp [intOf]; omega
        · obtain rfl : n = 5 := by omega
          rw [← HST.out 0] at ro
          have HP := hid rp
          have HZ := hid rz
          have HR := hid ro
          have HB := hid hbel
          clear rp rz ro hbel
          rw [show ((5 : Nat) : Int) = 5 from rfl]
          go_wp2
          go_roundw
          case rel =>
            first
              | exact ⟨k + 1, by omega, by go_num, HP.out, HZ.out, HR.out, HB.out⟩
              | ((repeat apply Exists.intro); refine ⟨?_, rfl⟩; exact ⟨k + 1, by omega, by go_num, HP.out, HZ.out, HR.out, HB.out⟩)
          case measure => simp [intOf]; omega
    · obtain rfl : k = 5 := by omega
      rw [show ((5 : Nat) : Int) = 5 from rfl]
      have ho := Px.ok_tmI l p 5
      have hlo := Px.tmI_length l p 5
      have HE : Hid (Px.times l p = Px.carried (Px.carried (Px.tmI l p 5))) := rfl
      generalize Px.tmI l p 5 = o at *
      have HC1 := hid (fun wx => carried_any o hlo ho wx)
      have HC2 := hid (fun wx => carried_any (Px.carried o) (by rw [Px.carried_length, hlo]) ho.carried wx)
      have hso : (ints .u64 o).size = 5 := by rw [ints_size, hlo]
      have hsz : (ints .u64 (Px.carried (Px.carried o))).size = 5 := by rw [ints_size, Px.carried_length, Px.carried_length, hlo]
      have HSZ := hid hsz
      have HRZ := hid rz
      have HBL := hid hbel
      clear rz hbel rp hsz ho hlo
      rw [← HE.out] at HC2 HSZ
      generalize hT : Px.times l p = T at HE HC2 HSZ
      have HTE := hid hT
      clear hT
      generalize Px.carried o = C at *
      go_wp2_with (first
        | (refine wpList_load_row rfl _ _ rfl (w.heap.size + 1 + 1 + 1) rfl _ _ _ _ ro Tryd.underlying66 rfl (by rw [hso]; exact info77) ?_)
        | (go_at_call 74; with_reducible refine (HC1.out _).mono ?_; rintro e w1 ⟨rfl, k1⟩)
        | (go_at_call 74; with_reducible refine (HC2.out _).mono ?_; rintro e w2 ⟨rfl, k2⟩; have z2 := (HRZ.out.below k1 HRZ.out.lt).below k2 (Nat.lt_of_lt_of_le HRZ.out.lt k1.size))
        | (refine wpList_store_row rfl _ _ _ rfl (w.heap.size + 1 + 1) _ rfl rfl _ _ z2 (by rw [HSZ.out]; exact info77) (by rw [HSZ.out, ints_size, List.length_replicate]) (ints_one _ _) ?_))
      have b1 := HBL.out.trans (k1.mono HBL.out.size)
      have b2 := b1.trans (k2.mono b1.size)
      exact bodyPost_ret (v := .agg (ints .u64 T))
        (results_cell_row Tryd.results68 _ _ (w.heap.size + 1 + 1) _ _ _ _ rfl (setRow_heap w2 (w.heap.size + 1 + 1) _ _ _ _ z2) Tryd.underlying66 rfl (by rw [HSZ.out]; exact info77))
        rfl ⟨by rw [HTE.out], below_setRow b2 (by omega) _⟩
end Go.Proofs.YtiolflofkoeffaaDoor
