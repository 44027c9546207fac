/-
  Layer 4: what (number).low and numberOf return, as they stand (modulo 2^64).
-/
import Derived.Test.YtiolflofkoeffaaDoorPoly5
namespace Go.Proofs.YtiolflofkoeffaaDoor
open Go.RowKit
open Go.Lib (hid)

namespace Px
/-- What byte i of a number is taken of. -/
def lowX (n : List Nat) (i : Nat) : Nat :=
  if 8 * i / 26 + 1 < 5 then n.getD (8 * i / 26) 0 / 2 ^ (8 * i % 26) ||| n.getD (8 * i / 26 + 1) 0 * 2 ^ (26 - 8 * i % 26) % B else n.getD (8 * i / 26) 0 / 2 ^ (8 * i % 26)
def lowN (n : List Nat) : Nat → List Nat
  | 0 => List.replicate 16 0
  | k + 1 => (lowN n k).set k (lowX n k % 256)
def low (l : List Nat) : List Nat := lowN (spread l) 16
theorem lowN_length (n : List Nat) (k : Nat) : (lowN n k).length = 16 := by
  induction k with
  | zero => rfl
  | succ k ih => rw [lowN, List.length_set, ih]
theorem low_length (l : List Nat) : (low l).length = 16 := lowN_length _ 16
theorem lowN_lt (n : List Nat) (k : Nat) : ∀ x ∈ lowN n k, x < 256 := by
  induction k with
  | zero => intro x hx; rw [List.eq_of_mem_replicate hx]; decide
  | succ k ih =>
    intro u hu
    rcases List.mem_or_eq_of_mem_set hu with h' | rfl
    · exact ih u h'
    · omega
theorem low_lt (l : List Nat) : ∀ x ∈ low l, x < 256 := lowN_lt _ 16
end Px
theorem wraps_u64p (n : Int) (h0 : 0 ≤ n) (h1 : n < 2 ^ 64) : IntKind.u64.wrap n = n := by rw [IntKind.wrap_u64]; omega
theorem or64n (a b : Nat) (ha : a < Px.B) (hb : b < Px.B) : bits .or .u64 (a : Int) (b : Int) = ((a ||| b : Nat) : Int) :=
  (bits_nat .u64 64 (by decide) wraps_u64p a b ha hb).2
theorem shl64 (a b : Nat) : IntKind.u64.wrap ((a : Int) * 2 ^ b) = ((a * 2 ^ b % Px.B : Nat) : Int) := by
  rw [show ((a : Int) * 2 ^ b) = ((a * 2 ^ b : Nat) : Int) from by simp]
  generalize a * 2 ^ b = c
  simp [IntKind.wrap, IntKind.bits, IntKind.signed]; unfold Px.B; omega
theorem info48 : (Tryd.prog.info? 37).map (·.size) = some 16 := by kernel_rfl

set_option maxHeartbeats 1000000 in
set_option maxRecDepth 100000 in
theorem low_any (l : List Nat) (hl : l.length = 5) (ho : Px.Ok l) (w : World) :
    Calls Tryd.prog 56 #[.agg (ints .u64 l)] w fun e w' => e = .returned (.agg (ints .u8 (Px.low l))) ∧ Below w.heap.size w w' := by
  have hs : (ints .u64 l).size = 5 := by rw [ints_size, hl]
  have HM := hid (fun wx => spread_any l hl ho wx)
  have hml : (Px.spread l).length = 5 := by rw [Px.spread_length, hl]
  have hms : (ints .u64 (Px.spread l)).size = 5 := by rw [ints_size, hml]
  have HMO := hid ho.spread
  have HLE : Hid (Px.low l = Px.lowN (Px.spread l) 16) := rfl
  generalize Px.spread l = M at *
  clear ho
  go_enter Tryd.func56, Tryd.ntmps56
  go_upto_region 1 with (fail)
  generalize hw0 : (w.alloc _).alloc _ = w0
  have rl : Row w0 w.heap.size .u64 66 l := by rw [← hw0]; unfold Row; rw [heap_alloc2_old]
  have rz : Row w0 (w.heap.size + 1) .u8 37 (List.replicate 16 0) := by rw [← hw0]; unfold Row; rw [heap_alloc2_new]; kernel_rfl
  have hb0 : Below w.heap.size w w0 := by rw [← hw0]; exact ((Below.refl _ _).alloc (Nat.le_refl _) _).alloc (by simp) _
  have hsz0 : w0.heap.size = w.heap.size + 1 + 1 := by rw [← hw0]; simp
  clear hw0
  have HB0 := hid hb0
  have HRZ := hid rz
  have HSZ0 := hid hsz0
  clear hb0 rz hsz0
  go_upto_region 2 with (first
    | (refine wpList_load_row rfl _ _ rfl w.heap.size rfl _ _ _ _ rl Tryd.underlying66 rfl (by rw [hs]; exact info77) ?_)
    | (go_at_call 67; refine (HM.out _).mono ?_; rintro e w1 ⟨rfl, k1⟩; have r1 := rl.below k1 rl.lt)
    | (refine wpList_store_row rfl _ _ _ rfl w.heap.size _ rfl rfl _ _ r1 (by rw [hms]; exact info77) (by rw [hms, hs]) (ints_one _ _) ?_))
  have r2 : Row (w1.setRow w.heap.size (ints .u64 M)) w.heap.size .u64 66 M := setRow_heap _ _ _ _ _ _ r1
  have z2 : Row (w1.setRow w.heap.size (ints .u64 M)) (w.heap.size + 1) .u8 37 (List.replicate 16 0) := by
    unfold Row; rw [setRow_other _ _ _ _ (by omega)]; exact HRZ.out.below k1 HRZ.out.lt
  have b2 : Below w.heap.size w (w1.setRow w.heap.size (ints .u64 M)) := below_setRow (HB0.out.trans (k1.mono HB0.out.size)) (Nat.le_refl _) _
  have s2 : w.heap.size + 1 + 1 ≤ (w1.setRow w.heap.size (ints .u64 M)).heap.size := z2.lt
  clear rl r1 HB0 HRZ HSZ0 k1
  generalize w1.setRow _ _ = w2 at *
  have HR2 := hid r2
  have HZ2 := hid z2
  have HB2 := hid b2
  have HS2 := hid s2
  clear r2 z2 b2 s2
  go_upto_region 4 with (fail)
  generalize hw3 : w2.alloc _ = w3
  have HQ := hid HS2.out
  have HR3 := hid (show Row w3 w.heap.size .u64 66 M from by rw [← hw3]; exact HR2.out.alloc _)
  have HZ3 := hid (show Row w3 (w.heap.size + 1) .u8 37 (List.replicate 16 0) from by rw [← hw3]; exact HZ2.out.alloc _)
  have HO3 := hid (show Row w3 w2.heap.size .u8 37 (Px.lowN M 0) from by rw [← hw3]; exact heap_alloc_new _ _)
  have HB3 := hid (show Below w.heap.size w w3 from by rw [← hw3]; exact HB2.out.alloc HB2.out.size _)
  clear hw3
  generalize w2.heap.size = q at *
  clear HR2 HZ2 HB2 HS2
  go_loopw [10] (fun i wr => ∃ k : Nat, k ≤ 16 ∧ i = .int .i64 k ∧ Row wr w.heap.size .u64 66 M ∧ Row wr (w.heap.size + 1) .u8 37 (List.replicate 16 0) ∧ Row wr q .u8 37 (Px.lowN M k) ∧ Below w.heap.size w wr)
    (fun i _ => 16 - (intOf i).toNat)
  case atStart => exact ⟨0, by omega, rfl, HR3.out, HZ3.out, HO3.out, HB3.out⟩
  case round =>
    clear HR3 HZ3 HO3 HB3
    obtain ⟨k, hk, rfl, rm, rz, ro, hbel⟩ := hrel
    by_cases hlt : k < 16
    · have hol := Px.lowN_length M k
      have HST : Hid (∀ n : Nat, Px.lowN M (k + 1) = (Px.lowN M k).set k (Px.lowX M k % 256)) := fun _ => rfl
      generalize Px.lowN M k = y at *
      obtain ⟨a, ha⟩ : ∃ a, a = 8 * k / 26 := ⟨_, rfl⟩
      obtain ⟨b, hb⟩ : ∃ b, b = 8 * k % 26 := ⟨_, rfl⟩
      have ha5 : a < 5 := by omega
      have hb26 : b < 26 := by omega
      have hd : (8 * (k : Int)) / 26 = (a : Int) := by omega
      have hr : (8 * (k : Int)) % 26 = (b : Int) := by omega
      have c0 := rm.cell a (by omega)
      have g0 := ro.free k
      have cq := ro.cell k (by omega)
      generalize hyk : y.getD k 0 = yk at cq
      clear hyk
      have hx0 := HMO.out.get a
      have hsh1 : (M.getD a 0 : Int) / 2 ^ b = ((M.getD a 0 / 2 ^ b : Nat) : Int) := by simp
      by_cases ha4 : a + 1 < 5
      · have hXE : Px.lowX M k = (M.getD a 0 / 2 ^ b ||| M.getD (a + 1) 0 * 2 ^ (26 - b) % Px.B) := by unfold Px.lowX; rw [← ha, ← hb, if_pos ha4]
        rw [hXE] at HST
        have c1 := rm.cell (a + 1) (by omega)
        have ha4' : (a : Int) + 1 < 5 := by omega
        obtain ⟨d, hdd⟩ : ∃ d, d = 26 - b := ⟨_, rfl⟩
        have hsub : 26 - (b : Int) = (d : Int) := by omega
        rw [← hdd] at HST
        have hshl := shl64 (M.getD (a + 1) 0) d
        have hor := or64n (M.getD a 0 / 2 ^ b) (M.getD (a + 1) 0 * 2 ^ d % Px.B) (Nat.lt_of_le_of_lt (Nat.div_le_self _ _) hx0) (Nat.mod_lt _ (by decide))
        clear hXE hdd ha hb hx0
        generalize M.getD (a + 1) 0 * 2 ^ d % Px.B = s1 at *
        generalize M.getD (a + 1) 0 = x1 at *
        generalize (M.getD a 0 / 2 ^ b ||| s1) = X at *
        have hu8 : IntKind.u8.wrap (X : Int) = ((X % 256 : Nat) : Int) := by rw [IntKind.wrap_u8]; omega
        have r1 := ro.set k (X % 256)
        rw [← HST.out 0] at r1
        have m1 := rm.set_other ⟨q, k, none⟩ (.int .u8 (X % 256 : Nat)) (by have := HQ.out; simp; omega)
        have z1 := rz.set_other ⟨q, k, none⟩ (.int .u8 (X % 256 : Nat)) (by have := HQ.out; simp; omega)
        have b1 := hbel.setCell (p := ⟨q, k, none⟩) (by have := HQ.out; simp; omega) (.int .u8 (X % 256 : Nat))
        have HR := hid r1
        have HM1 := hid m1
        have HZ := hid z1
        have HB := hid b1
        clear r1 m1 z1 b1 ro rm rz hbel HST
        generalize X % 256 = v at *
        generalize M.getD a 0 / 2 ^ b = y0 at *
        generalize M.getD a 0 = x0 at *
        go_wp2
        go_roundw
        case rel =>
          first
            | exact ⟨k + 1, by omega, by go_num, HM1.out, HZ.out, HR.out, HB.out⟩
            | ((repeat apply Exists.intro); refine ⟨?_, rfl⟩; exact ⟨k + 1, by omega, by go_num, HM1.out, HZ.out, HR.out, HB.out⟩)
        case measure => simp [intOf]; omega
      · have hXE : Px.lowX M k = M.getD a 0 / 2 ^ b := by unfold Px.lowX; rw [← ha, ← hb, if_neg ha4]
        rw [hXE] at HST
        have ha4' : ¬ ((a : Int) + 1 < 5) := by omega
        clear hXE ha hb hx0
        generalize M.getD a 0 / 2 ^ b = X at *
        have hu8 : IntKind.u8.wrap (X : Int) = ((X % 256 : Nat) : Int) := by rw [IntKind.wrap_u8]; omega
        have r1 := ro.set k (X % 256)
        rw [← HST.out 0] at r1
        have m1 := rm.set_other ⟨q, k, none⟩ (.int .u8 (X % 256 : Nat)) (by have := HQ.out; simp; omega)
        have z1 := rz.set_other ⟨q, k, none⟩ (.int .u8 (X % 256 : Nat)) (by have := HQ.out; simp; omega)
        have b1 := hbel.setCell (p := ⟨q, k, none⟩) (by have := HQ.out; simp; omega) (.int .u8 (X % 256 : Nat))
        have HR := hid r1
        have HM1 := hid m1
        have HZ := hid z1
        have HB := hid b1
        clear r1 m1 z1 b1 ro rm rz hbel HST
        generalize X % 256 = v at *
        generalize M.getD a 0 = x0 at *
        go_wp2
        go_roundw
        case rel =>
          first
            | exact ⟨k + 1, by omega, by go_num, HM1.out, HZ.out, HR.out, HB.out⟩
            | ((repeat apply Exists.intro); refine ⟨?_, rfl⟩; exact ⟨k + 1, by omega, by go_num, HM1.out, HZ.out, HR.out, HB.out⟩)
        case measure => simp [intOf]; omega
    · obtain rfl : k = 16 := by omega
      rw [← HLE.out] at ro
      have hsz : (ints .u8 (Px.low l)).size = 16 := by rw [ints_size, Px.low_length]
      generalize hT : Px.low l = T at HLE ro hsz
      have HTE := hid hT
      have HB := hid hbel
      clear hbel rm hT
      rw [show ((16 : Nat) : Int) = 16 from rfl]
      go_wp2_with (first | (refine wpList_load_row rfl _ _ rfl q rfl _ _ _ _ ro Tryd.underlying37 rfl (by rw [hsz]; exact info48) ?_) | (refine wpList_store_row rfl _ _ _ rfl (w.heap.size + 1) _ rfl rfl _ _ rz (by rw [hsz]; exact info48) (by rw [hsz, ints_size, List.length_replicate]) (ints_one _ _) ?_))
      exact bodyPost_ret (v := .agg (ints .u8 T))
        (results_cell_row Tryd.results56 _ _ (w.heap.size + 1) _ _ _ _ rfl (setRow_heap wr (w.heap.size + 1) _ _ _ _ rz) Tryd.underlying37 rfl (by rw [hsz]; exact info48))
        rfl ⟨by rw [HTE.out], below_setRow HB.out (Nat.le_succ _) _⟩
end Go.Proofs.YtiolflofkoeffaaDoor
