/-
  Layer 1: texts as lists of numbers, and what sha.ending returns.
-/
import Derived.Test.YtgjkkcggcljcdaaDoorBase
import Derived.Test.YtgjkkcggcljcdaaDoorShaSum
import Derived.Laws.BytesArg
namespace Go.Proofs.YtgjkkcggcljcdaaDoor
open Go.RowKit
open Go.Lib (hid)

namespace Sx
theorem be_length (n k : Nat) : (be n k).length = k := by
  induction k generalizing n with
  | zero => rfl
  | succ k ih => simp [be, ih]
theorem be_cons (n k : Nat) : be n (k + 1) = n / 2 ^ (8 * k) % 256 :: be n k := by
  induction k generalizing n with
  | zero => simp [be]
  | succ k ih =>
    have h1 : be n (k + 1 + 1) = be (n / 256) (k + 1) ++ [n % 256] := rfl
    have h2 : be n (k + 1) = be (n / 256) k ++ [n % 256] := rfl
    rw [h1, ih, h2]
    have : n / 256 / 2 ^ (8 * k) = n / 2 ^ (8 * (k + 1)) := by
      rw [Nat.div_div_eq_div_mul, show (256 : Nat) = 2 ^ 8 from rfl, ← Nat.pow_add, show 8 + 8 * k = 8 * (k + 1) from by omega]
    rw [this]; rfl
/-- The ending with i bytes of the length laid. -/
def endP (n i : Nat) : List Nat := (128 :: (List.replicate (zeros n) 0 ++ List.replicate (8 - i) 0)) ++ be (8 * n) i
theorem endP_length (n i : Nat) (hi : i ≤ 8) : (endP n i).length = zeros n + 9 := by simp [endP, be_length]; omega
theorem endP_set (n i : Nat) (hi : i < 8) : (endP n i).set (zeros n + 8 - i) (8 * n / 2 ^ (8 * i) % 256) = endP n (i + 1) := by
  unfold endP
  rw [be_cons, show 8 - i = (7 - i) + 1 from by omega, List.replicate_succ', ← List.append_assoc, ← List.cons_append, List.append_assoc,
    List.set_append_right _ _ (by simp; omega), show zeros n + 8 - i - (128 :: (List.replicate (zeros n) 0 ++ List.replicate (7 - i) 0)).length = 0 from by simp; omega]
  simp [show 8 - (i + 1) = 7 - i from by omega]
theorem endP_full (n : Nat) : endP n 8 = ending n := by simp [endP, ending]
theorem endP_zero (n : Nat) : endP n 0 = (List.replicate (zeros n + 9) 0).set 0 128 := by
  rw [show zeros n + 9 = (zeros n + 8) + 1 from by omega, List.replicate_succ, List.set_cons_zero, ← List.replicate_append_replicate]
  simp [endP, be]
end Sx

set_option maxRecDepth 100000 in
set_option maxHeartbeats 1000000 in
theorem ending_any (n : Nat) (hn : n ≤ 1000000000000000) (w : World) :
    Calls Tryd.prog 63 #[.int .i64 (n : Int)] w fun e w' => e = .returned (.string (str (Sx.ending n))) ∧ Below w.heap.size w w' := by
  have hq : (119 - (n : Int) % 64) % 64 = ((Sx.zeros n : Nat) : Int) := by unfold Sx.zeros; omega
  have hzl : Sx.zeros n < 64 := by unfold Sx.zeros; omega
  have hm : ∀ wx, (Instr.makeSlice 46 (.int .i64 (1 + (Sx.zeros n : Int) + 8)) (.int .i64 (1 + (Sx.zeros n : Int) + 8))).run Tryd.prog wx = .ok (.slice (some ⟨wx.heap.size, 0, none⟩) (Sx.zeros n + 9) (Sx.zeros n + 9)) (wx.alloc (.cells (ints .u8 (List.replicate (Sx.zeros n + 9) 0)) 5)) := by
    intro wx
    rw [← run_mk wx (Sx.zeros n + 9) (by omega), show 1 + (Sx.zeros n : Int) + 8 = ((Sx.zeros n + 9 : Nat) : Int) from by omega]
  have r0 : ∀ wx : World, Row (wx.alloc (.cells (ints .u8 (List.replicate (Sx.zeros n + 9) 0)) 5)) wx.heap.size .u8 5 (List.replicate (Sx.zeros n + 9) 0) := fun wx => heap_alloc_new _ _
  have c0 := fun wx => (r0 wx).cell 0 (by simp)
  have f0 := fun wx => (r0 wx).free 0
  have R1 := hid fun wx => (r0 wx).set 0 128
  have HZ0 := hid (Sx.endP_zero n)
  have HSET := hid (Sx.endP_set n)
  have HLEN := hid (Sx.endP_length n)
  have HFUL := hid (Sx.endP_full n)
  clear r0
  generalize Sx.zeros n = z at *
  generalize (List.replicate (z + 9) 0) = Z at *
  go_enter Tryd.func63, Tryd.ntmps63
  go_wp2
  clear hq hm c0 f0
  go_loopw [20] (fun i wr => ∃ k : Nat, k ≤ 8 ∧ i = .int .i64 k ∧ Row wr w.heap.size .u8 5 (Sx.endP n k) ∧ Below w.heap.size w wr)
    (fun i _ => 8 - (intOf i).toNat)
  case atStart =>
    refine ⟨0, by omega, rfl, ?_, (Below.refl _ _).alloc (Nat.le_refl _) _⟩
    unfold Row
    rw [heap_alloc_new, HZ0.out, ← ints_set]; rfl
  case round =>
    obtain ⟨k, hk, rfl, hrow, hbel⟩ := hrel
    have hlen := HLEN.out k hk
    by_cases hlt : k < 8
    · have hc := hrow.cell (z + 8 - k) (by omega)
      have hf := hrow.free (z + 8 - k)
      have hr' := hrow.set (z + 8 - k) (8 * n / 2 ^ (8 * k) % 256)
      rw [HSET.out k hlt] at hr'
      have hb' := hbel.setCell (p := ⟨w.heap.size, z + 8 - k, none⟩) (Nat.le_refl _) (.int .u8 (8 * n / 2 ^ (8 * k) % 256 : Nat))
      have hv : ((n : Int) * 8) / 2 ^ (8 * k) % 256 = ((8 * n / 2 ^ (8 * k) % 256 : Nat) : Int) := by
        rw [Nat.mul_comm 8 n]; simp
      generalize 8 * n / 2 ^ (8 * k) % 256 = v at *
      generalize (Sx.endP n k).getD (z + 8 - k) 0 = vv at *
      have HR := hid hr'
      have HB := hid hb'
      clear hr' hb' hrow hbel hlen
      go_wp2
      go_roundw
      case rel => exact ⟨k + 1, by omega, by go_num, HR.out, HB.out⟩
      case measure => simp [intOf]; omega
    · obtain rfl : k = 8 := by omega
      have hs := run_str wr w.heap.size 0 (z + 9) (z + 9) 5 (Sx.endP n 8) hrow (by omega)
      rw [List.drop_zero, List.take_of_length_le (by omega), HFUL.out] at hs
      clear hlen hrow
      go_wp2
      go_ret
      exact ⟨rfl, hbel⟩
end Go.Proofs.YtgjkkcggcljcdaaDoor
