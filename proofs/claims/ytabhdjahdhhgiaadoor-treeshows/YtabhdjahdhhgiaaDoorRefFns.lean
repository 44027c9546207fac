/-
  The reference of layer 1: what sealwaxref01.Turn, shift and constants return.
-/
import Derived.Test.YtabhdjahdhhgiaaDoorShaCut
namespace Go.Proofs.YtabhdjahdhhgiaaDoor
open Go.RowKit
open Go.Lib (hid)

theorem turn_sum (x k : Nat) (hk : k ≤ 32) : (x / 2 ^ k + x % 2 ^ k * (4294967296 / 2 ^ k) : Nat) = Sx.rotr x k := by
  unfold Sx.rotr
  rw [show (4294967296 : Nat) = 2 ^ 32 from rfl, Nat.pow_div hk (by omega)]

theorem wrap_small (n : Nat) (h : n < 9223372036854775808) : wrap64 (n : Int) = n := by
  unfold wrap64
  omega
theorem turn_wrap (a b : Nat) (ha : a ≤ 4294967296) (hb : b ≤ 4294967296) : wrap64 (wrap64 (a : Int) + wrap64 (b : Int)) = ((a + b : Nat) : Int) := by
  rw [wrap_small a (by omega), wrap_small b (by omega), ← Int.natCast_add, wrap_small _ (by omega)]

set_option maxHeartbeats 1000000 in
theorem turn_any (x k : Nat) (hk2 : k ≤ 31) (hx : x < Sx.M) (w : World) :
    Calls Tryd.prog 40 #[.int .i64 (x : Int), .int .i64 (k : Int)] w fun e w' => e = .returned (.int .i64 (Sx.rotr x k : Nat)) ∧ ∃ n, w' = w.drewN n := by
  go_enter Tryd.func40, Tryd.ntmps40
  go_upto_region 3 with (fail)
  go_loopw [5, 6] (fun p i wr => wr = w ∧ ∃ j : Nat, j ≤ k ∧ i = .int .i64 j ∧ p = .int .i64 (2 ^ j : Nat))
    (fun _ i _ => k - (intOf i).toNat)
  case atStart => exact ⟨by trivial, 0, by omega, rfl, rfl⟩
  case round =>
    obtain ⟨rfl, j, hj, rfl, rfl⟩ := hrel
    have h1 : 2 ^ j ≤ 2 ^ 31 := Nat.pow_le_pow_right (by omega) (by omega)
    have h0 : 0 < 2 ^ j := Nat.pow_pos (by omega)
    by_cases hlt : j < k
    · have h2 : 2 ^ (j + 1) = 2 * 2 ^ j := by rw [Nat.pow_succ, Nat.mul_comm]
      have H2 := hid h2
      clear h2
      generalize 2 ^ j = p at *
      go_wp2
      go_roundw
      case rel => exact ⟨by trivial, j + 1, by omega, by go_num, by rw [H2.out]; go_num⟩
      case measure => simp [intOf]; omega
    · obtain rfl : j = k := by omega
      have HR := hid (turn_sum x j (by omega))
      have h3 : x / 2 ^ j ≤ x := Nat.div_le_self _ _
      have h4 : x % 2 ^ j < 2 ^ j := Nat.mod_lt _ h0
      have h5 : 2 ^ j * (4294967296 / 2 ^ j) ≤ 4294967296 := Nat.mul_div_le _ _
      have h6 : x % 2 ^ j * (4294967296 / 2 ^ j) ≤ 2 ^ j * (4294967296 / 2 ^ j) := Nat.mul_le_mul_right _ (by omega)
      generalize 2 ^ j = p at *
      go_upto_region 6 with (fail)
      go_quiet (fail)
      go_wp2
      go_ret
      refine ⟨ret_int ?_, _, rfl⟩
      rw [← HR.out]
      have e1 : (x : Int) / (p : Int) = ((x / p : Nat) : Int) := by simp
      have e2 : (x : Int) % (p : Int) * (4294967296 / (p : Int)) = ((x % p * (4294967296 / p) : Nat) : Int) := by simp
      rw [e1, e2]
      exact turn_wrap _ _ (by unfold Sx.M at hx; omega) (by omega)

set_option maxHeartbeats 1000000 in
theorem shift_any (x k : Nat) (hx : x < Sx.M) (hk : k ≤ 100) (w : World) :
    Calls Tryd.prog 41 #[.int .i64 (x : Int), .int .i64 (k : Int)] w fun e w' => e = .returned (.int .i64 (x / 2 ^ k : Nat)) ∧ w' = w := by
  go_enter Tryd.func41, Tryd.ntmps41
  go_upto_region 2 with (fail)
  go_loopw [0, 5] (fun p i wr => wr = w ∧ ∃ j : Nat, j ≤ k ∧ i = .int .i64 j ∧ p = .int .i64 (x / 2 ^ j : Nat))
    (fun _ i _ => k - (intOf i).toNat)
  case atStart => exact ⟨by trivial, 0, by omega, rfl, by simp⟩
  case round =>
    obtain ⟨rfl, j, hj, rfl, rfl⟩ := hrel
    have h1 : x / 2 ^ j ≤ x := Nat.div_le_self _ _
    unfold Sx.M at hx
    by_cases hlt : j < k
    · have h2 : x / 2 ^ (j + 1) = x / 2 ^ j / 2 := by rw [Nat.pow_succ, Nat.div_div_eq_div_mul]
      have H2 := hid h2
      clear h2
      generalize x / 2 ^ j = p at *
      go_wp2
      go_roundw
      case rel => exact ⟨by trivial, j + 1, by omega, by go_num, by rw [H2.out]; simp⟩
      case measure => simp [intOf]; omega
    · obtain rfl : j = k := by omega
      generalize hp : x / 2 ^ j = p at h1 ⊢
      have HP := hid hp
      clear hp
      go_wp2
      go_ret
      exact ⟨by rw [HP.out]; rfl, rfl⟩

theorem consts_any (w : World) :
    Calls Tryd.prog 39 #[] w fun e w' => e = .returned (.slice (some ⟨w.heap.size, 0, none⟩) 64 64) ∧ w' = w.alloc (.cells (ints .i64 Sx.K) 3) := by
  go_enter Tryd.func39, Tryd.ntmps39
  go_wp2
  go_ret
  exact ⟨rfl, rfl⟩

end Go.Proofs.YtabhdjahdhhgiaaDoor
