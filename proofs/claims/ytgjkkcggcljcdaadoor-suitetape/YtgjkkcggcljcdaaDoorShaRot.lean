/-
  Layer 1, the turn to the right: what math/bits.RotateLeft32 and sha.right return.
-/
import Derived.Test.YtgjkkcggcljcdaaDoorBase
import Derived.Test.YtgjkkcggcljcdaaDoorChecked
import Derived.Test.YtgjkkcggcljcdaaDoorShaSpec
import Derived.WalkKit
import Derived.WalkSpells
import Derived.WalkLawsBesides
import Derived.Lib.Hide
namespace Go.Proofs.YtgjkkcggcljcdaaDoor
open Go.RowKit
open Go.Lib (hid)

namespace Sx
theorem rotr_lt (x n : Nat) (hn : n ≤ 32) (hx : x < M) : rotr x n < M := by
  unfold rotr
  unfold M at *
  have hp : 2 ^ n * 2 ^ (32 - n) = 4294967296 := by
    rw [← Nat.pow_add, show n + (32 - n) = 32 from by omega]
  have h1 : x / 2 ^ n < 2 ^ (32 - n) := by
    apply Nat.div_lt_of_lt_mul
    omega
  have h2 : x % 2 ^ n + 1 ≤ 2 ^ n := Nat.mod_lt _ (Nat.pow_pos (by omega))
  have h3 : (x % 2 ^ n + 1) * 2 ^ (32 - n) ≤ 2 ^ n * 2 ^ (32 - n) := Nat.mul_le_mul_right _ h2
  rw [Nat.add_mul] at h3
  omega
end Sx

/-- The bits of a turn, as the walk spells them. -/
theorem rot_bits (x k : Nat) (hk : 1 ≤ k) (hk2 : k ≤ 31) (hx : x < Sx.M) :
    bits .or .u32 (IntKind.u32.wrap ((x : Int) * 2 ^ (32 - k))) ((x : Int) / 2 ^ k) = ((Sx.rotr x k : Nat) : Int) := by
  have hp : 2 ^ k * 2 ^ (32 - k) = 4294967296 := by rw [← Nat.pow_add, show k + (32 - k) = 32 from by omega]
  have e1 : IntKind.u32.wrap ((x : Int) * 2 ^ (32 - k)) = ((x % 2 ^ k * 2 ^ (32 - k) : Nat) : Int) := by
    rw [IntKind.wrap_u32]
    have : (x * 2 ^ (32 - k)) % 4294967296 = x % 2 ^ k * 2 ^ (32 - k) := by
      rw [← hp, Nat.mul_mod_mul_right]
    rw [← this]
    simp
  have e2 : (x : Int) / 2 ^ k = ((x / 2 ^ k : Nat) : Int) := by simp
  have hq : x / 2 ^ k < 2 ^ (32 - k) := by
    apply Nat.div_lt_of_lt_mul; unfold Sx.M at hx; omega
  have hm : x % 2 ^ k < 2 ^ k := Nat.mod_lt _ (Nat.pow_pos (by omega))
  have hl : x % 2 ^ k * 2 ^ (32 - k) < 4294967296 := by
    rw [← hp]; exact Nat.mul_lt_mul_of_pos_right hm (Nat.pow_pos (by omega))
  have h2 : 2 ^ (32 - k) ≤ 2 ^ 32 := Nat.pow_le_pow_right (by omega) (by omega)
  rw [e1, e2, or32 _ _ hl (by unfold Sx.M; omega)]
  have hj := Nat.two_pow_add_eq_or_of_lt hq (x % 2 ^ k)
  rw [Nat.mul_comm (x % 2 ^ k), ← hj]
  unfold Sx.rotr
  congr 1
  rw [Nat.mul_comm, Nat.add_comm]

theorem mask_neg (k : Int) (hk : 1 ≤ k) (hk2 : k ≤ 31) : bits .and .u64 (IntKind.u64.wrap (-k)) 31 = 32 - k := by
  have e : IntKind.u64.wrap (-k) = 18446744073709551616 - k := by
    simp [IntKind.wrap, IntKind.bits, IntKind.signed]; omega
  have h := bits_mask .u64 64 (by decide) (fun n h0 h1 => by simp [IntKind.wrap, IntKind.bits, IntKind.signed]; omega) 5 (by decide) (18446744073709551616 - k) (by omega) (by omega)
  rw [e]
  have h' : bits .and .u64 (18446744073709551616 - k) 31 = (18446744073709551616 - k) % 32 := h
  rw [h']; omega

set_option maxRecDepth 100000 in
theorem right_any (x : Nat) (k : Int) (w : World) (hk : 1 ≤ k) (hk2 : k ≤ 31) (hx : x < Sx.M) :
    Calls Tryd.prog 89 #[.int .u32 (x : Int), .int .i64 k] w fun e w' => e = .returned (.int .u32 (Sx.rotr x k.toNat : Nat)) ∧ w = w' := by
  have hm := mask_neg k hk hk2
  have hr : bits .or .u32 ((x : Int) * 2 ^ (32 - k).toNat % 4294967296) ((x : Int) / 2 ^ (32 - (32 - k)).toNat) = ((Sx.rotr x k.toNat : Nat) : Int) := by
    rw [← rot_bits x k.toNat (by omega) (by omega) hx, IntKind.wrap_u32, show (32 - k).toNat = 32 - k.toNat from by omega, show 32 - (32 - k) = k from by omega]
  have hx' : (x : Int) < 4294967296 := by unfold Sx.M at hx; omega
  have HR := hid hr
  clear hr
  go_enter Tryd.func89, Tryd.ntmps89
  go_wp2
  go_ret
  exact ⟨ret_int HR.out, rfl⟩
end Go.Proofs.YtgjkkcggcljcdaaDoor
