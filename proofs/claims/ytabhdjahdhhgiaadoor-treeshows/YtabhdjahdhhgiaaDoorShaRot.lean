/-
  Layer 1, the turn to the right: what math/bits.RotateLeft32 and sha.right return.
-/
import Derived.Test.YtabhdjahdhhgiaaDoorChecked
import Derived.Test.YtabhdjahdhhgiaaDoorShaSpec
import Derived.WalkKit
import Derived.WalkSpells
import Derived.WalkLawsBesides
import Derived.Lib.Hide
namespace Go.Proofs.YtabhdjahdhhgiaaDoor
open Go.RowKit
open Go.Lib (hid)

namespace Sx
theorem rotr_lt (x n : Nat) (hn : n ≤ 32) (hx : x < M) : rotr x n < M := by
  unfold rotr
  unfold M at *
  have hp : 2 ^ n * 2 ^ (32 - n) = 4294967296 := by
    rw [← Nat.pow_add, show n + (32 - n) = 32 from by omega]
  have h1 : x / 2 ^ n < 2 ^ (32 - n) := by
    apply Nat.div_lt_of_lt_mul
    omega
  have h2 : x % 2 ^ n + 1 ≤ 2 ^ n := Nat.mod_lt _ (Nat.pow_pos (by omega))
  have h3 : (x % 2 ^ n + 1) * 2 ^ (32 - n) ≤ 2 ^ n * 2 ^ (32 - n) := Nat.mul_le_mul_right _ h2
  rw [Nat.add_mul] at h3
  omega
end Sx

theorem u32_of_lt (n : Nat) (h : n < 4294967296) : IntKind.u32.wrap (n : Int) = n := by
  rw [IntKind.wrap_u32]; omega
theorem wraps_u32 (n : Int) (h0 : 0 ≤ n) (h1 : n < 2 ^ 32) : IntKind.u32.wrap n = n := by rw [IntKind.wrap_u32]; omega

theorem bits_xor_nat (k : IntKind) (j : Nat) (hj : j ≤ k.bits) (hk : ∀ n : Int, 0 ≤ n → n < 2 ^ j → k.wrap n = n) (a b : Nat) (ha : a < 2 ^ j) (hb : b < 2 ^ j) :
    bits .xor k a b = ((a ^^^ b : Nat) : Int) := by
  have hp : 2 ^ j ≤ 2 ^ k.bits := Nat.pow_le_pow_right (by decide) hj
  have ha' : a % 2 ^ k.bits = a := Nat.mod_eq_of_lt (Nat.lt_of_lt_of_le ha hp)
  have hb' : b % 2 ^ k.bits = b := Nat.mod_eq_of_lt (Nat.lt_of_lt_of_le hb hp)
  have cast : ∀ n : Nat, n < 2 ^ j → ((n : Nat) : Int) < 2 ^ j := fun n h => by exact_mod_cast h
  simp only [bits, BitVec.ofInt_natCast, BitVec.toNat_xor, BitVec.toNat_ofNat, ha', hb']
  exact hk _ (Int.natCast_nonneg _) (cast _ (Nat.xor_lt_two_pow ha hb))

theorem xor32 (a b : Nat) (ha : a < Sx.M) (hb : b < Sx.M) : bits .xor .u32 (a : Int) (b : Int) = ((a ^^^ b : Nat) : Int) :=
  bits_xor_nat .u32 32 (by decide) wraps_u32 a b ha hb
theorem and32 (a b : Nat) (ha : a < Sx.M) (hb : b < Sx.M) : bits .and .u32 (a : Int) (b : Int) = ((a &&& b : Nat) : Int) :=
  (bits_nat .u32 32 (by decide) wraps_u32 a b ha hb).1
theorem or32 (a b : Nat) (ha : a < Sx.M) (hb : b < Sx.M) : bits .or .u32 (a : Int) (b : Int) = ((a ||| b : Nat) : Int) :=
  (bits_nat .u32 32 (by decide) wraps_u32 a b ha hb).2
theorem xor32_lt (a b : Nat) (ha : a < Sx.M) (hb : b < Sx.M) : a ^^^ b < Sx.M := Nat.xor_lt_two_pow (n := 32) ha hb
theorem and32_lt (a b : Nat) (hb : b < Sx.M) : a &&& b < Sx.M := Nat.and_lt_two_pow (n := 32) _ hb
theorem add32 (a b : Nat) : IntKind.u32.wrap ((a : Int) + (b : Int)) = (((a + b) % Sx.M : Nat) : Int) := by
  rw [IntKind.wrap_u32]; unfold Sx.M; omega

/-- The bits of a turn, as the walk spells them. -/
theorem rot_bits (x k : Nat) (hk : 1 ≤ k) (hk2 : k ≤ 31) (hx : x < Sx.M) :
    bits .or .u32 (IntKind.u32.wrap ((x : Int) * 2 ^ (32 - k))) ((x : Int) / 2 ^ k) = ((Sx.rotr x k : Nat) : Int) := by
  have hp : 2 ^ k * 2 ^ (32 - k) = 4294967296 := by rw [← Nat.pow_add, show k + (32 - k) = 32 from by omega]
  have e1 : IntKind.u32.wrap ((x : Int) * 2 ^ (32 - k)) = ((x % 2 ^ k * 2 ^ (32 - k) : Nat) : Int) := by
    rw [IntKind.wrap_u32]
    have : (x * 2 ^ (32 - k)) % 4294967296 = x % 2 ^ k * 2 ^ (32 - k) := by
      rw [← hp, Nat.mul_mod_mul_right]
    rw [← this]
    simp
  have e2 : (x : Int) / 2 ^ k = ((x / 2 ^ k : Nat) : Int) := by simp
  have hq : x / 2 ^ k < 2 ^ (32 - k) := by
    apply Nat.div_lt_of_lt_mul; unfold Sx.M at hx; omega
  have hm : x % 2 ^ k < 2 ^ k := Nat.mod_lt _ (Nat.pow_pos (by omega))
  have hl : x % 2 ^ k * 2 ^ (32 - k) < 4294967296 := by
    rw [← hp]; exact Nat.mul_lt_mul_of_pos_right hm (Nat.pow_pos (by omega))
  have h2 : 2 ^ (32 - k) ≤ 2 ^ 32 := Nat.pow_le_pow_right (by omega) (by omega)
  rw [e1, e2, or32 _ _ hl (by unfold Sx.M; omega)]
  have hj := Nat.two_pow_add_eq_or_of_lt hq (x % 2 ^ k)
  rw [Nat.mul_comm (x % 2 ^ k), ← hj]
  unfold Sx.rotr
  congr 1
  rw [Nat.mul_comm, Nat.add_comm]

theorem mask_neg (k : Int) (hk : 1 ≤ k) (hk2 : k ≤ 31) : bits .and .u64 (IntKind.u64.wrap (-k)) 31 = 32 - k := by
  have e : IntKind.u64.wrap (-k) = 18446744073709551616 - k := by
    simp [IntKind.wrap, IntKind.bits, IntKind.signed]; omega
  have h := bits_mask .u64 64 (by decide) (fun n h0 h1 => by simp [IntKind.wrap, IntKind.bits, IntKind.signed]; omega) 5 (by decide) (18446744073709551616 - k) (by omega) (by omega)
  rw [e]
  have h' : bits .and .u64 (18446744073709551616 - k) 31 = (18446744073709551616 - k) % 32 := h
  rw [h']; omega

theorem ret_int {k : IntKind} {a b : Int} (h : a = b) : Ending.returned (.int k a) = .returned (.int k b) := by rw [h]

theorem right_any (x : Nat) (k : Int) (w : World) (hk : 1 ≤ k) (hk2 : k ≤ 31) (hx : x < Sx.M) :
    Calls Tryd.prog 49 #[.int .u32 (x : Int), .int .i64 k] w fun e w' => e = .returned (.int .u32 (Sx.rotr x k.toNat : Nat)) ∧ w = w' := by
  have hm := mask_neg k hk hk2
  have hr : bits .or .u32 ((x : Int) * 2 ^ (32 - k).toNat % 4294967296) ((x : Int) / 2 ^ (32 - (32 - k)).toNat) = ((Sx.rotr x k.toNat : Nat) : Int) := by
    rw [← rot_bits x k.toNat (by omega) (by omega) hx, IntKind.wrap_u32, show (32 - k).toNat = 32 - k.toNat from by omega, show 32 - (32 - k) = k from by omega]
  have hx' : (x : Int) < 4294967296 := by unfold Sx.M at hx; omega
  have HR := hid hr
  clear hr
  go_enter Tryd.func49, Tryd.ntmps49
  go_wp2
  go_ret
  exact ⟨ret_int HR.out, rfl⟩
end Go.Proofs.YtabhdjahdhhgiaaDoor
