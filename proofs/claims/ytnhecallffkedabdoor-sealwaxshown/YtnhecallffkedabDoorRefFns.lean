/-
  The reference of layer 1: what sealwaxref01.Turn, shift and constants return.
-/
import Derived.Test.YtnhecallffkedabDoorBase
import Derived.Test.YtnhecallffkedabDoorShaCut
namespace Go.Proofs.YtnhecallffkedabDoor
open Go.RowKit
open Go.Lib (hid)

theorem turn_sum (x k : Nat) (hk : k ≤ 32) : (x / 2 ^ k + x % 2 ^ k * (4294967296 / 2 ^ k) : Nat) = Sx.rotr x k := by
  unfold Sx.rotr
  rw [show (4294967296 : Nat) = 2 ^ 32 from rfl, Nat.pow_div hk (by omega)]

theorem wrap_small (n : Nat) (h : n < 9223372036854775808) : wrap64 (n : Int) = n := by
  unfold wrap64
  omega
theorem turn_wrap (a b : Nat) (ha : a ≤ 4294967296) (hb : b ≤ 4294967296) : wrap64 (wrap64 (a : Int) + wrap64 (b : Int)) = ((a + b : Nat) : Int) := by
  rw [wrap_small a (by omega), wrap_small b (by omega), ← Int.natCast_add, wrap_small _ (by omega)]

end Go.Proofs.YtnhecallffkedabDoor
