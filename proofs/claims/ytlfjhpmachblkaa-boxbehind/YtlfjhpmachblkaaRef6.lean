/-
  Layer 6: what the reference's functions return: Num, Text, Fixed.
-/
import Derived.Test.YtlfjhpmachblkaaWire7
import Derived.Lib.MinMax
namespace Go.Proofs.Ytlfjhpmachblkaa
open Go.RowKit
open Go.Lib (hid)

namespace Wx
/-- The lowest k bytes of a number, the greatest of them first. -/
def loB (v : Nat) : Nat → List Nat
  | 0 => []
  | k + 1 => v / 256 ^ k % 256 :: loB v k
theorem loB_length (v k : Nat) : (loB v k).length = k := by
  induction k with
  | zero => rfl
  | succ k ih => rw [loB, List.length_cons, ih]
theorem loB_8 (v : Nat) : loB v 8 = num8 v := by
  simp only [loB, num8]
  show _ = [v / 2 ^ 56 % 256, v / 2 ^ 48 % 256, v / 2 ^ 40 % 256, v / 2 ^ 32 % 256, v / 2 ^ 24 % 256, v / 2 ^ 16 % 256, v / 2 ^ 8 % 256, v / 2 ^ 0 % 256]
  rfl
end Wx

set_option maxHeartbeats 1000000 in
set_option maxRecDepth 100000 in
theorem rnum_any (n : Int) (hn : n ≤ 9223372036854775807) (w : World) :
    Calls Try.prog 48 #[.int .i64 n] w fun e w' => e = .returned (.string (str (Wx.num8 n.toNat))) ∧ Below w.heap.size w w' := by
  obtain ⟨v, hv⟩ : ∃ v : Nat, max 0 n = (v : Int) := ⟨n.toNat, by omega⟩
  have hvt : n.toNat = v := by omega
  have hvb : v ≤ 9223372036854775807 := by omega
  rw [hvt]
  clear hvt hn
  have h0 : str [] = ⟨#[]⟩ := rfl
  go_enter Try.func48, Try.ntmps48
  go_upto_region 4 with (fail)
  clear hv
  go_loopw [0, 3, 4] (fun m s i wr => ∃ k : Nat, k ≤ 8 ∧ i = .int .i64 k ∧ m = .int .i64 ((v / 256 ^ k : Nat) : Int) ∧ s = .string (str (Wx.loB v k)) ∧ Below w.heap.size w wr)
    (fun _ _ i _ => 8 - (intOf i).toNat)
  case atStart => exact ⟨0, by omega, rfl, by simp, rfl, Below.refl _ _⟩
  case round =>
    obtain ⟨k, hk, rfl, rfl, rfl, hbel⟩ := hrel
    by_cases hlt : k < 8
    · have hle : v / 256 ^ k ≤ v := Nat.div_le_self _ _
      have HQ := hid (show v / 256 ^ (k + 1) = v / 256 ^ k / 256 from by rw [Nat.pow_succ, Nat.div_div_eq_div_mul])
      have HL : Hid (Wx.loB v (k + 1) = v / 256 ^ k % 256 :: Wx.loB v k) := rfl
      generalize v / 256 ^ k = q at *
      have hrem : (q : Int).tmod 256 = ((q % 256 : Nat) : Int) := by rw [Int.tmod_eq_emod_of_nonneg (by omega)]; omega
      have hrem2 : (q : Int) % 256 = ((q % 256 : Nat) : Int) := by omega
      have hquo : (q : Int).tdiv 256 = ((q / 256 : Nat) : Int) := by rw [Int.tdiv_eq_ediv_of_nonneg (by omega)]; omega
      have hquo2 : (q : Int) / 256 = ((q / 256 : Nat) : Int) := by omega
      have hq256 : q % 256 < 256 := by omega
      have hcv := one_str wr (q % 256)
      have hap := str_append [q % 256] (Wx.loB v k)
      rw [List.singleton_append, ← HL.out] at hap
      have HBL := hid hbel
      have z0 : (str [q % 256]).size = 1 := by rw [str_size]; rfl
      have z1 : (str (Wx.loB v k)).size = k := by rw [str_size, Wx.loB_length]
      clear HL hbel
      generalize hS2 : str (Wx.loB v (k + 1)) = S2 at hap
      have HS2 := hid hS2
      clear hS2
      generalize str (Wx.loB v k) = S1 at *
      generalize q / 256 = q2 at *
      generalize q % 256 = r at *
      generalize str [r] = S0 at *
      go_wp2
      exact ⟨⟨k + 1, by omega, by go_num, by rw [HQ.out], by rw [HS2.out], HBL.out.alloc HBL.out.size _⟩, by simp [intOf]; omega⟩
    · obtain rfl : k = 8 := by omega
      have HBL := hid hbel
      clear hbel
      rw [show ((8 : Nat) : Int) = 8 from rfl, Wx.loB_8]
      go_wp2
      go_ret
      exact ⟨rfl, HBL.out⟩

end Go.Proofs.Ytlfjhpmachblkaa
