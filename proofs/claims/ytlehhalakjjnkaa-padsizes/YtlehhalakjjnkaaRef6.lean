/-
  Layer 6: what the reference's functions return: Num, Text, Fixed.
-/
import Derived.Test.YtlehhalakjjnkaaWire7
namespace Go.Proofs.Ytlehhalakjjnkaa
open Go.RowKit
open Go.Lib (hid)

namespace Wx
/-- The lowest k bytes of a number, the greatest of them first. -/
def loB (v : Nat) : Nat → List Nat
  | 0 => []
  | k + 1 => v / 256 ^ k % 256 :: loB v k
theorem loB_length (v k : Nat) : (loB v k).length = k := by
  induction k with
  | zero => rfl
  | succ k ih => rw [loB, List.length_cons, ih]
theorem loB_8 (v : Nat) : loB v 8 = num8 v := by
  simp only [loB, num8]
  show _ = [v / 2 ^ 56 % 256, v / 2 ^ 48 % 256, v / 2 ^ 40 % 256, v / 2 ^ 32 % 256, v / 2 ^ 24 % 256, v / 2 ^ 16 % 256, v / 2 ^ 8 % 256, v / 2 ^ 0 % 256]
  rfl
end Wx

set_option maxHeartbeats 1000000 in
set_option maxRecDepth 100000 in
theorem rnum_any (n : Int) (hn : n ≤ 9223372036854775807) (w : World) :
    Calls Try.prog 29 #[.int .i64 n] w fun e w' => e = .returned (.string (str (Wx.num8 n.toNat))) ∧ Below w.heap.size w w' := by
  obtain ⟨v, hv⟩ : ∃ v : Nat, max 0 n = (v : Int) := ⟨n.toNat, by omega⟩
  have hvt : n.toNat = v := by omega
  have hvb : v ≤ 9223372036854775807 := by omega
  rw [hvt]
  clear hvt hn
  have h0 : str [] = ⟨#[]⟩ := rfl
  go_enter Try.func29, Try.ntmps29
  go_upto_region 4 with (fail)
  clear hv
  go_loopw [0, 3, 4] (fun m s i wr => ∃ k : Nat, k ≤ 8 ∧ i = .int .i64 k ∧ m = .int .i64 ((v / 256 ^ k : Nat) : Int) ∧ s = .string (str (Wx.loB v k)) ∧ Below w.heap.size w wr)
    (fun _ _ i _ => 8 - (intOf i).toNat)
  case atStart => exact ⟨0, by omega, rfl, by simp, rfl, Below.refl _ _⟩
  case round =>
    obtain ⟨k, hk, rfl, rfl, rfl, hbel⟩ := hrel
    by_cases hlt : k < 8
    · have hle : v / 256 ^ k ≤ v := Nat.div_le_self _ _
      have HQ := hid (show v / 256 ^ (k + 1) = v / 256 ^ k / 256 from by rw [Nat.pow_succ, Nat.div_div_eq_div_mul])
      have HL : Hid (Wx.loB v (k + 1) = v / 256 ^ k % 256 :: Wx.loB v k) := rfl
      generalize v / 256 ^ k = q at *
      have hrem : (q : Int).tmod 256 = ((q % 256 : Nat) : Int) := by rw [Int.tmod_eq_emod_of_nonneg (by omega)]; omega
      have hrem2 : (q : Int) % 256 = ((q % 256 : Nat) : Int) := by omega
      have hquo : (q : Int).tdiv 256 = ((q / 256 : Nat) : Int) := by rw [Int.tdiv_eq_ediv_of_nonneg (by omega)]; omega
      have hquo2 : (q : Int) / 256 = ((q / 256 : Nat) : Int) := by omega
      have hq256 : q % 256 < 256 := by omega
      have hcv := one_str wr (q % 256)
      have hap := str_append [q % 256] (Wx.loB v k)
      rw [List.singleton_append, ← HL.out] at hap
      have HBL := hid hbel
      have z0 : (str [q % 256]).size = 1 := by rw [str_size]; rfl
      have z1 : (str (Wx.loB v k)).size = k := by rw [str_size, Wx.loB_length]
      clear HL hbel
      generalize hS2 : str (Wx.loB v (k + 1)) = S2 at hap
      have HS2 := hid hS2
      clear hS2
      generalize str (Wx.loB v k) = S1 at *
      generalize q / 256 = q2 at *
      generalize q % 256 = r at *
      generalize str [r] = S0 at *
      go_wp2
      exact ⟨⟨k + 1, by omega, by go_num, by rw [HQ.out], by rw [HS2.out], HBL.out.alloc HBL.out.size _⟩, by simp [intOf]; omega⟩
    · obtain rfl : k = 8 := by omega
      have HBL := hid hbel
      clear hbel
      rw [show ((8 : Nat) : Int) = 8 from rfl, Wx.loB_8]
      go_wp2
      go_ret
      exact ⟨rfl, HBL.out⟩

set_option maxHeartbeats 1000000 in
set_option maxRecDepth 100000 in
theorem rtext_any (s : List Nat) (hs : s.length ≤ 1000000) (w : World) :
    Calls Try.prog 19 #[.string (str s)] w fun e w' => e = .returned (.string (str (Wx.num8 s.length ++ s))) ∧ Below w.heap.size w w' := by
  have HN := hid (fun wx => rnum_any (s.length : Int) (by omega) wx)
  rw [Int.toNat_natCast] at HN
  have hap := str_append (Wx.num8 s.length) s
  have hz := str_size s
  have hz1 : (str (Wx.num8 s.length)).size = 8 := by rw [str_size, Wx.num8_length]
  generalize str (Wx.num8 s.length ++ s) = S2 at *
  generalize str (Wx.num8 s.length) = S1 at *
  generalize str s = S0 at *
  go_enter Try.func19, Try.ntmps19
  go_wp2_with (go_at_call 29; refine (HN.out _).mono ?_; rintro e w1 ⟨rfl, k1⟩)
  go_ret
  exact ⟨rfl, k1⟩

set_option maxHeartbeats 1000000 in
set_option maxRecDepth 100000 in
theorem rfixed_any (s : List Nat) (hb : ∀ c ∈ s, c < 256) (hs : s.length ≤ 1000000) (n : Int) (k : Nat) (hk : max 0 (min n 4096) = (k : Int)) (w : World) :
    Calls Try.prog 20 #[.string (str s), .int .i64 n] w fun e w' => e = .returned (.string (str (Wx.fix s k))) ∧ w' = w := by
  have hk4 : k ≤ 4096 := by omega
  have HB := hid hb
  clear hb
  go_enter Try.func20, Try.ntmps20
  go_upto_region 2 with (fail)
  clear hk
  go_loopw [0] (fun v wr => wr = w ∧ ∃ j : Nat, v = .string (str (s ++ List.replicate j 0)) ∧ (j = 0 ∨ s.length + j ≤ k))
    (fun v _ => match v with | .string y => k - y.size | _ => 0)
  case atStart => exact ⟨rfl, 0, by simp, Or.inl rfl⟩
  case round =>
    obtain ⟨rfl, j, rfl, hj⟩ := hrel
    have hz : (str (s ++ List.replicate j 0)).size = s.length + j := by rw [str_size]; simp
    by_cases hlt : s.length + j < k
    · have hap := str_append (s ++ List.replicate j 0) [0]
      rw [show str [0] = ⟨#[0]⟩ from rfl, List.append_assoc, show List.replicate j 0 ++ [0] = List.replicate (j + 1) 0 from (List.replicate_succ' ..).symm] at hap
      have HZ := hid (show (str (s ++ List.replicate (j + 1) 0)).size = s.length + j + 1 from by rw [str_size]; simp; omega)
      have hlt' : ((s.length : Int) + (j : Int)) < (k : Int) := by omega
      generalize hS1 : str (s ++ List.replicate j 0) = S1 at *
      generalize hS2 : str (s ++ List.replicate (j + 1) 0) = S2 at *
      have HS2 := hid hS2
      clear hS1 hS2
      go_wp2
      exact ⟨⟨by trivial, j + 1, by rw [HS2.out], Or.inr (by omega)⟩, by show k - S2.size < k - S1.size; rw [HZ.out, hz]; omega⟩
    · have hge : ¬ ((s.length : Int) + (j : Int)) < (k : Int) := by omega
      have hle : (k : Int) ≤ (s.length : Int) + (j : Int) := by omega
      have hex : (str (s ++ List.replicate j 0)).extract 0 k = str (Wx.fix s k) := by
        have := extract_mid (s ++ List.replicate j 0) (by
          intro x hx
          rcases List.mem_append.1 hx with h | h
          · exact HB.out x h
          · rw [List.eq_of_mem_replicate h]; omega) 0 k
        rw [Nat.zero_add, List.drop_zero] at this
        rw [this]
        congr 1
        unfold Wx.fix
        rcases hj with rfl | hj
        · rw [List.replicate_zero, List.append_nil, show k - s.length = 0 from by omega, List.replicate_zero, List.append_nil]
        · rw [List.take_of_length_le (by simp; omega), List.take_of_length_le (show s.length ≤ k by omega), show k - s.length = j from by omega]
      generalize hS1 : str (s ++ List.replicate j 0) = S1 at *
      generalize hSF : str (Wx.fix s k) = SF at hex
      have HSF := hid hSF
      clear hS1 hSF
      go_wp2
      go_ret
      exact ⟨by rw [HSF.out]; rfl, by trivial⟩
end Go.Proofs.Ytlehhalakjjnkaa
