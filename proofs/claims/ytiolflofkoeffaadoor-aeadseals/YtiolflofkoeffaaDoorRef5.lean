/-
  The reference of layer 5: what sealwaxref05.whole, count, Seal and Open return.
-/
import Derived.Test.YtiolflofkoeffaaDoorRef4f
import Derived.Test.YtiolflofkoeffaaDoorLAead
namespace Go.Proofs.YtiolflofkoeffaaDoor
open Go.RowKit
open Go.Lib (hid)

namespace Ax
/-- A text with noughts behind it. -/
def filled (s : List Nat) : List Nat := s ++ fill s
theorem filled_lt (s : List Nat) (h : ∀ x ∈ s, x < 256) : ∀ x ∈ filled s, x < 256 := by
  intro x hx
  rcases List.mem_append.1 hx with h' | h'
  · exact h x h'
  · rw [fill, List.mem_replicate] at h'; omega
theorem filled_length (s : List Nat) : (filled s).length ≤ s.length + 15 := by
  rw [filled, List.length_append, fill, List.length_replicate]; omega
theorem said_eq (ad h : List Nat) : said ad h = filled ad ++ filled h ++ le8 ad.length ++ le8 h.length := by
  simp [said, filled, sizes]
theorem said_length (ad h : List Nat) : (said ad h).length ≤ ad.length + h.length + 46 := by
  have h1 := filled_length ad
  have h2 := filled_length h
  rw [said_eq]
  simp only [List.length_append, le8_length]
  omega
theorem said_lt (ad h : List Nat) (ha : ∀ x ∈ ad, x < 256) (hh : ∀ x ∈ h, x < 256) : ∀ x ∈ said ad h, x < 256 := by
  rw [said_eq]
  intro x hx
  simp only [List.mem_append] at hx
  rcases hx with ((h' | h') | h') | h'
  · exact filled_lt ad ha x h'
  · exact filled_lt h hh x h'
  · exact le8_lt _ x h'
  · exact le8_lt _ x h'
/-- The lowest i bytes of n. -/
def leN (n i : Nat) : List Nat := (List.range i).map fun j => n / 256 ^ j % 256
theorem leN_succ (n i : Nat) : leN n i ++ [n / 256 ^ i % 256] = leN n (i + 1) := by
  simp [leN, List.range_succ]
theorem leN_8 (n : Nat) : leN n 8 = le8 n := by
  unfold leN le8
  apply List.map_congr_left
  intro i _
  rw [show (256 : Nat) = 2 ^ 8 from rfl, ← Nat.pow_mul]
end Ax
theorem rem16 (c : Nat) (_h : c < 4611686018427387904) : IntKind.i64.wrap ((c : Int).tmod 16) = ((c % 16 : Nat) : Int) := by
  simp [IntKind.wrap, IntKind.bits, IntKind.signed, Int.tmod]; omega

set_option maxHeartbeats 1000000 in
theorem rwhole_any (s : List Nat) (hl : s.length ≤ 100000) (w : World) :
    Calls Tryd.prog 45 #[.string (str s)] w fun e w' => e = .returned (.string (str (Ax.filled s))) ∧ w' = w := by
  go_enter Tryd.func45, Tryd.ntmps45
  go_upto_region 1 with (fail)
  go_loopw [0] (fun v wr => wr = w ∧ ∃ j : Nat, v = .string (str (s ++ List.replicate j 0)) ∧ j ≤ (16 - s.length % 16) % 16)
    (fun v _ => match v with | .string y => s.length + 16 - y.size | _ => 0)
  case atStart => exact ⟨rfl, 0, by simp, Nat.zero_le _⟩
  case round =>
    obtain ⟨rfl, j, rfl, hj⟩ := hrel
    have hz : (str (s ++ List.replicate j 0)).size = s.length + j := by rw [str_size]; simp
    by_cases hlt : (s.length + j) % 16 = 0
    · have HE := hid (show s ++ List.replicate j 0 = Ax.filled s from by
        unfold Ax.filled Ax.fill
        rw [show (16 - s.length % 16) % 16 = j from by omega])
      have g1 : ((s.length : Int) + (j : Int)) % 16 = 0 := by omega
      generalize s ++ List.replicate j 0 = T at *
      generalize hS : str T = ST at *
      have HS := hid hS
      clear hS
      go_wp2
      go_ret
      exact ⟨by rw [← HE.out, HS.out]; rfl, rfl⟩
    · have hap := str_append (s ++ List.replicate j 0) [0]
      rw [show str [0] = ⟨#[0]⟩ from rfl, List.append_assoc, show List.replicate j 0 ++ [0] = List.replicate (j + 1) 0 from (List.replicate_succ' ..).symm] at hap
      have HZ := hid (show (str (s ++ List.replicate (j + 1) 0)).size = s.length + j + 1 from by rw [str_size]; simp; omega)
      have g1 : ¬ ((s.length : Int) + (j : Int)) % 16 = 0 := by omega
      generalize hS1 : str (s ++ List.replicate j 0) = S1 at *
      generalize hS2 : str (s ++ List.replicate (j + 1) 0) = S2 at *
      have HS2 := hid hS2
      clear hS1 hS2
      go_wp2
      exact ⟨⟨by trivial, j + 1, by rw [HS2.out], by omega⟩, by show s.length + 16 - S2.size < s.length + 16 - S1.size; rw [HZ.out, hz]; omega⟩

set_option maxHeartbeats 1000000 in
set_option maxRecDepth 100000 in
theorem rcount_any (n : Nat) (hn : n ≤ 100000) (w : World) :
    Calls Tryd.prog 46 #[.int .i64 (n : Int)] w fun e w' => e = .returned (.string (str (Ax.le8 n))) ∧ Below w.heap.size w w' := by
  have HE := hid (Ax.leN_8 n)
  go_enter Tryd.func46, Tryd.ntmps46
  go_upto_region 3 with (fail)
  go_loopw [0, 3, 4] (fun m v i wr => Below w.heap.size w wr ∧ ∃ k : Nat, k ≤ 8 ∧ i = .int .i64 k ∧ m = .int .i64 (n / 256 ^ k : Nat) ∧ v = .string (str (Ax.leN n k)))
    (fun _ _ i _ => 8 - (intOf i).toNat)
  case atStart => exact ⟨Below.refl _ _, 0, by omega, rfl, by simp, rfl⟩
  case round =>
    obtain ⟨hbel, k, hk, rfl, rfl, rfl⟩ := hrel
    have HBL := hid hbel
    have hsz := hbel.size
    clear hbel
    by_cases hlt : k < 8
    · have hle : n / 256 ^ k ≤ 100000 := Nat.le_trans (Nat.div_le_self _ _) hn
      have HD := hid (show n / 256 ^ (k + 1) = n / 256 ^ k / 256 from by rw [Nat.div_div_eq_div_mul, Nat.pow_succ])
      have hap := str_append (Ax.leN n k) [n / 256 ^ k % 256]
      rw [Ax.leN_succ] at hap
      have hos := fun wx => one_str wx (n / 256 ^ k % 256)
      have HSZ := hid (show (str (Ax.leN n k)).size = k from by rw [str_size]; simp [Ax.leN])
      have g1 : (k : Int) < 8 := by omega
      generalize n / 256 ^ k = m at *
      generalize hS1 : str (Ax.leN n k) = S1 at *
      generalize hS2 : str (Ax.leN n (k + 1)) = S2 at *
      have HS2 := hid hS2
      clear hS1 hS2
      generalize hS3 : str [m % 256] = S3 at *
      have HZ3 := hid (show S3.size = 1 from by rw [← hS3, str_size]; rfl)
      have hz3 := HZ3.out
      have hz1 := HSZ.out
      clear hS3
      rw [show ((m % 256 : Nat) : Int) = (m : Int) % 256 from by omega] at hos
      go_wp2
      exact ⟨⟨HBL.out.alloc hsz _, k + 1, by omega, congrArg (Value.int .i64) (by omega), congrArg (Value.int .i64) (by rw [HD.out]; omega), by rw [HS2.out]⟩, by simp only [intOf]; omega⟩
    · obtain rfl : k = 8 := by omega
      rw [HE.out]
      generalize hS : str (Ax.le8 n) = S at *
      have HS := hid hS
      clear hS
      generalize n / 256 ^ 8 = m at *
      rw [show ((8 : Nat) : Int) = 8 from rfl]
      go_wp2
      go_ret
      exact ⟨by rw [HS.out]; rfl, HBL.out⟩

end Go.Proofs.YtiolflofkoeffaaDoor
