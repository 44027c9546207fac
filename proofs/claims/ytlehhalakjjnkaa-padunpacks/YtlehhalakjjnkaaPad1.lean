/-
  Layer 12: how many pages a text wants, by the code and by the reference.
-/
import Derived.Test.YtlehhalakjjnkaaPad0
namespace Go.Proofs.Ytlehhalakjjnkaa
open Go.RowKit
open Go.Lib (hid)

namespace Pd
/-- While the classes are tried: P pages next. -/
def Try (n P : Int) : Prop := P = 1 ∨ (P = 2 ∧ 232 < n) ∨ (P = 4 ∧ 472 < n) ∨ (P = 8 ∧ 952 < n) ∨ (P = 16 ∧ 1912 < n) ∨ (P = 32 ∧ 3832 < n) ∨ (P = 64 ∧ 7672 < n)
theorem cls_neg (n : Int) (h : n < 0) : cls n = 0 := by unfold cls; rw [if_pos h]
theorem cls_at (n P : Int) (h0 : ¬ n < 0) (h : Try n P) (hP : P ≤ 32) (hle : n ≤ 240 * P - 8) : (cls n : Int) = P := by
  unfold cls
  rcases h with rfl | ⟨rfl, h⟩ | ⟨rfl, h⟩ | ⟨rfl, h⟩ | ⟨rfl, h⟩ | ⟨rfl, h⟩ | ⟨rfl, h⟩
  all_goals (repeat' split)
  all_goals omega
theorem try_next (n P : Int) (h : Try n P) (hP : P ≤ 32) (hle : ¬ n ≤ 240 * P - 8) : Try n (P * 2) := by
  unfold Try at h ⊢
  omega
theorem cls_end (n P : Int) (h : Try n P) (hP : ¬ P ≤ 32) : cls n = 0 := by
  unfold cls
  unfold Try at h
  repeat' split
  all_goals omega
theorem try_le (n P : Int) (h : Try n P) : 1 ≤ P ∧ P ≤ 64 := by
  unfold Try at h
  omega
end Pd

set_option maxHeartbeats 1000000 in
set_option maxRecDepth 100000 in
theorem class_any (n : Int) (w : World) :
    Calls Try.prog 11 #[.int .i64 n] w fun e w' => e = .returned (.tuple #[.int .i64 (Pd.cls n : Int), .bool (decide (0 < Pd.cls n))]) ∧ w' = w := by
  by_cases h0 : n < 0
  · rw [Pd.cls_neg n h0]
    go_enter Try.func11, Try.ntmps11
    go_wp2
    go_ret2
    exact ⟨rfl, rfl⟩
  · have h0 : 0 ≤ n := by omega
    go_enter Try.func11, Try.ntmps11
    go_upto_region 4 with (fail)
    go_loopw [4] (fun i wr => wr = w ∧ ∃ P : Int, i = .int .i64 P ∧ Pd.Try n P) (fun i _ => 64 - (intOf i).toNat)
    case atStart => exact ⟨by trivial, 1, rfl, Or.inl rfl⟩
    case round =>
      obtain ⟨rfl, P, rfl, ht⟩ := hrel
      have HT := hid ht
      obtain ⟨b1, b2⟩ := Pd.try_le n P ht
      clear ht
      by_cases hP : P ≤ 32
      · by_cases hle : n ≤ 240 * P - 8
        · have hc := Pd.cls_at n P (by omega) HT.out hP hle
          have HP := hid (show decide (0 < Pd.cls n) = true by simp; omega)
          have HC := hid hc
          clear hc
          go_wp2
          go_ret2
          exact ⟨by rw [HC.out, HP.out]; rfl, by trivial⟩
        · have HN := hid (Pd.try_next n P HT.out hP hle)
          go_wp2
          exact ⟨⟨by trivial, P * 2, by go_num, HN.out⟩, by simp [intOf]; omega⟩
      · have HC := hid (Pd.cls_end n P HT.out hP)
        go_wp2
        go_ret2
        exact ⟨by rw [HC.out]; rfl, by trivial⟩

theorem six_cells (w : World) (k : Nat) (h : k < 6) : (w.alloc (.cells #[.int .i64 1, .int .i64 2, .int .i64 4, .int .i64 8, .int .i64 16, .int .i64 32] 3)).cell? ⟨w.heap.size, k, none⟩ = some (.int .i64 ((2 ^ k : Nat) : Int)) := by
  rw [cell_of_row _ _ _ _ _ _ (heap_alloc_new _ _)]
  obtain rfl | rfl | rfl | rfl | rfl | rfl : k = 0 ∨ k = 1 ∨ k = 2 ∨ k = 3 ∨ k = 4 ∨ k = 5 := by omega
  all_goals rfl

set_option maxHeartbeats 1000000 in
set_option maxRecDepth 100000 in
theorem rclass_any (n : Int) (w : World) :
    Calls Try.prog 13 #[.int .i64 n] w fun e w' => e = .returned (.int .i64 (Pd.cls n : Int)) ∧ Below w.heap.size w w' := by
  go_enter Try.func13, Try.ntmps13
  go_upto_region 2 with (fail)
  have HC := hid (six_cells w)
  have HB := hid (show Below w.heap.size w (w.alloc (.cells #[.int .i64 1, .int .i64 2, .int .i64 4, .int .i64 8, .int .i64 16, .int .i64 32] 3)) from (Below.refl _ _).alloc (Nat.le_refl _) _)
  generalize w.alloc _ = w1 at *
  go_loopw [4, 7] (fun x i wr => wr = w1 ∧ ∃ k : Nat, k ≤ 6 ∧ i = .int .i64 k ∧ (n < 0 ∨ Pd.Try n (2 ^ k : Nat)))
    (fun _ i _ => 6 - (intOf i).toNat)
  case atStart =>
    refine ⟨by trivial, 0, by omega, rfl, ?_⟩
    by_cases h0 : n < 0
    · exact Or.inl h0
    · exact Or.inr (Or.inl rfl)
  case round =>
    obtain ⟨rfl, k, hk, rfl, ht⟩ := hrel
    have HT := hid ht
    clear ht
    by_cases hlt : k < 6
    · have c0 := HC.out k hlt
      have hP1 : 2 ^ k ≤ 2 ^ 5 := Nat.pow_le_pow_right (by decide) (by omega)
      have HP2 := hid (show 2 ^ (k + 1) = 2 ^ k * 2 from Nat.pow_succ ..)
      generalize hP : 2 ^ k = P at *
      clear hP
      have hP32 : (P : Int) ≤ 32 := by omega
      clear hP1
      by_cases h0 : n < 0
      · go_wp2
        exact ⟨⟨by trivial, k + 1, by omega, by go_num, Or.inl h0⟩, by simp [intOf]; omega⟩
      · have ht := HT.out.resolve_left h0
        by_cases hle : n ≤ 240 * (P : Int) - 8
        · have HCC := hid (Pd.cls_at n P h0 ht hP32 hle)
          clear ht
          go_wp2
          go_ret
          exact ⟨by rw [HCC.out]; rfl, HB.out⟩
        · have HN := hid (Pd.try_next n P ht hP32 hle)
          clear ht
          go_wp2
          exact ⟨⟨by trivial, k + 1, by omega, by go_num, Or.inr (by rw [HP2.out]; exact_mod_cast HN.out)⟩, by simp [intOf]; omega⟩
    · obtain rfl : k = 6 := by omega
      have HE := hid (show Pd.cls n = 0 from by
        rcases HT.out with h | h
        · exact Pd.cls_neg n h
        · exact Pd.cls_end n _ h (by decide))
      rw [show ((6 : Nat) : Int) = 6 from rfl]
      go_wp2
      go_ret
      exact ⟨by rw [HE.out]; rfl, HB.out⟩
end Go.Proofs.Ytlehhalakjjnkaa
