/-
  Layer 18: flags by bits, and by divisions.
-/
import Derived.Test.YtlfjhpmachblkaaBx10
namespace Go.Proofs.Ytlfjhpmachblkaa
open Go.RowKit
namespace Bv
/-- The flags that the reference sums up, from the lowest k bits. -/
def acc (f on off : Nat) : Nat → Nat
  | 0 => 0
  | k + 1 => acc f on off k + if on / 2 ^ k % 2 = 1 ∨ (f / 2 ^ k % 2 = 1 ∧ off / 2 ^ k % 2 = 0) then 2 ^ k else 0
theorem acc_lt (f on off : Nat) : ∀ k, acc f on off k < 2 ^ k
  | 0 => Nat.one_pos
  | k + 1 => by
    have := acc_lt f on off k
    rw [acc, Nat.pow_succ]
    split <;> omega
theorem acc_all : ∀ f : Nat, f < 32 → ∀ on : Nat, on < 32 → ∀ off : Nat, off < 32 → sf (f : Int) (on : Int) (off : Int) = ((acc f on off 5 : Nat) : Int) := by decide +kernel
theorem del_all : ∀ f : Nat, f < 32 → (bits .and .i64 (f : Int) 8 != 0) = (f / 8 % 2 == 1) := by decide +kernel
theorem un_all : ∀ f : Nat, f < 32 → (bits .and .i64 (f : Int) 1 == 0) = (f % 2 == 0) := by decide +kernel
theorem sf_fl {f on off : Int} (h0 : fl f = true) (h1 : fl on = true) (h2 : fl off = true) : fl (sf f on off) = true := by
  have a := fl_le h0
  have b := fl_le h1
  have c := fl_le h2
  have e := acc_all f.toNat (by omega) on.toNat (by omega) off.toNat (by omega)
  rw [Int.toNat_of_nonneg a.1, Int.toNat_of_nonneg b.1, Int.toNat_of_nonneg c.1] at e
  have := acc_lt f.toNat on.toNat off.toNat 5
  rw [e]
  unfold fl
  simp
  omega
theorem Good.set {V X : Int} {L : List E} (h : Good V X L) {u on off : Int} : Good V X (setL L u on off) := by
  unfold setL
  split
  · rename_i he
    have hh : hit L u = true := by
      unfold setE at he
      cases hh : hit L u with
      | true => rfl
      | false => rw [hh] at he; simp at he
    have hf : fl on = true ∧ fl off = true := by
      unfold setE at he
      rw [hh, if_pos rfl] at he
      cases h1 : fl on <;> cases h2 : fl off <;> simp_all
    have hlt := hit_lt hh
    have hu := hit_is hh
    have hat : at_ L u = L.getD (cnt L u) (0, 0, 0) := rfl
    obtain ⟨e1, e2, e3, e4⟩ := h.ent _ hlt
    have hr : setR L u on off = ((at_ L u).1, sf (at_ L u).2.1 on off, (at_ L u).2.2) := by unfold setR; rw [if_pos he]
    have hget : ∀ i, (L.set (cnt L u) (setR L u on off)).getD i (0, 0, 0) = if cnt L u = i ∧ i < L.length then setR L u on off else L.getD i (0, 0, 0) := by
      intro i
      rw [List.getD_eq_getElem?_getD, List.getElem?_set]
      by_cases hi : cnt L u = i
      · subst hi; rw [if_pos rfl, if_pos hlt, if_pos ⟨rfl, hlt⟩]; rfl
      · rw [if_neg hi, if_neg (fun h => hi h.1), List.getD_eq_getElem?_getD]
    have h1 : ∀ i, ((L.set (cnt L u) (setR L u on off)).getD i (0, 0, 0)).1 = (L.getD i (0, 0, 0)).1 := by
      intro i
      rw [hget i]
      split
      · rename_i hi
        rw [hr, hat, ← hi.1]
      · rfl
    refine ⟨h.v, h.x, by rw [List.length_set]; exact h.len, fun i j hij hj => ?_, fun i hi => ?_⟩
    · rw [h1, h1]; rw [List.length_set] at hj; exact h.up i j hij hj
    · rw [List.length_set] at hi
      rw [hget i]
      split
      · rw [hr, hat]; exact ⟨e1, e2, sf_fl e3 hf.1 hf.2, e4⟩
      · exact h.ent i hi
  · exact h
theorem set_len (L : List E) (u on off : Int) : (setL L u on off).length = L.length := by
  unfold setL
  split
  · exact List.length_set
  · rfl
end Bv
end Go.Proofs.Ytlfjhpmachblkaa
