/-
  Layer 11: runs of pages, in plain lists.
-/
import Derived.Test.YtmlkbdkehoajaaaBase
namespace Go.Proofs.Ytmlkbdkehoajaaa
open Go.RowKit

namespace Al
/-- How many, from a page on, are t. -/
def run (L : List Bool) (p : Nat) (t : Bool) : Nat := ((L.drop p).takeWhile (· == t)).length
theorem takeWhile_eq (l : List Bool) (t : Bool) (k : Nat) (h1 : ∀ i, i < k → l[i]? = some t) (h2 : l[k]? ≠ some t) : (l.takeWhile (· == t)).length = k := by
  induction k generalizing l with
  | zero =>
    cases l with
    | nil => rfl
    | cons a l =>
      have : a ≠ t := fun e => h2 (by simp [e])
      rw [List.takeWhile_cons_of_neg (by simpa using this)]; rfl
  | succ k ih =>
    cases l with
    | nil => have := h1 0 (by omega); simp at this
    | cons a l =>
      have ha : a = t := by have := h1 0 (by omega); simpa using this
      rw [List.takeWhile_cons_of_pos (by simp [ha]), List.length_cons, ih l (fun i hi => by have := h1 (i + 1) (by omega); simpa using this) (by simpa using h2)]
theorem run_eq (L : List Bool) (p : Nat) (t : Bool) (k : Nat) (h1 : ∀ i, i < k → L[p + i]? = some t) (h2 : L[p + k]? ≠ some t) : run L p t = k :=
  takeWhile_eq _ t k (fun i hi => by rw [List.getElem?_drop]; exact h1 i hi) (by rw [List.getElem?_drop]; exact h2)
theorem takeWhile_get (l : List Bool) (t : Bool) : (∀ i, i < (l.takeWhile (· == t)).length → l[i]? = some t) ∧ l[(l.takeWhile (· == t)).length]? ≠ some t := by
  induction l with
  | nil => simp
  | cons a l ih =>
    by_cases ha : a = t
    · rw [List.takeWhile_cons_of_pos (by simp [ha])]
      refine ⟨fun i hi => ?_, ?_⟩
      · cases i with
        | zero => simp [ha]
        | succ i => simp only [List.length_cons] at hi; simpa using ih.1 i (by omega)
      · simpa using ih.2
    · rw [List.takeWhile_cons_of_neg (by simpa using ha)]
      exact ⟨fun i hi => absurd hi (by simp), by simpa using ha⟩
theorem run_has (L : List Bool) (p : Nat) (t : Bool) (i : Nat) (h : i < run L p t) : L[p + i]? = some t := by
  have := (takeWhile_get (L.drop p) t).1 i h
  rwa [List.getElem?_drop] at this
theorem run_out (L : List Bool) (p : Nat) (t : Bool) : L[p + run L p t]? ≠ some t := by
  have := (takeWhile_get (L.drop p) t).2
  rwa [List.getElem?_drop] at this
theorem run_le (L : List Bool) (p : Nat) (t : Bool) : run L p t ≤ L.length - p := by
  rcases Nat.lt_or_ge (L.length - p) (run L p t) with h | h
  · have := run_has L p t (L.length - p) h
    rw [List.getElem?_eq_none (by omega)] at this
    cases this
  · exact h
/-- The runs from a page on: where each begins, how long it is. -/
def spansF (L : List Bool) (t : Bool) : Nat → Nat → List (Nat × Nat)
  | 0, _ => []
  | f + 1, p => if p < L.length then (if 0 < run L p t then [(p, run L p t)] else []) ++ spansF L t f (p + run L p t + 1) else []
def spans (L : List Bool) (t : Bool) : List (Nat × Nat) := spansF L t L.length 0
theorem spansF_more (L : List Bool) (t : Bool) : ∀ (f g p : Nat), L.length - p ≤ f → L.length - p ≤ g → spansF L t f p = spansF L t g p
  | 0, 0, _, _, _ => rfl
  | 0, g + 1, p, h, _ => by rw [spansF, spansF, if_neg (by omega)]
  | f + 1, 0, p, _, h => by rw [spansF, spansF, if_neg (by omega)]
  | f + 1, g + 1, p, h1, h2 => by
    rw [spansF, spansF]
    by_cases h : p < L.length
    · rw [if_pos h, if_pos h, spansF_more L t f g _ (by omega) (by omega)]
    · rw [if_neg h, if_neg h]
/-- The runs from a page on, with enough rounds. -/
def from_ (L : List Bool) (t : Bool) (p : Nat) : List (Nat × Nat) := spansF L t (L.length - p) p
theorem from_end (L : List Bool) (t : Bool) (p : Nat) (h : L.length ≤ p) : from_ L t p = [] := by
  unfold from_
  rw [show L.length - p = 0 from by omega]; rfl
theorem from_step (L : List Bool) (t : Bool) (p : Nat) (h : p < L.length) : from_ L t p = (if 0 < run L p t then [(p, run L p t)] else []) ++ from_ L t (p + run L p t + 1) := by
  unfold from_
  obtain ⟨f, hf⟩ : ∃ f, L.length - p = f + 1 := ⟨L.length - p - 1, by omega⟩
  rw [hf, spansF, if_pos h, spansF_more L t f (L.length - (p + run L p t + 1)) _ (by omega) (by omega)]
theorem spans_from (L : List Bool) (t : Bool) : spans L t = from_ L t 0 := rfl
theorem spansF_len (L : List Bool) (t : Bool) : ∀ (f p : Nat), (spansF L t f p).length ≤ f
  | 0, _ => by simp [spansF]
  | f + 1, p => by
    rw [spansF]
    split
    · have := spansF_len L t f (p + run L p t + 1)
      rw [List.length_append]
      split <;> simp <;> omega
    · simp
theorem spans_len (L : List Bool) (t : Bool) : (spans L t).length ≤ L.length := spansF_len L t _ _
/-- Pages are set. -/
def setN (L : List Bool) (F : Nat) (t : Bool) : Nat → List Bool
  | 0 => L
  | k + 1 => (setN L F t k).set (F + k) t
theorem setN_length (L : List Bool) (F : Nat) (t : Bool) (k : Nat) : (setN L F t k).length = L.length := by
  induction k with
  | zero => rfl
  | succ k ih => rw [setN, List.length_set, ih]
theorem setN_get (L : List Bool) (F : Nat) (t : Bool) (k i : Nat) (hk : F + k ≤ L.length) : (setN L F t k)[i]? = if F ≤ i ∧ i < F + k then some t else L[i]? := by
  induction k with
  | zero => rw [if_neg (by omega)]; rfl
  | succ k ih =>
    rw [setN, List.getElem?_set, setN_length, ih (by omega)]
    by_cases h : F + k = i
    · rw [if_pos h, if_pos (by omega), if_pos (by omega)]
    · rw [if_neg h]
      by_cases h2 : F ≤ i ∧ i < F + k
      · rw [if_pos h2, if_pos (by omega)]
      · rw [if_neg h2, if_neg (by omega)]
/-- May pages be turned to t? -/
def fits (n : Nat) (F C : Int) : Bool := decide (1 ≤ C) && (decide (0 ≤ F) && decide (C ≤ (n : Int) - F))
def ch (L : List Bool) (F C : Int) (t : Bool) : Bool := fits L.length F C && decide (C ≤ (run L F.toNat (!t) : Int))
def after (L : List Bool) (F C : Int) (t : Bool) : List Bool := if ch L F C t = true then setN L F.toNat t C.toNat else L
theorem after_length (L : List Bool) (F C : Int) (t : Bool) : (after L F C t).length = L.length := by
  unfold after
  split
  · exact setN_length _ _ _ _
  · rfl
theorem fits_iff (n : Nat) (F C : Int) : fits n F C = true ↔ 1 ≤ C ∧ 0 ≤ F ∧ C ≤ (n : Int) - F := by
  unfold fits; simp
end Al
end Go.Proofs.Ytmlkbdkehoajaaa
