/-
  Layer 11: runs, counted and searched, in plain lists.
-/
import Derived.Test.YtmlkbdkehoajaaaAl6
namespace Go.Proofs.Ytmlkbdkehoajaaa
open Go.RowKit

namespace Al
theorem run_mid (L : List Bool) (p : Nat) (t : Bool) (i : Nat) (h : i ≤ run L p t) : run L (p + i) t = run L p t - i := by
  refine run_eq L (p + i) t _ (fun j hj => ?_) ?_
  · rw [Nat.add_assoc]
    exact run_has L p t (i + j) (by omega)
  · rw [Nat.add_assoc, show i + (run L p t - i) = run L p t from by omega]
    exact run_out L p t
theorem run_zero (L : List Bool) (p : Nat) (t : Bool) (h : L[p]? ≠ some t) : run L p t = 0 := run_eq L p t 0 (fun i hi => absurd hi (by omega)) (by simpa using h)
theorem run_pos (L : List Bool) (p : Nat) (t : Bool) : 0 < run L p t ↔ L[p]? = some t := by
  constructor
  · intro h
    have := run_has L p t 0 h
    simpa using this
  · intro h
    rcases Nat.eq_zero_or_pos (run L p t) with h0 | h0
    · have := run_out L p t
      rw [h0] at this
      exact absurd (by simpa using h) this
    · exact h0
/-- Induction along the runs. -/
theorem from_ind (L : List Bool) (t : Bool) (P : Nat → List (Nat × Nat) → Prop) (h0 : ∀ p, L.length ≤ p → P p [])
    (h1 : ∀ p, p < L.length → P (p + run L p t + 1) (from_ L t (p + run L p t + 1)) → P p ((if 0 < run L p t then [(p, run L p t)] else []) ++ from_ L t (p + run L p t + 1))) : ∀ n p, L.length - p ≤ n → P p (from_ L t p)
  | 0, p, h => by rw [from_end L t p (by omega)]; exact h0 p (by omega)
  | n + 1, p, h => by
    by_cases hp : p < L.length
    · rw [from_step L t p hp]
      exact h1 p hp (from_ind L t P h0 h1 n _ (by omega))
    · rw [from_end L t p (by omega)]
      exact h0 p (by omega)
theorem from_mem (L : List Bool) (t : Bool) (p : Nat) : ∀ x ∈ from_ L t p, x.2 = run L x.1 t ∧ 0 < x.2 ∧ p ≤ x.1 ∧ x.1 < L.length := by
  refine from_ind L t (fun p l => ∀ x ∈ l, x.2 = run L x.1 t ∧ 0 < x.2 ∧ p ≤ x.1 ∧ x.1 < L.length) (fun p _ => by simp) ?_ _ p (Nat.le_refl _)
  intro p hp ih x hx
  rcases List.mem_append.1 hx with hx | hx
  · split at hx
    · rename_i h
      rw [List.mem_singleton] at hx
      subst hx
      exact ⟨rfl, h, Nat.le_refl _, hp⟩
    · cases hx
  · obtain ⟨a, b, c, d⟩ := ih x hx
    exact ⟨a, b, by omega, d⟩
theorem from_cover (L : List Bool) (t : Bool) (p i : Nat) (hpi : p ≤ i) (hi : L[i]? = some t) : ∃ x ∈ from_ L t p, run L i t ≤ x.2 := by
  have := from_ind L t (fun p l => p ≤ i → ∃ x ∈ l, run L i t ≤ x.2) (fun p hp hpi => by
    rw [List.getElem?_eq_none (by omega)] at hi; cases hi) ?_ _ p (Nat.le_refl _) hpi
  · exact this
  · intro p hp ih hpi
    by_cases hr : i < p + run L p t
    · refine ⟨(p, run L p t), ?_, ?_⟩
      · rw [if_pos (by omega)]; simp
      · have := run_mid L p t (i - p) (by omega)
        rw [show p + (i - p) = i from by omega] at this
        show run L i t ≤ run L p t
        omega
    · by_cases he : i = p + run L p t
      · exact absurd (he ▸ hi) (run_out L p t)
      · obtain ⟨x, hx, h⟩ := ih (by omega)
        exact ⟨x, List.mem_append_right _ hx, h⟩
theorem from_find (L : List Bool) (t : Bool) (k : Int) (hk : 1 ≤ k) (p0 p : Nat) (h0 : p0 ≤ p) (hp : p < L.length) (hr : k ≤ (run L p t : Int)) (hq : ∀ q, p0 ≤ q → q < p → (run L q t : Int) < k) :
    (from_ L t p0).find? (fun x => decide (k ≤ (x.2 : Int))) = some (p, run L p t) := by
  have := from_ind L t (fun p0 l => p0 ≤ p → (∀ q, p0 ≤ q → q < p → (run L q t : Int) < k) → l.find? (fun x => decide (k ≤ (x.2 : Int))) = some (p, run L p t)) (fun p0 h h0 _ => by omega) ?_ _ p0 (Nat.le_refl _) h0 hq
  · exact this
  · intro p0 hp0 ih h0 hq
    by_cases he : p0 = p
    · subst he
      rw [if_pos (by omega)]
      simp [hr]
    · have hr0 := hq p0 (Nat.le_refl _) (by omega)
      have hgt : p0 + run L p0 t < p := by
        rcases Nat.lt_or_ge (p0 + run L p0 t) p with h | h
        · exact h
        · exfalso
          have := run_mid L p0 t (p - p0) (by omega)
          rw [show p0 + (p - p0) = p from by omega] at this
          omega
      rw [List.find?_append]
      have hn : (if 0 < run L p0 t then [(p0, run L p0 t)] else []).find? (fun x : Nat × Nat => decide (k ≤ (x.2 : Int))) = none := by
        split
        · simp; omega
        · rfl
      rw [hn, Option.none_or]
      exact ih (by omega) (fun q h1 h2 => hq q (by omega) h2)
theorem first_at (L : List Bool) (k : Int) (hk : 1 ≤ k) (p : Nat) (hp : p < L.length) (hr : k ≤ (run L p false : Int)) (hq : ∀ q, q < p → (run L q false : Int) < k) : first L k = some (p, run L p false) :=
  from_find L false k hk 0 p (Nat.zero_le _) hp hr (fun q _ h => hq q h)
theorem first_no (L : List Bool) (k : Int) (hq : ∀ q, q < L.length → (run L q false : Int) < k) : first L k = none := by
  unfold first
  rw [List.find?_eq_none]
  intro x hx
  obtain ⟨h1, _, _, h4⟩ := from_mem L false 0 x hx
  have := hq x.1 h4
  simp; omega
theorem first_prop (L : List Bool) (k : Int) (x : Nat × Nat) (h : first L k = some x) : x.2 = run L x.1 false ∧ k ≤ (x.2 : Int) ∧ x.1 < L.length := by
  unfold first at h
  obtain ⟨h1, h2, h3, h4⟩ := from_mem L false 0 x (List.mem_of_find?_eq_some h)
  have := List.find?_some h
  exact ⟨h1, by simpa using this, h4⟩
theorem first_ch (L : List Bool) (k : Int) (hk : 1 ≤ k) (x : Nat × Nat) (h : first L k = some x) : ch L (x.1 : Int) k true = true := by
  obtain ⟨h1, h2, h3⟩ := first_prop L k x h
  unfold ch
  rw [Bool.and_eq_true, decide_eq_true_eq, fits_iff, Int.toNat_natCast]
  have := run_le L x.1 false
  refine ⟨⟨hk, by omega, by omega⟩, ?_⟩
  show k ≤ ((run L x.1 (!true) : Nat) : Int)
  rw [show (!true) = false from rfl, ← h1]
  exact h2
theorem first_after (L : List Bool) (k : Int) (hk : 1 ≤ k) (x : Nat × Nat) (h : first L k = some x) : after L (x.1 : Int) k true = setN L x.1 true k.toNat := by
  unfold after
  rw [first_ch L k hk x h, if_pos rfl, Int.toNat_natCast]
theorem sum_nil : sum [] = 0 := rfl
theorem sum_cons (x : Nat × Nat) (l : List (Nat × Nat)) : sum (x :: l) = x.2 + sum l := by simp [sum]
theorem count_run (l : List Bool) (t : Bool) : l.count t = (l.takeWhile (· == t)).length + (l.drop ((l.takeWhile (· == t)).length + 1)).count t := by
  induction l with
  | nil => rfl
  | cons a l ih =>
    by_cases ha : a = t
    · rw [List.takeWhile_cons_of_pos (by simp [ha]), List.length_cons, List.drop_succ_cons, ha, List.count_cons_self, ih]
      omega
    · rw [List.takeWhile_cons_of_neg (by simpa using ha), List.length_nil, Nat.zero_add, Nat.zero_add, List.drop_succ_cons, List.drop_zero, List.count_cons_of_ne ha]
theorem from_sum (L : List Bool) (t : Bool) (p : Nat) : sum (from_ L t p) = (L.drop p).count t := by
  refine from_ind L t (fun p l => sum l = (L.drop p).count t) (fun p hp => by rw [List.drop_eq_nil_of_le hp]; rfl) ?_ _ p (Nat.le_refl _)
  intro p hp ih
  rw [count_run (L.drop p) t, List.drop_drop]
  show _ = run L p t + (L.drop (p + (run L p t + 1))).count t
  rw [← Nat.add_assoc, ← ih]
  by_cases h : 0 < run L p t
  · rw [if_pos h, List.singleton_append, sum_cons]
  · rw [if_neg h, List.nil_append]; omega
theorem spans_sum (L : List Bool) (t : Bool) : sum (spans L t) = L.count t := by rw [spans_from, from_sum, List.drop_zero]
/-- A greatest run of those ahead of page p. -/
def Top (L : List Bool) (p M : Nat) : Prop := (∀ i, i < p → L[i]? = some false → run L i false ≤ M) ∧ (M = 0 ∨ ∃ i, i < p ∧ L[i]? = some false ∧ run L i false = M)
theorem Top.zero (L : List Bool) : Top L 0 0 := ⟨fun i hi => absurd hi (by omega), Or.inl rfl⟩
theorem Top.free {L : List Bool} {p M : Nat} (h : Top L p M) (hp : L[p]? = some false) : Top L (p + 1) (max M (run L p false)) := by
  refine ⟨fun i hi hf => ?_, ?_⟩
  · by_cases hip : i < p
    · have := h.1 i hip hf; omega
    · obtain rfl : i = p := by omega
      omega
  · right
    rcases Nat.le_total M (run L p false) with hle | hle
    · exact ⟨p, by omega, hp, by omega⟩
    · rcases h.2 with h0 | ⟨i, h1, h2, h3⟩
      · exact ⟨p, by omega, hp, by omega⟩
      · exact ⟨i, by omega, h2, by omega⟩
theorem Top.taken {L : List Bool} {p M : Nat} (h : Top L p M) (hp : L[p]? = some true) : Top L (p + 1) M := by
  refine ⟨fun i hi hf => ?_, ?_⟩
  · by_cases hip : i < p
    · exact h.1 i hip hf
    · obtain rfl : i = p := by omega
      rw [hp] at hf; cases hf
  · rcases h.2 with h0 | ⟨i, h1, h2, h3⟩
    · exact Or.inl h0
    · exact Or.inr ⟨i, by omega, h2, h3⟩
theorem most_ge (l : List (Nat × Nat)) : ∀ m, m ≤ l.foldl (fun m x => max m x.2) m ∧ ∀ x ∈ l, x.2 ≤ l.foldl (fun m x => max m x.2) m := by
  induction l with
  | nil => intro m; simp
  | cons a l ih =>
    intro m
    obtain ⟨h1, h2⟩ := ih (max m a.2)
    rw [List.foldl_cons]
    refine ⟨by omega, fun x hx => ?_⟩
    rcases List.mem_cons.1 hx with rfl | hx
    · omega
    · exact h2 x hx
theorem most_at (l : List (Nat × Nat)) : ∀ m, l.foldl (fun m x => max m x.2) m = m ∨ ∃ x ∈ l, l.foldl (fun m x => max m x.2) m = x.2 := by
  induction l with
  | nil => intro m; simp
  | cons a l ih =>
    intro m
    rw [List.foldl_cons]
    rcases ih (max m a.2) with h | ⟨x, hx, h⟩
    · rcases Nat.le_total m a.2 with hle | hle
      · exact Or.inr ⟨a, by simp, by rw [h]; omega⟩
      · exact Or.inl (by rw [h]; omega)
    · exact Or.inr ⟨x, by simp [hx], h⟩
theorem Top.eqMost {L : List Bool} {M : Nat} (h : Top L L.length M) : most (spans L false) = M := by
  have hle : most (spans L false) ≤ M := by
    rcases most_at (spans L false) 0 with h0 | ⟨x, hx, h0⟩
    · show List.foldl _ _ _ ≤ _
      rw [h0]; omega
    · show List.foldl _ _ _ ≤ _
      rw [h0]
      obtain ⟨h1, h2, _, h4⟩ := from_mem L false 0 x hx
      rw [h1]
      exact h.1 x.1 h4 ((run_pos L x.1 false).1 (by omega))
  have hge : M ≤ most (spans L false) := by
    rcases h.2 with h0 | ⟨i, h1, h2, h3⟩
    · omega
    · obtain ⟨x, hx, h4⟩ := from_cover L false 0 i (Nat.zero_le _) h2
      have := (most_ge (spans L false) 0).2 x hx
      show _ ≤ List.foldl _ _ _
      omega
  omega
theorem count_take (L : List Bool) (p : Nat) (h : p < L.length) : (L.take (p + 1)).count false = (L.take p).count false + if L.getD p false = false then 1 else 0 := by
  rw [List.take_succ_eq_append_getElem h, List.count_append, List.getD_eq_getElem?_getD, List.getElem?_eq_getElem h, Option.getD_some]
  congr 1
  cases L[p] <;> rfl
end Al
end Go.Proofs.Ytmlkbdkehoajaaa
