/-
  Layer 7: what is true of trees: each sum is that of the two below it; what Show tells leads to the root; ways that meet.
-/
import Derived.Test.YtnhecallffkedabDoorBase
import Derived.Test.YtnhecallffkedabDoorTree10
namespace Go.Proofs.YtnhecallffkedabDoor

namespace Tx
theorem upN_getD (F : List (List Nat)) (r : List Nat) (k i : Nat) (x : List Nat) : (upN F r k).getD i x = if i < k then hn (F.getD (2 * i) r) (F.getD (2 * i + 1) r) else x := by
  unfold upN
  rw [List.getD_eq_getElem?_getD, List.getElem?_map]
  split
  · rename_i h; rw [List.getElem?_range h]; rfl
  · rename_i h; rw [List.getElem?_eq_none (by simp; omega)]; rfl
theorem getD_out {α : Type} (F : List α) (r : α) (i : Nat) (h : F.length ≤ i) : F.getD i r = r := by
  rw [List.getD_eq_getElem?_getD, List.getElem?_eq_none h]; rfl
theorem up_at (F : List (List Nat)) (r : List Nat) (i : Nat) : (up F r).getD i (hn r r) = hn (F.getD (2 * i) r) (F.getD (2 * i + 1) r) := by
  unfold up
  rw [upN_getD]
  split
  · rfl
  · rw [getD_out F r (2 * i) (by omega), getD_out F r (2 * i + 1) (by omega)]
theorem sumAt_succ (d : Nat) (L : List (List Nat)) (k i : Nat) : sumAt d L (k + 1) i = hn (sumAt d L k (2 * i)) (sumAt d L k (2 * i + 1)) := up_at _ _ _
theorem map_getD (g : List Nat → List Nat) (L : List (List Nat)) (i : Nat) (x : List Nat) : (L.map g).getD i (g x) = g (L.getD i x) := by
  simp only [List.getD_eq_getElem?_getD, List.getElem?_map]
  cases L[i]? <;> rfl
theorem sumAt_zero (d : Nat) (L : List (List Nat)) (i : Nat) : sumAt d L 0 i = hl ((L.take (2 ^ d)).getD i []) := map_getD _ _ _ _
theorem sumAt_leaf (d : Nat) (L : List (List Nat)) (i : Nat) (h : i < 2 ^ d) : sumAt d L 0 i = hl (L.getD i []) := by
  rw [sumAt_zero]
  simp only [List.getD_eq_getElem?_getD]
  rw [List.getElem?_take_of_lt h]
theorem fst_rest (F G : List (List Nat)) (r : List Nat) (k : Nat) : (fst F r k).2 = (fst G r k).2 := by
  induction k with
  | zero => rfl
  | succ k ih => simp only [fst]; rw [ih]
theorem fst_len (F : List (List Nat)) (r : List Nat) (k m : Nat) (h : F.length ≤ 2 ^ (m + k)) : (fst F r k).1.length ≤ 2 ^ m := by
  induction k generalizing m with
  | zero => exact h
  | succ k ih =>
    have h1 := ih (m + 1) (by rwa [show m + 1 + k = m + (k + 1) from by omega])
    simp only [fst, up, upN_length]
    rw [Nat.pow_succ] at h1
    omega
theorem fst_nil (r : List Nat) (k : Nat) : (fst [] r k).1 = [] := by
  induction k with
  | zero => rfl
  | succ k ih => simp only [fst]; rw [ih]; rfl
/-- A tree of one depth more has the old root, and that of no texts, below its own. -/
theorem grows (d : Nat) (L : List (List Nat)) (h : L.length ≤ 2 ^ d) : root (d + 1) L = hn (root d L) (root d []) := by
  have hp : 2 ^ d ≤ 2 ^ (d + 1) := Nat.pow_le_pow_right (by decide) (by omega)
  have he : ∀ k, lev (d + 1) L k = lev d L k := by
    intro k
    unfold lev
    rw [List.take_of_length_le h, List.take_of_length_le (Nat.le_trans h hp)]
  have hs : ∀ k i, sumAt (d + 1) L k i = sumAt d L k i := fun k i => by unfold sumAt; rw [he]
  unfold root
  rw [sumAt_succ, hs, hs]
  have h1 : sumAt d L d 1 = sumAt d [] d 0 := by
    unfold sumAt
    rw [getD_out _ _ 1 (by
      have := fst_len ((L.take (2 ^ d)).map hl) (hl []) d 0 (by simp; omega)
      simpa [lev] using this), getD_out _ _ 0 (by
      unfold lev
      rw [show (([] : List (List Nat)).take (2 ^ d)).map hl = [] from by simp, fst_nil]
      exact Nat.le_refl _)]
    exact fst_rest _ _ _ _
  rw [h1]
/-- The neighbour's place. -/
def nb (n : Nat) : Nat := if n % 2 = 1 then n - 1 else n + 1
/-- What shows the text at place i. -/
def shows (d i : Nat) (L : List (List Nat)) (k : Nat) : List (List Nat) := (List.range k).map fun j => sumAt d L j (nb (i / 2 ^ j))
theorem shows_length (d i : Nat) (L : List (List Nat)) (k : Nat) : (shows d i L k).length = k := by simp [shows]
theorem shows_succ (d i : Nat) (L : List (List Nat)) (k : Nat) : shows d i L k ++ [sumAt d L k (nb (i / 2 ^ k))] = shows d i L (k + 1) := by simp [shows, List.range_succ]
theorem shows_getD (d i : Nat) (L : List (List Nat)) (k j : Nat) (h : j < k) (x : List Nat) : (shows d i L k).getD j x = sumAt d L j (nb (i / 2 ^ j)) := by
  unfold shows
  rw [List.getD_eq_getElem?_getD, List.getElem?_map, List.getElem?_range h]; rfl
theorem shows_good (d i : Nat) (L : List (List Nat)) (hL : L.length ≤ 1000) (k : Nat) : ∀ f ∈ shows d i L k, f.length = 32 ∧ ∀ x ∈ f, x < 256 := by
  intro f hf
  simp only [shows, List.mem_map] at hf
  obtain ⟨j, _, rfl⟩ := hf
  exact sumAt_good d L hL _ _
/-- The text that is hashed at step k of a way. -/
def wt (i : Nat) (t : List Nat) (l : List (List Nat)) : Nat → List Nat
  | 0 => leaf t
  | k + 1 => if i / 2 ^ k % 2 = 1 then node (l.getD k []) (Sx.digest (wt i t l k)) else node (Sx.digest (wt i t l k)) (l.getD k [])
theorem wayN_getD (i : Nat) (t : List Nat) (l : List (List Nat)) (n k : Nat) (h : k ≤ n) : (wayN i t l n).getD k [] = wt i t l k := by
  have hmain : ∀ n, (∀ k, k ≤ n → (wayN i t l n).getD k [] = wt i t l k) := by
    intro n
    induction n with
    | zero => intro k hk; obtain rfl : k = 0 := by omega
              rfl
    | succ n ih =>
      intro k hk
      have hl := wayN_length i t l n
      simp only [List.getD_eq_getElem?_getD] at ih ⊢
      rcases Nat.lt_or_ge k (n + 1) with hlt | hge
      · rw [wayN, List.getElem?_append_left (by omega)]
        exact ih k (by omega)
      · obtain rfl : k = n + 1 := by omega
        rw [wayN, List.getElem?_append_right (by omega), hl, Nat.sub_self]
        simp only [List.getElem?_cons_zero, Option.getD_some, List.getD_eq_getElem?_getD]
        rw [ih n (Nat.le_refl _)]
        simp only [wt, List.getD_eq_getElem?_getD]
  exact hmain n k h
theorem top_eq (i : Nat) (t : List Nat) (l : List (List Nat)) : top i t l = Sx.digest (wt i t l l.length) := by
  unfold top; rw [wayN_getD _ _ _ _ _ (Nat.le_refl _)]
theorem wt_sum (d i : Nat) (L : List (List Nat)) (t : List Nat) (l : List (List Nat)) (hs : ∀ k, k < d → l.getD k [] = sumAt d L k (nb (i / 2 ^ k))) (h0 : hl t = sumAt d L 0 i) : ∀ k, k ≤ d → Sx.digest (wt i t l k) = sumAt d L k (i / 2 ^ k) := by
  intro k
  induction k with
  | zero => intro _; simpa [wt, hl] using h0
  | succ k ih =>
    intro hk
    have h1 := ih (by omega)
    have h2 := hs k (by omega)
    have hd : i / 2 ^ (k + 1) = i / 2 ^ k / 2 := by rw [Nat.div_div_eq_div_mul, Nat.pow_succ]
    rw [hd, sumAt_succ]
    simp only [wt]
    rw [h2, h1]
    generalize i / 2 ^ k = n
    unfold nb
    by_cases ho : n % 2 = 1
    · rw [if_pos ho, if_pos ho, show 2 * (n / 2) = n - 1 from by omega, show n - 1 + 1 = n from by omega]; rfl
    · rw [if_neg ho, if_neg ho, show 2 * (n / 2) = n from by omega]; rfl
/-- What Show tells leads to the root. -/
theorem shown (d i : Nat) (L : List (List Nat)) (hi : i < 2 ^ d) : top i (L.getD i []) (shows d i L d) = root d L := by
  rw [top_eq, shows_length, wt_sum d i L _ _ (fun k hk => shows_getD d i L d k hk []) (sumAt_leaf d L i hi).symm d (Nat.le_refl _), Nat.div_eq_of_lt hi]
  rfl
theorem holds_shown (d i : Nat) (L : List (List Nat)) (hd : d ≤ 16) (hi : i < 2 ^ d) : holds (root d L) (i : Int) (L.getD i []) (shows d i L d) = true := by
  unfold holds isPos
  rw [shows_length, Int.toNat_natCast, shown d i L hi]
  simp [hd]
  exact_mod_cast hi
theorem node_inj (a b c e : List Nat) (ha : a.length = c.length) (h : node a b = node c e) : a = c ∧ b = e := by
  simp only [node, List.cons.injEq, true_and] at h
  exact List.append_inj h ha
/-- Ways of two texts that come to one root: somewhere two texts that differM have one sum. -/
theorem meets (i : Nat) (a b : List Nat) (la lb : List (List Nat)) (n : Nat) (ha : ∀ f ∈ la, f.length = 32) (hb : ∀ f ∈ lb, f.length = 32) (hal : la.length = n) (hbl : lb.length = n)
    (hno : ∀ k, k ≤ n → Sx.digest (wt i a la k) = Sx.digest (wt i b lb k) → wt i a la k = wt i b lb k) (htop : Sx.digest (wt i a la n) = Sx.digest (wt i b lb n)) : a = b := by
  have h : ∀ j, j ≤ n → wt i a la (n - j) = wt i b lb (n - j) := by
    intro j
    induction j with
    | zero => intro _; exact hno n (Nat.le_refl _) htop
    | succ j ih =>
      intro hj
      have h1 := ih (by omega)
      obtain ⟨k, hk⟩ : ∃ k, n - j = k + 1 := ⟨n - j - 1, by omega⟩
      rw [hk] at h1
      rw [show n - (j + 1) = k from by omega]
      refine hno k (by omega) ?_
      have e1 : (la.getD k []).length = 32 := ha _ (by rw [List.getD_eq_getElem?_getD, List.getElem?_eq_getElem (show k < la.length by omega)]; exact List.getElem_mem _)
      have e2 : (lb.getD k []).length = 32 := hb _ (by rw [List.getD_eq_getElem?_getD, List.getElem?_eq_getElem (show k < lb.length by omega)]; exact List.getElem_mem _)
      simp only [wt] at h1
      split at h1
      · exact (node_inj _ _ _ _ (by rw [e1, e2]) h1).2
      · exact (node_inj _ _ _ _ (by rw [digest_length, digest_length]) h1).1
  have h0 := h n (Nat.le_refl _)
  rw [Nat.sub_self] at h0
  simpa [wt, leaf] using h0
end Tx
end Go.Proofs.YtnhecallffkedabDoor
