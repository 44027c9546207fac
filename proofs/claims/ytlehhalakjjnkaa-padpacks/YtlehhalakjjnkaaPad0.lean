/-
  Layer 12: the pages of a text, in plain lists; what is read of pages.
-/
import Derived.Test.YtlehhalakjjnkaaWire7
namespace Go.Proofs.Ytlehhalakjjnkaa
open Go.RowKit

namespace Pd
/-- How many pages; 0: there is none. -/
def cls (n : Int) : Nat :=
  if n < 0 then 0 else if n ≤ 232 then 1 else if n ≤ 472 then 2 else if n ≤ 952 then 4 else if n ≤ 1912 then 8 else if n ≤ 3832 then 16 else if n ≤ 7672 then 32 else 0
theorem cls_le (n : Int) : cls n ≤ 32 := by
  unfold cls
  repeat' split
  all_goals omega
theorem cls_fits (n : Int) (h : 0 < cls n) : 0 ≤ n ∧ n + 8 ≤ 240 * (cls n : Int) := by
  unfold cls at h ⊢
  repeat' split
  all_goals simp_all
  all_goals omega
theorem cls_none (n : Nat) (h : cls (n : Int) = 0) : 7672 < n := by
  unfold cls at h
  repeat' split at h
  all_goals omega
theorem cls_some (n : Nat) (h : n ≤ 7672) : 0 < cls (n : Int) := by
  rcases Nat.eq_zero_or_pos (cls (n : Int)) with h0 | h0
  · have := cls_none n h0; omega
  · exact h0
/-- A text behind its length. -/
def all (t : List Nat) : List Nat := Wx.num8 t.length ++ t
theorem all_length (t : List Nat) : (all t).length = 8 + t.length := by simp [all, Wx.num8_length]
theorem all_lt (t : List Nat) (h : ∀ x ∈ t, x < 256) : ∀ x ∈ all t, x < 256 := by
  intro x hx
  rcases List.mem_append.1 hx with h1 | h1
  · exact Wx.num8_lt _ x h1
  · exact h x h1
def page (t : List Nat) (i : Nat) : List Nat := Wx.fix ((all t).drop (240 * i)) 240
theorem page_length (t : List Nat) (i : Nat) : (page t i).length = 240 := Wx.fix_length _ _
theorem page_lt (t : List Nat) (h : ∀ x ∈ t, x < 256) (i : Nat) : ∀ x ∈ page t i, x < 256 :=
  Wx.fix_lt _ _ fun x hx => all_lt t h x (List.mem_of_mem_drop hx)
/-- The first k pages. -/
def pagesN (t : List Nat) (k : Nat) : List (List Nat) := (List.range k).map (page t)
theorem pagesN_length (t : List Nat) (k : Nat) : (pagesN t k).length = k := by simp [pagesN]
theorem pagesN_succ (t : List Nat) (k : Nat) : pagesN t k ++ [page t k] = pagesN t (k + 1) := by simp [pagesN, List.range_succ]
theorem pagesN_getD (t : List Nat) (k i : Nat) (x : List Nat) (h : i < k) : (pagesN t k).getD i x = page t i := by
  unfold pagesN
  rw [List.getD_eq_getElem?_getD, List.getElem?_map, List.getElem?_range h]; rfl
/-- All of them. -/
def pages (t : List Nat) : List (List Nat) := pagesN t (cls t.length)
theorem pages_length (t : List Nat) : (pages t).length = cls t.length := pagesN_length _ _
theorem pages_lt (t : List Nat) (h : ∀ x ∈ t, x < 256) : ∀ x ∈ (pages t).flatten, x < 256 := by
  intro x hx
  obtain ⟨l, hl, hx⟩ := List.mem_flatten.1 hx
  simp only [pages, pagesN, List.mem_map] at hl
  obtain ⟨i, _, rfl⟩ := hl
  exact page_lt t h i x hx
theorem pages_each (t : List Nat) : ∀ l ∈ pages t, l.length = 240 := by
  intro l hl
  simp only [pages, pagesN, List.mem_map] at hl
  obtain ⟨i, _, rfl⟩ := hl
  exact page_length t i
theorem fix_add (s : List Nat) (a b : Nat) : Wx.fix s (a + b) = Wx.fix s a ++ Wx.fix (s.drop a) b := by
  unfold Wx.fix
  by_cases h : a ≤ s.length
  · rw [List.take_add, show a - s.length = 0 from by omega, List.replicate_zero, List.append_nil, List.append_assoc, List.length_drop, show a + b - s.length = b - (s.length - a) from by omega]
  · rw [List.drop_eq_nil_of_le (by omega), List.take_of_length_le (show s.length ≤ a + b by omega), List.take_of_length_le (show s.length ≤ a by omega), List.take_nil, List.nil_append, List.length_nil, List.append_assoc, List.replicate_append_replicate]
    congr 2
    omega
theorem pagesN_flatten (t : List Nat) (k : Nat) : (pagesN t k).flatten = Wx.fix (all t) (240 * k) := by
  induction k with
  | zero => simp [pagesN, Wx.fix]
  | succ k ih =>
    rw [← pagesN_succ, List.flatten_append, ih, List.flatten_singleton, show 240 * (k + 1) = 240 * k + 240 from by omega, fix_add]
    rfl
theorem pages_flatten (t : List Nat) (h : 0 < cls t.length) : ∃ r, (pages t).flatten = Wx.num8 t.length ++ (t ++ r) := by
  have hf := cls_fits _ h
  refine ⟨List.replicate (240 * cls t.length - (all t).length) 0, ?_⟩
  unfold pages
  rw [pagesN_flatten, Wx.fix, List.take_of_length_le (by rw [all_length]; omega), all, List.append_assoc]
theorem pages_flat_le (t : List Nat) : (pages t).flatten.length ≤ 7680 := by
  have := cls_le t.length
  unfold pages
  rw [pagesN_flatten, Wx.fix_length]
  omega
/-- The text that lies in pages. -/
def un (L : List (List Nat)) : List Nat := (Wx.itext L.flatten 0).2
/-- Are these the pages of it? -/
def uok (L : List (List Nat)) : Bool := decide (0 < cls (un L).length) && (pages (un L) == L)
theorem pages_read (t : List Nat) (h : 0 < cls t.length) : ∃ r, Wx.itext (pages t).flatten 0 = ((r, 0), t) := by
  obtain ⟨r, hr⟩ := pages_flatten t h
  have hf := cls_fits _ h
  have := cls_le t.length
  exact ⟨r, by rw [hr, Wx.itext_text t r (by omega)]⟩
theorem un_pages (t : List Nat) (h : 0 < cls t.length) : un (pages t) = t := by
  obtain ⟨r, hr⟩ := pages_read t h
  unfold un
  rw [hr]
theorem uok_pages (t : List Nat) (h : 0 < cls t.length) : uok (pages t) = true := by
  unfold uok
  rw [un_pages t h]
  simp [h]
theorem uok_iff (L : List (List Nat)) : uok L = true ↔ 0 < cls (un L).length ∧ pages (un L) = L := by
  unfold uok
  simp
theorem uok_nil : uok [] = false := by decide +kernel
/-- The same, as the reference asks. -/
def rok (L : List (List Nat)) : Bool := decide (∀ l ∈ L, l.length = 240) && (decide ((Wx.itext L.flatten 0).1.2 = 0) && (pages (un L) == L))
theorem rok_uok (L : List (List Nat)) : rok L = uok L := by
  rw [Bool.eq_iff_iff, uok_iff]
  unfold rok
  simp only [Bool.and_eq_true, decide_eq_true_eq, beq_iff_eq]
  constructor
  · rintro ⟨_, h2, h3⟩
    refine ⟨?_, h3⟩
    rcases Nat.eq_zero_or_pos (cls (un L).length) with h0 | h0
    · have hn : L = [] := by
        rw [← h3]
        exact List.eq_nil_of_length_eq_zero (by rw [pages_length, h0])
      rw [hn] at h2
      exact absurd h2 (by decide +kernel)
    · exact h0
  · rintro ⟨h1, h2⟩
    obtain ⟨r, hr⟩ := pages_read (un L) h1
    rw [h2] at hr
    refine ⟨?_, ?_, h2⟩
    · rw [← h2]; exact pages_each _
    · rw [hr]
theorem pages_inj (s t : List Nat) (hs : 0 < cls s.length) (ht : 0 < cls t.length) (h : pages s = pages t) : s = t := by
  rw [← un_pages s hs, h, un_pages t ht]
end Pd
end Go.Proofs.Ytlehhalakjjnkaa
