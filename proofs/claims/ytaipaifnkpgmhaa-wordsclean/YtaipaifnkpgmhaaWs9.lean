/-
  Layer 15: words of texts that belong together: the pure side of WordsJoin, WordsCase, WordsTwice.
-/
import Derived.Test.YtaipaifnkpgmhaaWs8
namespace Go.Proofs.Ytaipaifnkpgmhaa
open Go.ChangeShapes Go.WideShapes Go.ChangeAt Go.RowKit Go.Shelf
open Go.Lib (hid)

namespace Wd
theorem go_join (c : Nat) (hc : pt c = false) (b : List Nat) : ∀ (a w : List Nat), go w (a ++ c :: b) = go w a ++ go [] b
  | [], w => by
    have e : go w (c :: b) = (if pt c then go (if w.length < 16 then w ++ [small c] else w) b else (if w = [] then [] else [w]) ++ go [] b) := by rw [go]
    rw [List.nil_append, e, hc, if_neg (by simp)]
    rfl
  | x :: a, w => by
    rw [List.cons_append, go, go]
    split
    · rw [go_join c hc b a]
    · rw [go_join c hc b a, List.append_assoc]
theorem seqs_join (a b : List Nat) (c : Nat) (hc : pt c = false) : seqs (a ++ c :: b) = seqs a ++ seqs b := go_join c hc b a []
theorem go_count : ∀ (t w : List Nat), 2 * (go w t).length ≤ t.length + (if w = [] then 1 else 2)
  | [], w => by rw [go]; split <;> simp
  | b :: t, w => by
    rw [go]
    split
    · have h := go_count t (if w.length < 16 then w ++ [small b] else w)
      have hne : (if w.length < 16 then w ++ [small b] else w) ≠ [] := by
        split
        · simp
        · intro e; subst e; simp at *
      rw [if_neg hne] at h
      generalize (if w.length < 16 then w ++ [small b] else w) = w' at *
      rw [List.length_cons]
      split <;> omega
    · have h := go_count t []
      rw [if_pos rfl] at h
      rw [List.length_append, List.length_cons]
      split
      · simp only [List.length_nil]; omega
      · simp only [List.length_singleton]; omega
theorem seqs_count (t : List Nat) : (seqs t).length ≤ (t.length + 1) / 2 := by
  have h := go_count t []
  rw [if_pos rfl] at h
  unfold seqs
  omega
theorem foldl_ins_length : ∀ (s l : List (List Nat)), (s.foldl ins l).length ≤ l.length + s.length
  | [], l => by simp
  | w :: s, l => by
    rw [List.foldl_cons, List.length_cons]
    have h1 := foldl_ins_length s (ins l w)
    have h2 := ins_length l w
    omega
theorem words_count (t : List Nat) : (words t).length ≤ (t.length + 1) / 2 := by
  rw [words_eq, List.length_take]
  have h1 := foldl_ins_length (seqs t) []
  have h2 := seqs_count t
  simp only [List.length_nil] at h1
  omega
/-- In a short text each sequence is a word of it. -/
theorem words_mem (t : List Nat) (h : t.length ≤ 126) (x : List Nat) : x ∈ words t ↔ x ∈ seqs t := by
  have h1 := foldl_ins_length (seqs t) []
  have h2 := seqs_count t
  simp only [List.length_nil] at h1
  rw [words_eq, List.take_of_length_le (by unfold most; omega), mem_foldl]
  simp
theorem go_map (f : Nat → Nat) (hf : ∀ b, small (f b) = small b) : ∀ (t w : List Nat), go w (t.map f) = go w t
  | [], w => rfl
  | b :: t, w => by
    rw [List.map_cons, go, go, go_map f hf t, go_map f hf t, hf b, show pt (f b) = pt b from by unfold pt; rw [hf b]]
theorem words_map (f : Nat → Nat) (hf : ∀ b, small (f b) = small b) (t : List Nat) : words (t.map f) = words t := by
  rw [words_eq, words_eq]
  unfold seqs
  rw [go_map f hf]
def up (b : Nat) : Nat := if 97 ≤ b ∧ b ≤ 122 then b - 32 else b
theorem small_small (b : Nat) : small (small b) = small b := by unfold small; split <;> (try split) <;> omega
theorem small_up (b : Nat) : small (up b) = small b := by
  unfold small up
  split
  · rw [if_pos (by omega), if_neg (by omega)]; omega
  · rfl
theorem up_lt (b : Nat) (h : b < 256) : up b < 256 := by unfold up; split <;> omega
theorem seqs_self (w : List Nat) (h : IsW w) : seqs w = [w] := by
  have hs : w.map small = w := by
    conv => rhs; rw [← List.map_id w]
    apply List.map_congr_left
    intro b hb
    have := h.2.2 b hb
    unfold part at this
    rw [decide_eq_true_eq] at this
    unfold small
    rw [if_neg (by omega)]
    rfl
  have hr := seqs_run w [] (fun b hb => by
    have := h.2.2 b hb
    have hb' : small b = b := by
      unfold part at this
      rw [decide_eq_true_eq] at this
      unfold small
      rw [if_neg (by omega)]
    unfold pt
    rw [hb']
    exact this) (by simp)
  rw [List.append_nil, if_neg h.1, List.take_of_length_le h.2.1, hs] at hr
  rw [hr]
  simp [seqs, go]
/-- All words, with blanks behind them. -/
def line (l : List (List Nat)) : List Nat := (l.map fun w => w ++ [32]).flatten
theorem line_snoc (l : List (List Nat)) (w : List Nat) : line (l ++ [w]) = line l ++ (w ++ [32]) := by simp [line]
theorem line_length (l : List (List Nat)) (h : ∀ w ∈ l, w.length ≤ 16) : (line l).length ≤ l.length * 17 := by
  induction l with
  | nil => simp [line]
  | cons w l ih =>
    have h1 := ih fun x hx => h x (List.mem_cons_of_mem _ hx)
    have h2 := h w (by simp)
    unfold line at h1 ⊢
    rw [List.map_cons, List.flatten_cons, List.length_append, List.length_append, List.length_singleton, List.length_cons]
    omega
theorem seqs_line : ∀ (l : List (List Nat)), (∀ w ∈ l, IsW w) → seqs (line l) = l
  | [], _ => rfl
  | w :: l, h => by
    have e : line (w :: l) = w ++ 32 :: line l := by simp [line]
    rw [e, seqs_join w (line l) 32 (by decide), seqs_self w (h w (by simp)), seqs_line l fun x hx => h x (List.mem_cons_of_mem _ hx)]
    rfl
theorem ins_last : ∀ (l : List (List Nat)) (w : List Nat), (∀ x ∈ l, lt x w = true) → ins l w = l ++ [w]
  | [], w, _ => rfl
  | x :: l, w, h => by
    have hx := h x (by simp)
    rw [ins, if_neg (fun e => by rw [e, lt_irrefl] at hx; cases hx), if_pos hx, ins_last l w fun y hy => h y (List.mem_cons_of_mem _ hy)]
    rfl
theorem foldl_sorted : ∀ (s l : List (List Nat)), Sorted (l ++ s) → s.foldl ins l = l ++ s
  | [], l, _ => by simp
  | w :: s, l, h => by
    have hl : ∀ x ∈ l, lt x w = true := fun x hx => (List.pairwise_append.1 h).2.2 x hx w (by simp)
    rw [List.foldl_cons, ins_last l w hl, foldl_sorted s (l ++ [w]) (by rw [List.append_assoc]; exact h), List.append_assoc]
    rfl
theorem words_line (l : List (List Nat)) (h : ∀ w ∈ l, IsW w) (hs : Sorted l) (hl : l.length ≤ 64) : words (line l) = l := by
  rw [words_eq, seqs_line l h, foldl_sorted l [] hs, List.nil_append, List.take_of_length_le (by unfold most; exact hl)]
end Wd
end Go.Proofs.Ytaipaifnkpgmhaa
