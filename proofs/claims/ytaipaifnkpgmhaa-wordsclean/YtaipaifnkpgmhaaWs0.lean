/-
  Layer 15: words as lists of numbers: the pure side.
-/
import Derived.Test.YtaipaifnkpgmhaaBase
namespace Go.Proofs.Ytaipaifnkpgmhaa
open Go.Lib (hid)

namespace Wd
/-- A small letter for a capital one. -/
def small (b : Nat) : Nat := if 65 ≤ b ∧ b ≤ 90 then b + 32 else b
/-- Can a word have this byte? -/
def part (b : Nat) : Bool := decide (97 ≤ b ∧ b ≤ 122 ∨ 48 ≤ b ∧ b ≤ 57)
def pt (b : Nat) : Bool := part (small b)
/-- The sequences of a text, byte by byte: w is the one under way. -/
def go : List Nat → List Nat → List (List Nat)
  | w, [] => if w = [] then [] else [w]
  | w, b :: t => if pt b then go (if w.length < 16 then w ++ [small b] else w) t else (if w = [] then [] else [w]) ++ go [] t
def seqs (t : List Nat) : List (List Nat) := go [] t
theorem go_run (r t : List Nat) (hr : ∀ b ∈ r, pt b = true) : ∀ w : List Nat, w.length ≤ 16 → go w (r ++ t) = go ((w ++ r.map small).take 16) t := by
  induction r with
  | nil => intro w hw; simp [List.take_of_length_le hw]
  | cons b r ih =>
    intro w hw
    rw [List.cons_append, go, if_pos (hr b (by simp))]
    rw [ih (fun b hb => hr b (List.mem_cons_of_mem _ hb)) _ (by split <;> (try simp only [List.length_append, List.length_cons, List.length_nil]) <;> omega)]
    congr 1
    split
    · simp
    · have hw' : w.length = 16 := by omega
      rw [List.take_append_of_le_length (by omega), List.take_append_of_le_length (by omega)]
theorem small_pt (b : Nat) (h : pt b = true) : part (small b) = true := h
/-- One sequence, and what is behind it. -/
theorem seqs_run (r t : List Nat) (hr : ∀ b ∈ r, pt b = true) (ht : ∀ b, t.head? = some b → pt b = false) :
    seqs (r ++ t) = (if r = [] then [] else [(r.take 16).map small]) ++ seqs t.tail := by
  unfold seqs
  rw [go_run r t hr [] (by simp), List.nil_append, List.map_take]
  cases t with
  | nil =>
    simp only [go, List.tail_nil]
    cases r <;> simp
  | cons b t =>
    rw [go, if_neg (by rw [ht b rfl]; simp)]
    simp only [List.tail_cons]
    cases r <;> simp
/-- The order of texts. -/
def lt : List Nat → List Nat → Bool
  | [], [] => false
  | [], _ :: _ => true
  | _ :: _, [] => false
  | a :: l, b :: r => if a = b then lt l r else decide (a < b)
theorem lt_irrefl : ∀ l, lt l l = false
  | [] => rfl
  | a :: l => by simp [lt, lt_irrefl l]
theorem lt_trans : ∀ {a b c : List Nat}, lt a b = true → lt b c = true → lt a c = true
  | [], [], _, h, _ => by simp [lt] at h
  | [], _ :: _, [], _, h => by simp [lt] at h
  | [], _ :: _, _ :: _, _, _ => rfl
  | _ :: _, [], _, h, _ => by simp [lt] at h
  | _ :: _, _ :: _, [], _, h => by simp [lt] at h
  | x :: a, y :: b, z :: c, h, k => by
    simp only [lt] at h k ⊢
    split at h
    · split at k
      · rw [if_pos (by omega)]; exact lt_trans h k
      · have k' : y < z := by simpa using k
        rw [if_neg (by omega), decide_eq_true_eq]; omega
    · split at k
      · rw [if_neg (by omega)]
        have h' : x < y := by simpa using h
        rw [decide_eq_true_eq]; omega
      · have h' : x < y := by simpa using h
        have k' : y < z := by simpa using k
        rw [if_neg (by omega), decide_eq_true_eq]; omega
theorem lt_tri : ∀ (a b : List Nat), a ≠ b → lt a b = false → lt b a = true
  | [], [], h, _ => absurd rfl h
  | [], _ :: _, _, h => by simp [lt] at h
  | _ :: _, [], _, _ => rfl
  | x :: a, y :: b, h, k => by
    simp only [lt] at k ⊢
    split at k
    · rename_i he
      rw [if_pos he.symm]
      exact lt_tri a b (fun e => h (by rw [he, e])) k
    · rename_i he
      rw [if_neg (fun e => he e.symm)]
      have k' : ¬ x < y := by simpa using k
      rw [decide_eq_true_eq]; omega
theorem lt_asymm {a b : List Nat} (h : lt a b = true) : lt b a = false := by
  cases k : lt b a with
  | false => rfl
  | true => have := lt_trans h k; rw [lt_irrefl] at this; cases this
/-- A word more, in its place, once. -/
def ins : List (List Nat) → List Nat → List (List Nat)
  | [], w => [w]
  | x :: l, w => if x = w then x :: l else if lt x w then x :: ins l w else w :: x :: l
theorem take_ins : ∀ (n : Nat) (l : List (List Nat)) (w : List Nat), (ins l w).take n = (ins (l.take n) w).take n
  | 0, _, _ => by simp
  | n + 1, [], w => by simp
  | n + 1, x :: l, w => by
    simp only [List.take_succ_cons, ins]
    split
    · simp [List.take_take]
    · split
      · rw [List.take_succ_cons, List.take_succ_cons, take_ins n l w]
      · rw [List.take_succ_cons, List.take_succ_cons]
        cases n with
        | zero => simp
        | succ n => simp [List.take_take]
def most : Nat := 64
def put (l : List (List Nat)) (w : List Nat) : List (List Nat) := (ins l w).take most
theorem foldl_put : ∀ (s : List (List Nat)) (l : List (List Nat)), s.foldl put (l.take most) = (s.foldl ins l).take most
  | [], l => rfl
  | w :: s, l => by
    rw [List.foldl_cons, List.foldl_cons]
    have : put (l.take most) w = (ins l w).take most := by unfold put; rw [← take_ins]
    rw [this, foldl_put s]
/-- The words of a text. -/
def words (t : List Nat) : List (List Nat) := (seqs t).foldl put []
theorem words_eq (t : List Nat) : words t = ((seqs t).foldl ins []).take most := by
  rw [← foldl_put]; rfl
def Sorted (l : List (List Nat)) : Prop := l.Pairwise fun a b => lt a b = true
theorem mem_ins : ∀ (l : List (List Nat)) (w x : List Nat), x ∈ ins l w ↔ x = w ∨ x ∈ l
  | [], w, x => by simp [ins]
  | y :: l, w, x => by
    simp only [ins]
    split
    · rename_i h; subst h; simp
    · split
      · simp only [List.mem_cons, mem_ins l w x]
        constructor
        · rintro (h | h | h) <;> simp [h]
        · rintro (h | h | h) <;> simp [h]
      · simp
theorem sorted_ins : ∀ (l : List (List Nat)) (w : List Nat), Sorted l → Sorted (ins l w)
  | [], w, _ => by simp [ins, Sorted]
  | y :: l, w, h => by
    unfold Sorted at h
    rw [List.pairwise_cons] at h
    simp only [ins]
    split
    · exact List.pairwise_cons.2 h
    · split
      · rename_i hne hlt
        refine List.pairwise_cons.2 ⟨fun x hx => ?_, sorted_ins l w h.2⟩
        rcases (mem_ins l w x).1 hx with rfl | hx
        · exact hlt
        · exact h.1 x hx
      · rename_i hne hlt
        have hwy : lt w y = true := lt_tri y w hne (by simpa using hlt)
        refine List.pairwise_cons.2 ⟨fun x hx => ?_, List.pairwise_cons.2 h⟩
        rcases List.mem_cons.1 hx with rfl | hx
        · exact hwy
        · exact lt_trans hwy (h.1 x hx)
theorem sorted_take (l : List (List Nat)) (n : Nat) (h : Sorted l) : Sorted (l.take n) := h.sublist (List.take_sublist n l)
theorem sorted_foldl : ∀ (s : List (List Nat)) (l : List (List Nat)), Sorted l → Sorted (s.foldl ins l)
  | [], _, h => h
  | w :: s, l, h => sorted_foldl s _ (sorted_ins l w h)
theorem sorted_words (t : List Nat) : Sorted (words t) := by
  rw [words_eq]; exact sorted_take _ _ (sorted_foldl _ _ List.Pairwise.nil)
/-- Where a word would come: ahead of what isn't less. -/
def pos (l : List (List Nat)) (w : List Nat) : Nat := (l.takeWhile fun x => lt x w).length
theorem pos_le (l : List (List Nat)) (w : List Nat) : pos l w ≤ l.length := by
  unfold pos
  exact (List.takeWhile_sublist _).length_le
theorem pos_lt (l : List (List Nat)) (w : List Nat) (i : Nat) (h : i < pos l w) : lt (l.getD i []) w = true := by
  induction l generalizing i with
  | nil => simp [pos] at h
  | cons x l ih =>
    unfold pos at h ih
    rw [List.takeWhile_cons] at h
    split at h
    · cases i with
      | zero => simpa using ‹lt x w = true›
      | succ i => simpa using ih i (by simpa using h)
    · simp at h
theorem pos_ge (l : List (List Nat)) (w : List Nat) (hs : Sorted l) (i : Nat) (h : pos l w ≤ i) (hi : i < l.length) : lt (l.getD i []) w = false := by
  induction l generalizing i with
  | nil => simp at hi
  | cons x l ih =>
    unfold Sorted at hs
    rw [List.pairwise_cons] at hs
    unfold pos at h ih
    rw [List.takeWhile_cons] at h
    split at h
    · cases i with
      | zero => simp at h
      | succ i => simpa using ih hs.2 i (by simpa using h) (by simpa using hi)
    · rename_i hx
      cases i with
      | zero => simpa using hx
      | succ i =>
        have hi' : i < l.length := by simpa using hi
        have hxi : lt x (l.getD i []) = true := hs.1 _ (by rw [List.getD_eq_getElem?_getD, List.getElem?_eq_getElem hi']; exact List.getElem_mem hi')
        rw [List.getD_cons_succ]
        cases k : lt (l.getD i []) w with
        | false => rfl
        | true => exact absurd (lt_trans hxi k) hx
theorem ins_at : ∀ (l : List (List Nat)) (w : List Nat), Sorted l → ins l w = if pos l w < l.length ∧ l.getD (pos l w) [] = w then l else l.take (pos l w) ++ [w] ++ l.drop (pos l w)
  | [], w, _ => by simp [ins, pos]
  | x :: l, w, hs => by
    unfold Sorted at hs
    rw [List.pairwise_cons] at hs
    have ih := ins_at l w hs.2
    unfold pos at ih ⊢
    rw [List.takeWhile_cons, ins]
    by_cases hx : x = w
    · subst hx
      rw [if_pos rfl, lt_irrefl]
      simp
    · rw [if_neg hx]
      by_cases hl : lt x w = true
      · rw [if_pos hl, if_pos hl, ih]
        simp only [List.length_cons, List.getD_cons_succ, Nat.add_lt_add_iff_right, List.take_succ_cons, List.drop_succ_cons]
        split <;> simp
      · rw [if_neg hl, if_neg hl]
        simp [hx]
theorem put_length (l : List (List Nat)) (w : List Nat) : (put l w).length ≤ 64 := by unfold put most; rw [List.length_take]; omega
/-- What a sequence is. -/
def IsW (w : List Nat) : Prop := w ≠ [] ∧ w.length ≤ 16 ∧ ∀ b ∈ w, part b = true
theorem go_isW (t : List Nat) : ∀ w : List Nat, w.length ≤ 16 → (∀ b ∈ w, part b = true) → ∀ x ∈ go w t, IsW x := by
  induction t with
  | nil =>
    intro w h1 h2 x hx
    simp only [go] at hx
    split at hx
    · cases hx
    · simp only [List.mem_singleton] at hx; subst hx; exact ⟨‹_›, h1, h2⟩
  | cons b t ih =>
    intro w h1 h2 x hx
    rw [go] at hx
    split at hx
    · rename_i hb
      refine ih _ ?_ ?_ x hx
      · split <;> (try simp only [List.length_append, List.length_cons, List.length_nil]) <;> omega
      · intro y hy
        split at hy
        · rcases List.mem_append.1 hy with h | h
          · exact h2 y h
          · simp only [List.mem_singleton] at h; subst h; exact hb
        · exact h2 y hy
    · rcases List.mem_append.1 hx with h | h
      · split at h
        · cases h
        · simp only [List.mem_singleton] at h; subst h; exact ⟨‹_›, h1, h2⟩
      · exact ih [] (by simp) (by simp) x h
theorem seqs_isW (t : List Nat) : ∀ x ∈ seqs t, IsW x := go_isW t [] (by simp) (by simp)
theorem mem_foldl : ∀ (s : List (List Nat)) (l : List (List Nat)) (x : List Nat), x ∈ s.foldl ins l ↔ x ∈ s ∨ x ∈ l
  | [], l, x => by simp
  | w :: s, l, x => by
    rw [List.foldl_cons, mem_foldl s, mem_ins]
    simp only [List.mem_cons]
    constructor
    · rintro (h | h | h) <;> simp [h]
    · rintro ((h | h) | h) <;> simp [h]
theorem words_isW (t : List Nat) : ∀ x ∈ words t, IsW x := by
  intro x hx
  rw [words_eq] at hx
  have := List.mem_of_mem_take hx
  rw [mem_foldl] at this
  rcases this with h | h
  · exact seqs_isW t x h
  · cases h
theorem words_length (t : List Nat) : (words t).length ≤ 64 := by
  rw [words_eq, List.length_take]; unfold most; omega
theorem small_lt (b : Nat) (h : b < 256) : small b < 256 := by unfold small; split <;> omega
theorem part_lt (b : Nat) (h : part b = true) : b < 128 := by unfold part at h; rw [decide_eq_true_eq] at h; omega
theorem lt_bytes : ∀ (a b : List Nat), (∀ x ∈ a, x < 256) → (∀ x ∈ b, x < 256) → Op.bytesLess (a.map UInt8.ofNat) (b.map UInt8.ofNat) = lt a b
  | [], [], _, _ => rfl
  | [], _ :: _, _, _ => rfl
  | _ :: _, [], _, _ => rfl
  | x :: a, y :: b, ha, hb => by
    have hx := ha x (by simp)
    have hy := hb y (by simp)
    have ih := lt_bytes a b (fun z hz => ha z (List.mem_cons_of_mem _ hz)) (fun z hz => hb z (List.mem_cons_of_mem _ hz))
    simp only [List.map_cons, Op.bytesLess, lt, ih]
    by_cases h : x = y
    · subst h
      rw [if_pos rfl]
      simp
    · rw [if_neg h]
      have h1 : (UInt8.ofNat x == UInt8.ofNat y) = false := by
        rw [beq_eq_false_iff_ne]
        intro e
        have := congrArg UInt8.toNat e
        simp only [UInt8.toNat_ofNat'] at this
        omega
      rw [h1, Bool.false_and, Bool.or_false]
      have h2 : (UInt8.ofNat x < UInt8.ofNat y) ↔ x < y := by
        rw [UInt8.lt_iff_toNat_lt]
        simp only [UInt8.toNat_ofNat']
        rw [Nat.mod_eq_of_lt (by omega), Nat.mod_eq_of_lt (by omega)]
      exact decide_eq_decide.2 h2
theorem words_lt (t : List Nat) : ∀ x ∈ words t, ∀ b ∈ x, b < 256 := fun x hx b hb => by have := part_lt b ((words_isW t x hx).2.2 b hb); omega
end Wd
end Go.Proofs.Ytaipaifnkpgmhaa
