/-
  Layer 18: what a mailbox is in memory; New, isCount, areFlags, find.
-/
import Derived.Test.YtlfjhpmachblkaaKq
namespace Go.Proofs.Ytlfjhpmachblkaa
open Go.RowKit
open Go.Lib (hid)

namespace Bv
/-- An entry: its number, its flags, its mail. -/
abbrev E := Int × Int × Int
/-- How many stand ahead of this number. -/
def cnt (L : List E) (u : Int) : Nat := L.countP fun e => decide (e.1 < u)
/-- Is there an entry with this number? -/
def hit (L : List E) (u : Int) : Bool := decide (cnt L u < L.length) && decide ((L.getD (cnt L u) (0, 0, 0)).1 = u)
/-- A sum of flags. -/
def fl (n : Int) : Bool := decide (0 ≤ n) && decide (n ≤ 31)
def okc (n : Int) : Bool := decide (1 ≤ n) && decide (n ≤ 1099511627776)
theorem count_is (p : E → Bool) : ∀ (l : List E) (i : Nat), i ≤ l.length → (∀ t, t < i → p (l.getD t (0, 0, 0)) = true) → (∀ t, i ≤ t → t < l.length → p (l.getD t (0, 0, 0)) = false) → l.countP p = i
  | [], i, hi, _, _ => by simp at hi; simp [hi]
  | a :: r, 0, _, _, h2 => by
    rw [List.countP_eq_zero]
    intro x hx
    obtain ⟨t, ht, rfl⟩ := List.getElem_of_mem hx
    have := h2 t (Nat.zero_le _) ht
    rw [List.getD_eq_getElem?_getD, List.getElem?_eq_getElem ht, Option.getD_some] at this
    simp [this]
  | a :: r, i + 1, hi, h1, h2 => by
    have ha : p a = true := by simpa using h1 0 (Nat.succ_pos _)
    rw [List.countP_cons_of_pos ha, count_is p r i (by simpa using hi) (fun t ht => by simpa using h1 (t + 1) (by omega)) (fun t h3 h4 => by simpa using h2 (t + 1) (by omega) (by simpa using h4))]
/-- The numbers rise. -/
def Up (L : List E) : Prop := ∀ i j, i < j → j < L.length → (L.getD i (0, 0, 0)).1 < (L.getD j (0, 0, 0)).1
end Bv
def beC (e : Bv.E) : List Value := [.int .i64 e.1, .int .i64 e.2.1, .int .i64 e.2.2]
def besC (l : List Bv.E) : List Value := l.flatMap beC
theorem besC_length (l : List Bv.E) : (besC l).length = l.length * 3 := by
  induction l with
  | nil => rfl
  | cons x l ih => simp only [besC, List.flatMap_cons, List.length_append, List.length_cons] at ih ⊢; rw [ih]; simp [beC]; omega
theorem besC_snoc (l : List Bv.E) (e : Bv.E) : besC (l ++ [e]) = besC l ++ beC e := by simp [besC]
theorem besC_append (l k : List Bv.E) : besC (l ++ k) = besC l ++ besC k := by simp [besC]
theorem besC_get (l : List Bv.E) (i : Nat) (h : i < l.length) : (besC l)[i * 3]? = some (.int .i64 (l.getD i (0, 0, 0)).1) ∧ (besC l)[i * 3 + 1]? = some (.int .i64 (l.getD i (0, 0, 0)).2.1) ∧ (besC l)[i * 3 + 2]? = some (.int .i64 (l.getD i (0, 0, 0)).2.2) := by
  induction l generalizing i with
  | nil => simp at h
  | cons x l ih =>
    cases i with
    | zero => simp [besC, beC]
    | succ i =>
      have := ih i (by simpa using h)
      have e : besC (x :: l) = beC x ++ besC l := by simp [besC]
      have h3 : (beC x).length = 3 := rfl
      rw [e, List.getElem?_append_right (by omega), List.getElem?_append_right (by omega), List.getElem?_append_right (by omega)]
      rw [h3, show (i + 1) * 3 - 3 = i * 3 from by omega, show (i + 1) * 3 + 1 - 3 = i * 3 + 1 from by omega, show (i + 1) * 3 + 2 - 3 = i * 3 + 2 from by omega]
      simpa using this
theorem besC_one (l : List Bv.E) : ∀ u ∈ besC l, u.oneCell' = true := by
  intro u hu
  simp only [besC, List.mem_flatMap, beC, List.mem_cons, List.not_mem_nil, or_false] at hu
  obtain ⟨_, _, rfl | rfl | rfl⟩ := hu <;> rfl
/-- The slice v holds these entries, in a block of its own. -/
def OwnB (w : World) (T : TypeId) (v : Value) (l : List Bv.E) : Prop := w.ownsRow 0 T 3 v l.length (besC l)
/-- Entries that can be read. -/
def EsAt (w : World) (ao : Option Addr) (l : List Bv.E) : Prop := ∀ i, i < l.length → ∃ g, ao = some ⟨g, 0, none⟩ ∧ w.cell? ⟨g, i * 3, none⟩ = some (.int .i64 (l.getD i (0, 0, 0)).1) ∧ w.cell? ⟨g, i * 3 + 1, none⟩ = some (.int .i64 (l.getD i (0, 0, 0)).2.1) ∧ w.cell? ⟨g, i * 3 + 2, none⟩ = some (.int .i64 (l.getD i (0, 0, 0)).2.2)
theorem OwnB.es {w : World} {T : TypeId} {v : Value} {l : List Bv.E} (h : OwnB w T v l) : ∃ ao cap, v = .slice ao l.length cap ∧ EsAt w ao l := by
  obtain ⟨h1, ⟨hv, h0⟩ | ⟨g, cap, cur, hv, hg, hh, hn, _, hs, hc⟩⟩ := h
  · have hl : l = [] := List.eq_nil_of_length_eq_zero h0
    subst hl
    exact ⟨none, 0, hv, fun i hi => absurd hi (by simp)⟩
  · refine ⟨_, cap, hv, fun i hi => ⟨g, rfl, ?_⟩⟩
    have hx : ∀ j, j < l.length * 3 → cur[j]? = (besC l)[j]? := fun j hj => by
      rw [← hc, List.getElem?_take, if_pos hj, Array.getElem?_toList]
    obtain ⟨g0, g1, g2⟩ := besC_get l i hi
    refine ⟨?_, ?_, ?_⟩
    · rw [cell_of_row w g _ cur _ _ hh, hx _ (by omega), g0]
    · rw [cell_of_row w g _ cur _ _ hh, hx _ (by omega), g1]
    · rw [cell_of_row w g _ cur _ _ hh, hx _ (by omega), g2]
theorem EsAt.below {w w' : World} {ao : Option Addr} {l : List Bv.E} (h : EsAt w ao l) (hb : Below w.heap.size w w') : EsAt w' ao l := by
  intro i hi
  obtain ⟨g, h1, h2, h3, h4⟩ := h i hi
  exact ⟨g, h1, (hb.cell (block_lt_of_cell h2)).trans h2, (hb.cell (block_lt_of_cell h3)).trans h3, (hb.cell (block_lt_of_cell h4)).trans h4⟩
theorem OwnB.at {w w' : World} {T : TypeId} {v : Value} {l : List Bv.E} (h : OwnB w T v l) (hk : ∀ g, some g = v.ownBlock → w'.heap[g]? = w.heap[g]?) : OwnB w' T v l := ownsRow_at h hk
theorem OwnB.block {w : World} {T : TypeId} {v : Value} {l : List Bv.E} (h : OwnB w T v l) {k : Nat} (hk : some k = v.ownBlock) : ∃ cs, w.heap[k]? = some (.cells cs T (0, 0)) := by
  obtain ⟨_, ⟨rfl, _⟩ | ⟨g, cap, cur, rfl, _, hh, _⟩⟩ := h
  · cases hk
  · simp only [Value.ownBlock, Option.some.injEq] at hk
    subst hk
    exact ⟨cur, hh⟩
theorem OwnB.lt {w : World} {T : TypeId} {v : Value} {l : List Bv.E} (h : OwnB w T v l) {k : Nat} (hk : some k = v.ownBlock) : k < w.heap.size := by
  obtain ⟨cs, hc⟩ := h.block hk
  exact (Array.getElem?_eq_some_iff.1 hc).1
theorem OwnB.below {w w' : World} {T : TypeId} {v : Value} {l : List Bv.E} (h : OwnB w T v l) (hb : Below w.heap.size w w') : OwnB w' T v l := h.at fun g hg => hb.block g (h.lt hg)
theorem OwnB.nil (w : World) (T : TypeId) : OwnB w T (.slice none 0 0) [] := World.ownsRow_nil _ _ _ _
/-- Block b is a mailbox, whose entries are the slice v. -/
structure IsB (w : World) (b : Nat) (v : Value) (V X : Int) (L : List Bv.E) : Prop where
  row : w.heap[b]? = some (.cells #[.int .i64 V, .int .i64 X, v] 62 (0, 0))
  own : OwnB w 38 v L
/-- The mailbox's own blocks. -/
def bxB (b : Nat) (v : Value) (k : Nat) : Prop := k = b ∨ some k = v.ownBlock
section
variable {w : World} {b : Nat} {v : Value} {V X : Int} {L : List Bv.E}
theorem IsB.lt (h : IsB w b v V X L) : b < w.heap.size := (Array.getElem?_eq_some_iff.1 h.row).1
theorem IsB.ne (h : IsB w b v V X L) : some b ≠ v.ownBlock := by
  intro e
  obtain ⟨cs, hv⟩ := h.own.block e
  have := h.row
  rw [hv] at this
  injection this with e
  injection e with _ e _
  exact absurd e (by decide)
theorem IsB.kept {w' : World} {p : Nat → Prop} (h : IsB w b v V X L) (hk : KeptQ p w w') (hp : ∀ k, bxB b v k → ¬ p k) : IsB w' b v V X L :=
  ⟨(hk.block b h.lt (hp _ (Or.inl rfl))).trans h.row, h.own.at fun g hg => hk.block g (h.own.lt hg) (hp _ (Or.inr hg))⟩
theorem IsB.below {w' : World} (h : IsB w b v V X L) (hk : Below w.heap.size w w') : IsB w' b v V X L :=
  h.kept (p := fun _ => False) (KeptQ.of_below hk) (fun _ _ => id)
theorem IsB.c0 (h : IsB w b v V X L) : w.cell? ⟨b, 0, none⟩ = some (.int .i64 V) := by rw [cell_of_row _ _ _ _ _ _ h.row]; rfl
theorem IsB.c1 (h : IsB w b v V X L) : w.cell? ⟨b, 1, none⟩ = some (.int .i64 X) := by rw [cell_of_row _ _ _ _ _ _ h.row]; rfl
theorem IsB.c2 (h : IsB w b v V X L) : w.cell? ⟨b, 2, none⟩ = some v := by rw [cell_of_row _ _ _ _ _ _ h.row]; rfl
theorem IsB.fr (h : IsB w b v V X L) (i : Nat) : w.frozen? ⟨b, i, none⟩ = false := frozen_of_row _ _ _ _ _ h.row
end

set_option maxHeartbeats 1000000 in
set_option maxRecDepth 100000 in
theorem bnew_any (n k : Int) (hk : max 1 (min n 1099511627776) = k) (w : World) :
    Calls Try.prog 9 #[.int .i64 n] w fun e w' => e = .returned (.pointer (some ⟨w.heap.size, 0, none⟩)) ∧ IsB w' w.heap.size (.slice none 0 0) k 1 [] ∧ Below w.heap.size w w' := by
  obtain ⟨m, hm⟩ : ∃ m : Int, min n 1099511627776 = m := ⟨_, rfl⟩
  rw [hm] at hk
  go_enter Try.func9, Try.ntmps9
  go_wp2
  go_ret
  exact ⟨rfl, ⟨heap_alloc_new _ _, OwnB.nil _ _⟩, (Below.refl _ _).alloc (Nat.le_refl _) _⟩

set_option maxHeartbeats 1000000 in
set_option maxRecDepth 100000 in
theorem isCount_any (n : Int) (w : World) :
    Calls Try.prog 38 #[.int .i64 n] w fun e w' => e = .returned (.bool (Bv.okc n)) ∧ w' = w := by
  by_cases h1 : 1 ≤ n
  · have e1 : Bv.okc n = decide (n ≤ 1099511627776) := by unfold Bv.okc; rw [decide_eq_true h1]; rfl
    rw [e1]
    go_enter Try.func38, Try.ntmps38
    go_wp2
    go_ret
    exact ⟨rfl, rfl⟩
  · have e1 : Bv.okc n = false := by unfold Bv.okc; rw [decide_eq_false h1]; rfl
    rw [e1]
    go_enter Try.func38, Try.ntmps38
    go_wp2
    go_ret
    exact ⟨rfl, rfl⟩

set_option maxHeartbeats 1000000 in
set_option maxRecDepth 100000 in
theorem areFlags_any (ao : Option Addr) (cap : Nat) (l : List Int) (w : World) (hA : IntsB w ao l) (hl : l.length ≤ 1000) :
    Calls Try.prog 39 #[.slice ao l.length cap] w fun e w' => e = .returned (.bool (l.all Bv.fl)) ∧ w' = w := by
  have HA := hid hA
  clear hA
  go_enter Try.func39, Try.ntmps39
  go_wp2
  go_loopw [7] (fun i wr => ∃ p : Nat, p ≤ l.length ∧ i = .int .i64 p ∧ (l.take p).all Bv.fl = true ∧ wr = w) (fun i _ => l.length - (intOf i).toNat)
  case atStart => exact ⟨0, by omega, rfl, rfl, rfl⟩
  case round =>
    obtain ⟨p, hp, rfl, hall, rfl⟩ := hrel
    by_cases hlt : p < l.length
    · obtain ⟨g, o, rfl, hc⟩ := HA.out p hlt
      obtain ⟨y, hy⟩ : ∃ y, l.getD p 0 = y := ⟨_, rfl⟩
      have ht : l.take (p + 1) = l.take p ++ [y] := by rw [List.take_add_one, List.getElem?_eq_getElem hlt, ← hy, List.getD_eq_getElem?_getD, List.getElem?_eq_getElem hlt]; rfl
      rw [hy] at hc
      have HALL := hid hall
      have HT := hid ht
      have hno : y < 0 ∨ 31 < y → l.all Bv.fl = false := fun h => by
        rw [List.all_eq_false]
        refine ⟨y, ?_, by unfold Bv.fl; simp; omega⟩
        have : y ∈ l.take (p + 1) := by rw [ht]; simp
        exact List.mem_of_mem_take this
      have HNO := hid hno
      clear hall ht hno hy
      by_cases h1 : y < 0
      · go_wp2
        go_ret
        exact ⟨by rw [HNO.out (Or.inl h1)]; rfl, rfl⟩
      · by_cases h2 : 31 < y
        · go_wp2
          go_ret
          exact ⟨by rw [HNO.out (Or.inr h2)]; rfl, rfl⟩
        · go_wp2
          exact ⟨⟨p + 1, by omega, by go_num, by rw [HT.out, List.all_append, HALL.out]; unfold Bv.fl; simp; omega, by trivial⟩, by simp [intOf]; omega⟩
    · obtain rfl : p = l.length := by omega
      rw [List.take_length] at hall
      have HALL := hid hall
      clear hall
      go_wp2
      go_ret
      exact ⟨by rw [HALL.out]; rfl, rfl⟩
end Go.Proofs.Ytlfjhpmachblkaa
