/-
  Layer 15: rows sorted, and each once: the pure side of Clean.
-/
import Derived.Test.YtaipaifnkpgmhaaWs10
import Derived.Sort.EncStr
import Derived.Sort.Walk0
namespace Go.Proofs.Ytaipaifnkpgmhaa
open Go.ChangeShapes Go.WideShapes Go.ChangeAt Go.RowKit Go.Shelf
open Go.Lib (hid)

def bts (l : List Nat) : List UInt8 := l.map UInt8.ofNat
def nm (l : List UInt8) : List Nat := l.map UInt8.toNat
theorem bts_nm (l : List UInt8) : bts (nm l) = l := by
  unfold bts nm
  rw [List.map_map]
  conv => rhs; rw [← List.map_id l]
  apply List.map_congr_left
  intro x _
  simp
theorem nm_bts (l : List Nat) (h : ∀ x ∈ l, x < 256) : nm (bts l) = l := by
  unfold bts nm
  rw [List.map_map]
  conv => rhs; rw [← List.map_id l]
  apply List.map_congr_left
  intro x hx
  have := h x hx
  simp only [Function.comp, UInt8.toNat_ofNat', id]
  omega
theorem nm_lt (l : List UInt8) : ∀ x ∈ nm l, x < 256 := by
  intro x hx
  obtain ⟨y, _, rfl⟩ := List.mem_map.1 hx
  exact y.toNat_lt
theorem nm_inj {a b : List UInt8} (h : nm a = nm b) : a = b := by rw [← bts_nm a, ← bts_nm b, h]
theorem less_nm (a b : List UInt8) : Op.bytesLess a b = Wd.lt (nm a) (nm b) := by
  rw [← Wd.lt_bytes (nm a) (nm b) (nm_lt a) (nm_lt b)]
  show Op.bytesLess a b = Op.bytesLess (bts (nm a)) (bts (nm b))
  rw [bts_nm, bts_nm]
def leB (x y : List UInt8) : Bool := decide (x ≤ y)
theorem leB_eq (x y : List UInt8) : leB x y = !Op.bytesLess y x := by
  unfold leB
  rw [bytesLess_eq]
  by_cases h : y < x
  · rw [decide_eq_true h, decide_eq_false (by exact fun h' => h' h)]; rfl
  · rw [decide_eq_false h, decide_eq_true (by exact h)]; rfl
theorem leB_total (a b : List UInt8) : (leB a b || leB b a) = true := by
  rw [leB_eq, leB_eq, less_nm, less_nm]
  cases h : Wd.lt (nm b) (nm a) with
  | false => rfl
  | true => rw [Wd.lt_asymm h]; rfl
theorem leB_trans (a b c : List UInt8) (h1 : leB a b = true) (h2 : leB b c = true) : leB a c = true := by
  rw [leB_eq, less_nm] at *
  cases h : Wd.lt (nm c) (nm a) with
  | false => rfl
  | true =>
    rw [Bool.not_eq_true'] at h1 h2
    by_cases e : nm a = nm b
    · rw [← e] at h2; rw [h2] at h; cases h
    · have h3 := Wd.lt_tri (nm b) (nm a) (fun e' => e e'.symm) h1
      have := Wd.lt_trans h h3
      rw [h2] at this; cases this
/-- A row sorted. -/
def srt (L : List (List Nat)) : List (List UInt8) := (L.map bts).mergeSort fun x y => decide (x ≤ y)
theorem srt_length (L : List (List Nat)) : (srt L).length = L.length := by unfold srt; rw [List.length_mergeSort, List.length_map]
theorem srt_sorted (L : List (List Nat)) : (srt L).Pairwise fun a b => leB a b = true := List.pairwise_mergeSort (le := leB) leB_trans leB_total (L.map bts)
theorem mem_srt (L : List (List Nat)) (x : List UInt8) : x ∈ srt L ↔ x ∈ L.map bts := (List.mergeSort_perm (L.map bts) leB).mem_iff
/-- Of a sorted row, each once. -/
theorem compact_sorted (Z : List (List UInt8)) (hs : Z.Pairwise fun a b => leB a b = true) : ∀ m, m ≤ Z.length →
    (Lib.compactUpTo Z.toArray m).Pairwise (fun a b => Op.bytesLess a b = true) ∧ (∀ x, x ∈ Lib.compactUpTo Z.toArray m ↔ x ∈ Z.take m) := by
  intro m
  induction m with
  | zero => intro _; exact ⟨by simp [Lib.compactUpTo], by simp [Lib.compactUpTo]⟩
  | succ m ih =>
    intro hm
    obtain ⟨h1, h2⟩ := ih (by omega)
    have hlt : m < Z.length := by omega
    have hget : ∀ j, j < Z.length → Z.toArray[j]! = Z.getD j [] := fun j hj => by
      rw [getElem!_pos Z.toArray j (by simpa using hj), List.getD_eq_getElem?_getD, List.getElem?_eq_getElem hj]
      rfl
    have hge : ∀ j (hj : j < Z.length), Z.getD j [] = Z[j] := fun j hj => by rw [List.getD_eq_getElem?_getD, List.getElem?_eq_getElem hj]; rfl
    rw [Lib.compactUpTo_succ]
    by_cases hk : Lib.keeps Z.toArray m = true
    · rw [if_pos hk, hget m hlt]
      refine ⟨?_, fun x => ?_⟩
      · rw [List.pairwise_append]
        refine ⟨h1, by simp, fun a ha b hb => ?_⟩
        simp only [List.mem_singleton] at hb
        subst hb
        have hm0 : 0 < m := by
          rcases Nat.eq_zero_or_pos m with e | e
          · subst e; rw [h2] at ha; simp at ha
          · exact e
        have hne : Z.getD m [] ≠ Z.getD (m - 1) [] := by
          unfold Lib.keeps at hk
          rw [decide_eq_true_eq, hget m hlt, hget (m - 1) (by omega)] at hk
          rcases hk with h | h
          · omega
          · exact h
        obtain ⟨j, hj, rfl⟩ := List.mem_iff_getElem.1 ((h2 a).1 ha)
        rw [List.length_take] at hj
        rw [List.getElem_take]
        have hp := List.pairwise_iff_getElem.1 hs
        have h3 : leB Z[j] Z[m - 1] = true := by
          by_cases e : j = m - 1
          · subst e; have := leB_total Z[m - 1] Z[m - 1]; simpa using this
          · exact hp j (m - 1) (by omega) (by omega) (by omega)
        have h4 : leB Z[m - 1] Z[m] = true := hp (m - 1) m (by omega) hlt (by omega)
        rw [hge m hlt, hge (m - 1) (by omega)] at hne
        rw [hge m hlt]
        rw [leB_eq, Bool.not_eq_true', less_nm] at h3 h4
        rw [less_nm]
        have h5 : Wd.lt (nm Z[m - 1]) (nm Z[m]) = true := Wd.lt_tri _ _ (fun e => hne (nm_inj e)) h4
        by_cases e : nm Z[j] = nm Z[m - 1]
        · rw [e]; exact h5
        · exact Wd.lt_trans (Wd.lt_tri _ _ (fun e' => e e'.symm) h3) h5
      · rw [List.mem_append, h2, List.take_succ_eq_append_getElem hlt, List.mem_append, hge m hlt]
    · rw [if_neg hk, List.append_nil]
      refine ⟨h1, fun x => ?_⟩
      have hk' : m ≠ 0 ∧ Z.getD m [] = Z.getD (m - 1) [] := by
        unfold Lib.keeps at hk
        rw [decide_eq_true_eq, hget m hlt, hget (m - 1) (by omega)] at hk
        exact ⟨fun e => hk (Or.inl e), Classical.byContradiction fun e => hk (Or.inr e)⟩
      rw [h2, List.take_succ_eq_append_getElem hlt, List.mem_append]
      refine ⟨Or.inl, fun h => ?_⟩
      rcases h with h | h
      · exact h
      · simp only [List.mem_singleton] at h
        rw [h, ← hge m hlt, hk'.2, hge (m - 1) (by omega)]
        exact List.mem_iff_getElem.2 ⟨m - 1, by rw [List.length_take]; omega, by rw [List.getElem_take]⟩
/-- Two rising rows of the same are the same. -/
theorem rising_eq : ∀ (A B : List (List Nat)), Wd.Sorted A → Wd.Sorted B → (∀ x, x ∈ A ↔ x ∈ B) → A = B
  | [], [], _, _, _ => rfl
  | [], b :: B, _, _, h => absurd ((h b).2 (by simp)) (by simp)
  | a :: A, [], _, _, h => absurd ((h a).1 (by simp)) (by simp)
  | a :: A, b :: B, hA, hB, h => by
    unfold Wd.Sorted at hA hB
    rw [List.pairwise_cons] at hA hB
    have hab : a = b := by
      apply Classical.byContradiction
      intro hne
      have h1 : a ∈ B := by
        rcases List.mem_cons.1 ((h a).1 (by simp)) with e | e
        · exact absurd e hne
        · exact e
      have h2 : b ∈ A := by
        rcases List.mem_cons.1 ((h b).2 (by simp)) with e | e
        · exact absurd e.symm hne
        · exact e
      have := Wd.lt_trans (hA.1 b h2) (hB.1 a h1)
      rw [Wd.lt_irrefl] at this
      cases this
    subst hab
    rw [rising_eq A B hA.2 hB.2 fun x => ?_]
    constructor
    · intro hx
      rcases List.mem_cons.1 ((h x).1 (List.mem_cons_of_mem _ hx)) with e | e
      · subst e; have := hA.1 x hx; rw [Wd.lt_irrefl] at this; cases this
      · exact e
    · intro hx
      rcases List.mem_cons.1 ((h x).2 (List.mem_cons_of_mem _ hx)) with e | e
      · subst e; have := hB.1 x hx; rw [Wd.lt_irrefl] at this; cases this
      · exact e
/-- Sorted, each once: as if they were put one by one. -/
theorem compact_srt (L : List (List Nat)) (hb : ∀ l ∈ L, ∀ b ∈ l, b < 256) : (Lib.compact (srt L)).map nm = L.foldl Wd.ins [] := by
  obtain ⟨h1, h2⟩ := compact_sorted (srt L) (srt_sorted L) (srt L).length (Nat.le_refl _)
  refine rising_eq _ _ ?_ (Wd.sorted_foldl L [] List.Pairwise.nil) fun x => ?_
  · unfold Wd.Sorted
    rw [List.pairwise_map]
    refine List.Pairwise.imp (fun {a b} h => ?_) h1
    rw [← less_nm]
    exact h
  · rw [Wd.mem_foldl, List.mem_map]
    constructor
    · rintro ⟨y, hy, rfl⟩
      have := (h2 y).1 hy
      rw [List.take_length, mem_srt] at this
      obtain ⟨z, hz, rfl⟩ := List.mem_map.1 this
      rw [nm_bts z (hb z hz)]
      exact Or.inl hz
    · rintro (h | h)
      · refine ⟨bts x, (h2 _).2 ?_, nm_bts x (hb x h)⟩
        rw [List.take_length, mem_srt]
        exact List.mem_map.2 ⟨x, h, rfl⟩
      · cases h
end Go.Proofs.Ytaipaifnkpgmhaa
