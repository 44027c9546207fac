/-
  Layer 9, law DiskCrashes: the pure side.
-/
import Derived.Test.YtkhkpcigjpibiaaDk19
namespace Go.Proofs.Ytkhkpcigjpibiaa
open Go.ChangeShapes Go.WideShapes Go.ChangeAt Go.RowKit Go.Shelf
open Go.Lib (hid)

namespace Dv
/-- What the mask keeps of a row of writes. -/
def keepP (s : List ByteArray × Nat) (q : O) : List ByteArray × Nat := (if s.2 % 2 = 1 then put s.1 q else s.1, s.2 / 2)
def keptP (P : List ByteArray) (m : Nat) (W : List O) : List ByteArray := (W.foldl keepP (P, m)).1
theorem keepP_snd (W : List O) : ∀ (P : List ByteArray) (m : Nat), (W.foldl keepP (P, m)).2 = m / 2 ^ W.length := by
  induction W with
  | nil => intro P m; simp
  | cons q W ih =>
    intro P m
    rw [List.foldl_cons]
    unfold keepP at ih ⊢
    rw [ih, List.length_cons, Nat.pow_succ, Nat.mul_comm, Nat.div_div_eq_div_mul]
theorem keptP_snoc (P : List ByteArray) (m : Nat) (W : List O) (q : O) : keptP P m (W ++ [q]) = if m / 2 ^ W.length % 2 = 1 then put (keptP P m W) q else keptP P m W := by
  unfold keptP
  rw [List.foldl_append, List.foldl_cons, List.foldl_nil]
  have e : ∀ s : List ByteArray × Nat, (keepP s q).1 = if s.2 % 2 = 1 then put s.1 q else s.1 := fun _ => rfl
  rw [e, keepP_snd]
theorem keptP_length (P : List ByteArray) (m : Nat) (W : List O) : (keptP P m W).length = P.length := by
  unfold keptP
  induction W generalizing P m with
  | nil => rfl
  | cons q W ih =>
    rw [List.foldl_cons]
    unfold keepP at ih ⊢
    rw [ih]
    simp only
    split
    · simp [put]
    · rfl
theorem keep_fold : ∀ (l : List O) (D : D) (m : Nat), D.Q = l → (l.foldl keep (D, m)).1 = { D with P := (l.foldl keepP (D.P, m)).1, Q := [] } := by
  intro l
  induction l with
  | nil => intro D m h; obtain ⟨_, _, Q, _, _, _, _, _, _, _⟩ := D; simp only at h; subst h; rfl
  | cons q r ih =>
    intro D m h
    rw [List.foldl_cons, List.foldl_cons]
    have e : keep (D, m) q = ({ D with P := (keepP (D.P, m) q).1, Q := r }, (keepP (D.P, m) q).2) := by
      unfold keep keepP settle put
      simp only [h, List.tail_cons]
      split <;> rfl
    rw [e, ih _ _ rfl]
theorem settle_fold : ∀ (l : List O) (D : D), D.Q = l → l.foldl settle D = { D with P := l.foldl put D.P, Q := [] } := by
  intro l
  induction l with
  | nil => intro D h; obtain ⟨_, _, Q, _, _, _, _, _, _, _⟩ := D; simp only at h; subst h; rfl
  | cons q r ih =>
    intro D h
    rw [List.foldl_cons, List.foldl_cons]
    have e : settle D q = { D with P := put D.P q, Q := r } := by
      unfold settle put
      simp only [h, List.tail_cons]
    rw [e, ih _ rfl]
/-- Behind the writes W, none of which is flushed. -/
structure C1 (W : List O) (D : D) : Prop where
  q : D.Q = W
  p : D.P = List.replicate 6 zs
  cap : D.cap = 200
  left : D.left = -1
  cr : D.crashed = false
  steps : D.steps = W.length
  view : D.view.length = W.length
  mask : D.mask = 0
theorem C1.new (pc : Nat) : C1 [] (new 6 200 pc) := ⟨rfl, rfl, rfl, rfl, rfl, rfl, rfl, rfl⟩
theorem C1.fit {W : List O} {D : D} (h : C1 W D) (hl : W.length < 4000) : Fit D := ⟨by rw [h.mask]; decide, by rw [h.left]; decide, by rw [h.steps]; exact hl, by rw [h.view, h.steps]⟩
theorem C1.write {W : List O} {D : D} (h : C1 W D) (hl : W.length < 100) (p : Nat) (hp : p < 6) (s : ByteArray) (hs : s.size = 256) :
    (Dv.write D (p : Int) s).2 = 0 ∧ C1 (W ++ [(1, p, s)]) (Dv.write D (p : Int) s).1 := by
  have h0 : Dv.refuses D (p : Int) = 0 := by
    unfold Dv.refuses
    rw [h.cr, if_neg (by simp), if_pos]
    rw [h.p, List.length_replicate]
    omega
  have hst : Dv.step D (1, p, s) = ({ D with view := D.view ++ [(1, p, s)], steps := D.steps + 1 }, true) := by
    unfold Dv.step
    rw [h.left, if_neg (by decide)]
    rw [if_neg (by decide), ← h.left]
  have hw : Dv.write D (p : Int) s = ({ D with view := D.view ++ [(1, p, s)], steps := D.steps + 1, Q := D.Q ++ [(1, p, s)] }, 0) := by
    unfold Dv.write
    rw [h0, if_neg (by simp), if_neg (by simp [hs]), Int.toNat_natCast, hst, if_neg (by simp)]
    unfold add
    rw [if_pos (by simp only; rw [h.q, h.cap]; omega)]
  rw [hw]
  exact ⟨rfl, by simp [h.q], h.p, h.cap, h.left, h.cr, by simp [h.steps], by simp [h.view], h.mask⟩
/-- Behind the writes W at an armed disk whose stable pages were P0. -/
structure C2 (P0 : List ByteArray) (k st m : Nat) (W : List O) (D : D) : Prop where
  live : W.length ≤ st → D.Q = W ∧ D.P = P0 ∧ D.crashed = false ∧ D.left = ((st - W.length : Nat) : Int)
  dead : st < W.length → D.Q = [] ∧ D.P = keptP P0 m (W.take st) ∧ D.crashed = true ∧ D.left = 0
  cap : D.cap = 200
  mask : D.mask = m
  steps : D.steps ≤ 1 + k + W.length
  view : D.view.length = D.steps
theorem C1.armed {W : List O} {D : D} (h : C1 W D) (st m : Nat) : (flush D).2 = 0 ∧ C2 (W.foldl put (List.replicate 6 zs)) W.length st m [] { (flush D).1 with left := max (-1) (st : Int), mask := m } := by
  have hst : Dv.step D (2, 0, ⟨#[]⟩) = ({ D with view := D.view ++ [(2, 0, ⟨#[]⟩)], steps := D.steps + 1 }, true) := by
    unfold Dv.step
    rw [h.left, if_neg (by decide)]
    rw [if_neg (by decide), ← h.left]
  have hw : Dv.flush D = ({ D with view := D.view ++ [(2, 0, ⟨#[]⟩)], steps := D.steps + 1, P := W.foldl put D.P, Q := [] }, 0) := by
    unfold Dv.flush
    rw [h.cr, if_neg (by simp), hst, if_neg (by simp)]
    unfold flushed
    rw [settle_fold _ _ rfl]
    simp only [h.q, h.cr]
  rw [hw]
  refine ⟨rfl, fun _ => ⟨rfl, by simp only; rw [h.p], h.cr, by simp only [List.length_nil, Nat.sub_zero]; omega⟩, fun hlt => absurd hlt (by simp), h.cap, rfl, by simp only [h.steps, List.length_nil]; omega, by simp only [List.length_append, List.length_cons, List.length_nil, h.view, h.steps]⟩
theorem C1.flushFit {W : List O} {D : D} (h : C1 W D) : (flush D).1.cap = 200 ∧ (flush D).1.P.length = 6 := by
  have := (h.armed 0 0).2
  have hl := (this.live (by simp)).2.1
  exact ⟨this.cap, by rw [show (flush D).1.P = _ from hl, foldl_put_length]; simp⟩
theorem C2.fit {P0 : List ByteArray} {k st m : Nat} {W : List O} {D : D} (h : C2 P0 k st m W D) (hk : k < 1000) (hW : W.length < 1000) (hm : m < 2 ^ 64) (hs : st < 1000) : Fit D := by
  refine ⟨by rw [h.mask]; exact hm, ?_, by have := h.steps; omega, h.view⟩
  by_cases hl : W.length ≤ st
  · rw [(h.live hl).2.2.2]; omega
  · rw [(h.dead (by omega)).2.2.2]; decide
theorem C2.len {P0 : List ByteArray} {k st m : Nat} {W : List O} {D : D} (h : C2 P0 k st m W D) : D.P.length = P0.length := by
  by_cases hl : W.length ≤ st
  · rw [(h.live hl).2.1]
  · rw [(h.dead (by omega)).2.1, keptP_length]
theorem C2.crashed {P0 : List ByteArray} {k st m : Nat} {W : List O} {D : D} (h : C2 P0 k st m W D) : D.crashed = decide (st < W.length) := by
  by_cases hl : W.length ≤ st
  · rw [(h.live hl).2.2.1, decide_eq_false (by omega)]
  · rw [(h.dead (by omega)).2.2.1, decide_eq_true (by omega)]
theorem C2.write {P0 : List ByteArray} {k st m : Nat} {W : List O} {D : D} (h : C2 P0 k st m W D) (h6 : P0.length = 6) (hl : W.length < 100) (p : Nat) (hp : p < 6) (s : ByteArray) (hs : s.size = 256) :
    (Dv.write D (p : Int) s).2 = (if W.length < st then 0 else 11) ∧ C2 P0 k st m (W ++ [(1, p, s)]) (Dv.write D (p : Int) s).1 := by
  by_cases hd : st < W.length
  · obtain ⟨hq, hP, hc, hleft⟩ := h.dead hd
    have h0 : Dv.refuses D (p : Int) = 11 := by
      unfold Dv.refuses
      rw [hc, if_pos rfl]
    have hw : Dv.write D (p : Int) s = (D, 11) := by
      unfold Dv.write
      rw [h0, if_pos (by simp)]
    rw [hw]
    refine ⟨by rw [if_neg (by omega)], fun hle => absurd hle (by simp; omega), fun _ => ⟨hq, ?_, hc, hleft⟩, h.cap, h.mask, by have := h.steps; simp only [List.length_append, List.length_cons, List.length_nil]; omega, h.view⟩
    rw [hP, List.take_append_of_le_length (by omega)]
  · obtain ⟨hq, hP, hc, hleft⟩ := h.live (by omega)
    have h0 : Dv.refuses D (p : Int) = 0 := by
      unfold Dv.refuses
      rw [hc, if_neg (by simp), if_pos]
      rw [hP, h6]
      omega
    by_cases he : W.length = st
    · have hl0 : D.left = 0 := by rw [hleft, he, Nat.sub_self]; rfl
      have hw : Dv.write D (p : Int) s = (crash D, 11) := by
        unfold Dv.write
        rw [h0, if_neg (by simp), if_neg (by simp [hs]), Int.toNat_natCast]
        unfold Dv.step
        rw [if_pos hl0, if_pos rfl]
      have hcr : crash D = { D with P := keptP P0 m W, Q := [], crashed := true } := by
        unfold crash
        rw [keep_fold _ _ _ rfl]
        simp only [hq, hP, h.mask]
        rfl
      rw [hw, hcr]
      refine ⟨by rw [if_neg (by omega)], fun hle => absurd hle (by simp; omega), fun _ => ⟨rfl, ?_, rfl, hl0⟩, h.cap, h.mask, by have := h.steps; simp only [List.length_append, List.length_cons, List.length_nil]; omega, h.view⟩
      rw [List.take_append_of_le_length (by omega), ← he, List.take_length]
    · have hlt : W.length < st := by omega
      have hst : Dv.step D (1, p, s) = ({ D with left := D.left - 1, view := D.view ++ [(1, p, s)], steps := D.steps + 1 }, true) := by
        unfold Dv.step
        rw [if_neg (by rw [hleft]; omega), if_pos (by rw [hleft]; omega)]
      have hw : Dv.write D (p : Int) s = ({ D with left := D.left - 1, view := D.view ++ [(1, p, s)], steps := D.steps + 1, Q := D.Q ++ [(1, p, s)] }, 0) := by
        unfold Dv.write
        rw [h0, if_neg (by simp), if_neg (by simp [hs]), Int.toNat_natCast, hst, if_neg (by simp)]
        unfold add
        rw [if_pos (by simp only; rw [hq, h.cap]; omega)]
      rw [hw]
      refine ⟨by rw [if_pos hlt], fun _ => ⟨by simp [hq], hP, hc, ?_⟩, fun hlt' => absurd hlt' (by simp; omega), h.cap, h.mask, by have := h.steps; simp only [List.length_append, List.length_cons, List.length_nil]; omega, by simp [h.view]⟩
      simp only [List.length_append, List.length_cons, List.length_nil]
      rw [hleft]
      omega
end Dv
end Go.Proofs.Ytkhkpcigjpibiaa
