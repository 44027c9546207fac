/-
  Layer 9, law DiskSees: the pure side, and what the walk keeps.
-/
import Derived.Test.YtkhkpcigjpibiaaDk21
namespace Go.Proofs.Ytkhkpcigjpibiaa
open Go.ChangeShapes Go.WideShapes Go.ChangeAt Go.RowKit Go.Shelf
open Go.Lib (hid)

namespace Dv
theorem last_set (P : List ByteArray) (o : O) (q : Nat) (ho : o.2.1 < P.length) : (P.set o.2.1 o.2.2).getD q ByteArray.empty = last q (P.getD q ByteArray.empty) o := by
  unfold last
  rw [List.getD_eq_getElem?_getD, List.getD_eq_getElem?_getD, List.getElem?_set]
  by_cases h : o.2.1 = q
  · subst h
    rw [if_pos rfl, if_pos ho, if_pos rfl]
    rfl
  · rw [if_neg h, if_neg h]
theorem last_foldl : ∀ (l : List O) (P : List ByteArray) (q : Nat), (∀ o ∈ l, o.2.1 < P.length) → (l.foldl put P).getD q ByteArray.empty = l.foldl (last q) (P.getD q ByteArray.empty)
  | [], _, _, _ => rfl
  | o :: l, P, q, h => by
    rw [List.foldl_cons, List.foldl_cons, last_foldl l (put P o) q (fun x hx => by unfold put; rw [List.length_set]; exact h x (List.mem_cons_of_mem _ hx)), ← last_set P o q (h o (by simp))]
    rfl
theorem settle_all : ∀ (l : List O) (D : D), D.Q = l → l.foldl settle D = { D with P := l.foldl put D.P, Q := [] } := by
  intro l
  induction l with
  | nil => intro D h; obtain ⟨_, _, Q, _, _, _, _, _, _, _⟩ := D; simp only at h; subst h; rfl
  | cons q r ih =>
    intro D h
    rw [List.foldl_cons, List.foldl_cons]
    have e : settle D q = { D with P := put D.P q, Q := r } := by
      unfold settle put
      simp only [h, List.tail_cons]
    rw [e, ih _ rfl]
/-- What is seen of a disk behind k steps. -/
structure See (want : List ByteArray) (k : Nat) (D : D) : Prop where
  rd : ∀ q, q < 8 → D.Q.foldl (last q) (D.P.getD q ByteArray.empty) = want.getD q ByteArray.empty
  cap : D.cap = 3
  left : D.left = -1
  cr : D.crashed = false
  steps : D.steps = k
  view : D.view.length = k
  mask : D.mask = 0
  plen : D.P.length = 8
  qlen : D.Q.length ≤ 3
  okQ : ∀ o ∈ D.Q, o.2.1 < 8
theorem See.new (pc : Nat) : See (List.replicate 8 zs) 0 (new 8 3 pc) := ⟨fun _ _ => rfl, rfl, rfl, rfl, rfl, rfl, rfl, by simp [Dv.new], by simp [Dv.new], by simp [Dv.new]⟩
theorem See.fit {want : List ByteArray} {k : Nat} {D : D} (h : See want k D) (hk : k < 4000) : Fit D := ⟨by rw [h.mask]; decide, by rw [h.left]; decide, by rw [h.steps]; exact hk, by rw [h.view, h.steps]⟩
theorem See.step {want : List ByteArray} {k : Nat} {D : D} (h : See want k D) (o : O) : Dv.step D o = ({ D with view := D.view ++ [o], steps := D.steps + 1 }, true) := by
  unfold Dv.step
  rw [h.left, if_neg (by decide)]
  rw [if_neg (by decide), ← h.left]
theorem See.write {want : List ByteArray} {k : Nat} {D : D} (h : See want k D) (hw : want.length = 8) (p : Nat) (hp : p < 8) (s : ByteArray) (hs : s.size = 256) :
    (Dv.write D (p : Int) s).2 = 0 ∧ See (want.set p s) (k + 1) (Dv.write D (p : Int) s).1 := by
  have h0 : Dv.refuses D (p : Int) = 0 := by
    unfold Dv.refuses
    rw [h.cr, if_neg (by simp), if_pos]
    rw [h.plen]
    omega
  have hset : ∀ q, q < 8 → (want.set p s).getD q ByteArray.empty = last q (want.getD q ByteArray.empty) (1, p, s) := fun q _ => last_set want (1, p, s) q (by rw [hw]; exact hp)
  have hwr : Dv.write D (p : Int) s = (add { D with view := D.view ++ [(1, p, s)], steps := D.steps + 1 } (1, p, s), 0) := by
    unfold Dv.write
    rw [h0, if_neg (by simp), if_neg (by simp [hs]), Int.toNat_natCast, h.step, if_neg (by simp)]
  rw [hwr]
  refine ⟨rfl, ?_⟩
  by_cases hq : D.Q.length < 3
  · have hD : add { D with view := D.view ++ [(1, p, s)], steps := D.steps + 1 } (1, p, s) = { D with view := D.view ++ [(1, p, s)], steps := D.steps + 1, Q := D.Q ++ [(1, p, s)] } := by
      unfold add
      rw [if_pos (by simp only; rw [h.cap]; exact hq)]
    rw [hD]
    refine ⟨fun q hq8 => ?_, h.cap, h.left, h.cr, by simp [h.steps], by simp [h.view], h.mask, h.plen, by simp; omega, ?_⟩
    · simp only [List.foldl_append, List.foldl_cons, List.foldl_nil]
      rw [h.rd q hq8, hset q hq8]
    · intro o ho
      rcases List.mem_append.1 ho with h1 | h1
      · exact h.okQ o h1
      · simp only [List.mem_singleton] at h1; rw [h1]; exact hp
  · obtain ⟨q0, r, hr⟩ : ∃ q0 r, D.Q = q0 :: r := by
      cases hQ : D.Q with
      | nil => rw [hQ] at hq; simp at hq
      | cons q0 r => exact ⟨q0, r, rfl⟩
    have hD : add { D with view := D.view ++ [(1, p, s)], steps := D.steps + 1 } (1, p, s) = { D with view := D.view ++ [(1, p, s)], steps := D.steps + 1, P := D.P.set q0.2.1 q0.2.2, Q := r ++ [(1, p, s)] } := by
      unfold add
      rw [if_neg (by simp only; rw [h.cap]; exact hq)]
      simp only [hr]
    have h00 : q0.2.1 < D.P.length := by rw [h.plen]; exact h.okQ q0 (by rw [hr]; simp)
    have hql := h.qlen
    rw [hr, List.length_cons] at hql
    rw [hD]
    refine ⟨fun q hq8 => ?_, h.cap, h.left, h.cr, by simp [h.steps], by simp [h.view], h.mask, by simp [h.plen], by simp; omega, ?_⟩
    · simp only [List.foldl_append, List.foldl_cons, List.foldl_nil]
      have := h.rd q hq8
      rw [hr, List.foldl_cons] at this
      rw [last_set D.P q0 q h00, this, hset q hq8]
    · intro o ho
      rcases List.mem_append.1 ho with h1 | h1
      · exact h.okQ o (by rw [hr]; exact List.mem_cons_of_mem _ h1)
      · simp only [List.mem_singleton] at h1; rw [h1]; exact hp
theorem See.flush {want : List ByteArray} {k : Nat} {D : D} (h : See want k D) : (Dv.flush D).2 = 0 ∧ See want (k + 1) (Dv.flush D).1 ∧ (Dv.flush D).1.Q.length = 0 := by
  have hw : Dv.flush D = ({ D with view := D.view ++ [(2, 0, ⟨#[]⟩)], steps := D.steps + 1, P := D.Q.foldl put D.P, Q := [] }, 0) := by
    unfold Dv.flush
    rw [h.cr, if_neg (by simp), h.step, if_neg (by simp)]
    unfold flushed
    rw [settle_all _ _ rfl]
    simp only [h.cr]
  rw [hw]
  refine ⟨rfl, ⟨fun q hq8 => ?_, h.cap, h.left, h.cr, by simp [h.steps], by simp [h.view], h.mask, ?_, by simp, by simp⟩, rfl⟩
  · simp only [List.foldl_nil]
    rw [last_foldl D.Q D.P q (fun o ho => by rw [h.plen]; exact h.okQ o ho)]
    exact h.rd q hq8
  · simp only
    rw [foldl_put_length, h.plen]
theorem See.read {want : List ByteArray} {k : Nat} {D : D} (h : See want k D) (q : Nat) (hq : q < 8) : Dv.read D (q : Int) = (want.getD q ByteArray.empty, 0) := by
  have h0 : Dv.refuses D (q : Int) = 0 := by
    unfold Dv.refuses
    rw [h.cr, if_neg (by simp), if_pos]
    rw [h.plen]
    omega
  unfold Dv.read
  rw [if_neg (by simp [h0]), Int.toNat_natCast, h.rd q hq]
end Dv
namespace DiskSees
def blank8 : Array Value := (List.replicate 8 (.string ByteArray.empty)).toArray
def fill8 (j : Nat) : List ByteArray := List.replicate j Dv.zs ++ List.replicate (8 - j) ByteArray.empty
theorem fill8_length (j : Nat) (h : j ≤ 8) : (fill8 j).length = 8 := by simp [fill8]; omega
theorem fill8_set (j : Nat) (h : j < 8) : (fill8 j).set j Dv.zs = fill8 (j + 1) := by
  unfold fill8
  rw [List.set_append_right _ _ (by simp), List.length_replicate, Nat.sub_self, show 8 - j = (8 - (j + 1)) + 1 from by omega, List.replicate_succ, List.set_cons_zero, List.replicate_succ', List.append_assoc]
  rfl
structure S (w : World) (d gs c gw : Nat) (want : List ByteArray) (vv : Value) (D : Dv.D) (wr : World) : Prop where
  disk : IsD wr d gs c vv D
  base : ∀ b, dkB d gs c vv b → w.heap.size ≤ b
  row : TRow wr gw want
  gwb : w.heap.size ≤ gw
  gn : ¬ dkB d gs c vv gw
  bel : Below w.heap.size w wr
theorem S.step {w : World} {d gs c gw : Nat} {want : List ByteArray} {vv vv' : Value} {D : Dv.D} {wr w' : World} (h : S w d gs c gw want vv D wr) {D' : Dv.D} (hd : IsD w' d gs c vv' D') (hto : DkTo wr d gs c vv w' vv') :
    S w d gs c gw want vv' D' w' := by
  refine ⟨hd, fun b hb => ?_, h.row.at (hto.1.block gw h.row.lt h.gn), h.gwb, ?_, h.bel.trans (hto.1.below h.base h.bel.size)⟩
  · rcases hb with hb | hb | hb | hb
    · exact h.base b (Or.inl hb)
    · exact h.base b (Or.inr (Or.inl hb))
    · exact h.base b (Or.inr (Or.inr (Or.inl hb)))
    · rcases hto.2 b hb with h1 | h1
      · exact h.base b (Or.inr (Or.inr (Or.inr h1)))
      · exact Nat.le_trans h.bel.size h1
  · rintro (hb | hb | hb | hb)
    · exact h.gn (Or.inl hb)
    · exact h.gn (Or.inr (Or.inl hb))
    · exact h.gn (Or.inr (Or.inr (Or.inl hb)))
    · rcases hto.2 gw hb with h1 | h1
      · exact h.gn (Or.inr (Or.inr (Or.inr h1)))
      · have := h.row.lt; omega
theorem S.below {w : World} {d gs c gw : Nat} {want : List ByteArray} {vv : Value} {D : Dv.D} {wr w' : World} (h : S w d gs c gw want vv D wr) (hb : Below wr.heap.size wr w') : S w d gs c gw want vv D w' :=
  h.step (h.disk.below hb) (DkTo.below hb)
theorem S.drewN {w : World} {d gs c gw : Nat} {want : List ByteArray} {vv : Value} {D : Dv.D} {wr : World} (h : S w d gs c gw want vv D wr) (m : Nat) : S w d gs c gw want vv D (wr.drewN m) :=
  h.below ⟨rfl, rfl, rfl, Nat.le_refl _, fun _ _ => rfl⟩
theorem S.set {w : World} {d gs c gw : Nat} {want : List ByteArray} {vv : Value} {D : Dv.D} {wr : World} (h : S w d gs c gw want vv D wr) (i : Nat) (hi : i < want.length) (s : ByteArray) : S w d gs c gw (want.set i s) vv D (wr.setCell ⟨gw, i, none⟩ (.string s)) := by
  have hk : KeptQ (fun b => b = gw) wr (wr.setCell ⟨gw, i, none⟩ (.string s)) := KeptQ.setCell _ _ _ rfl
  exact ⟨h.disk.kept hk (fun k hk e => h.gn (by rw [← e]; exact hk)), h.base, h.row.set i hi s, h.gwb, h.gn, h.bel.trans (hk.below (fun b hb => by have := h.gwb; omega) h.bel.size)⟩
end DiskSees
end Go.Proofs.Ytkhkpcigjpibiaa
