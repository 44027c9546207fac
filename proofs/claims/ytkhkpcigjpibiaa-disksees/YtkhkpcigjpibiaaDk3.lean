/-
  Layer 9: what is flushed; a crash; Start.
-/
import Derived.Test.YtkhkpcigjpibiaaDk2
namespace Go.Proofs.Ytkhkpcigjpibiaa
open Go.ChangeShapes Go.WideShapes Go.ChangeAt Go.RowKit Go.Shelf
open Go.Conc
open Go.Lib (hid)

attribute [local go_sem] Oper.semAt_some

theorem run_mkF (P : Program) (fn : Fn) (first cap : Array Value) (w : World) : (Instr.makeFunc fn first cap).run P w = .ok (.func fn first cap) w := by simp [go_sem, Instr.makeFunc]
section
variable {w W W' : World} {d gs c B : Nat} {vv : Value} {D : Dv.D}
theorem BookAt.keptQ (h : BookAt B W W') : KeptQ (fun k => B ≤ k ∧ ∃ o : Obj, W.heap[k]? = some o ∧ o.isCells = false) W W' :=
  ⟨h.os, h.tape, h.output, h.size, fun k hk hp => (h.block k hk).resolve_right hp⟩
theorem IsD.book (h : IsD W d gs c vv D) (hb : BookAt B W W') (hc : c < B) : IsD W' d gs c vv D := by
  refine h.kept hb.keptQ fun k hk hp => ?_
  obtain ⟨h1, o, h2, h3⟩ := hp
  rcases hk with rfl | rfl | rfl | hk
  · rw [h.row] at h2; cases h2; cases h3
  · obtain ⟨ex, hg⟩ := h.st; rw [hg] at h2; cases h2; cases h3
  · omega
  · obtain ⟨cs, hv⟩ := h.vblock hk; rw [hv] at h2; cases h2; cases h3
theorem KeptQ.book {q : Nat → Prop} (h : KeptQ q w W) (hb : BookAt B W W') (hB : w.heap.size ≤ B) : KeptQ q w W' :=
  ⟨hb.os.trans h.os, hb.tape.trans h.tape, hb.output.trans h.output, Nat.le_trans h.size hb.size, fun k hk hq => by
    rcases hb.block k (Nat.lt_of_lt_of_le hk h.size) with h1 | h1
    · exact h1.trans (h.block k hk hq)
    · omega⟩
/-- A block of cells under a book. -/
theorem cells_book {k : Nat} {cs : Array Value} {t : TypeId} {fr : Nat × Nat} (h : W.heap[k]? = some (.cells cs t fr)) (hb : BookAt B W W') : W'.heap[k]? = some (.cells cs t fr) := by
  rcases hb.block k (Array.getElem?_eq_some_iff.1 h).1 with h1 | ⟨_, o, h2, h3⟩
  · exact h1.trans h
  · rw [h] at h2; cases h2; cases h3
theorem books_kept {p : Nat → Prop} (h : KeptQ p W W') (hp : ∀ k, p k → ∃ cs t fr, W.heap[k]? = some (.cells cs t fr)) : Books B W W' := by
  intro k o _ ho hc
  refine (h.block k (Array.getElem?_eq_some_iff.1 ho).1 (fun hk => ?_)).trans ho
  obtain ⟨cs, t, fr, h1⟩ := hp k hk
  rw [ho] at h1
  cases h1
  cases hc
theorem IsD.gsCells (h : IsD W d gs c vv D) : ∃ cs t fr, W.heap[gs]? = some (.cells cs t fr) := by obtain ⟨ex, hg⟩ := h.st; exact ⟨_, _, _, hg⟩
end
namespace Dv
def settle (D : Dv.D) (q : O) : Dv.D := { D with P := D.P.set q.2.1 q.2.2, Q := D.Q.tail }
def flushed (D : Dv.D) : Dv.D := D.Q.foldl settle D
/-- What the mask says is kept. -/
def keep (s : Dv.D × Nat) (q : O) : Dv.D × Nat := (if s.2 % 2 = 1 then settle s.1 q else { s.1 with Q := s.1.Q.tail }, s.2 / 2)
def crash (D : Dv.D) : Dv.D := { (D.Q.foldl keep (D, D.mask)).1 with crashed := true }
/-- All of the cache is lost. -/
def lose (D : Dv.D) (_ : O) : Dv.D := { D with Q := D.Q.tail }
end Dv
theorem callsIn_settle (l m d gs c : Nat) (vv : Value) (D : Dv.D) (o : Dv.O) (ho : o.2.1 < D.P.length) (w : World) (h : IsD w d gs c vv D) :
    CallsIn (Fence.wide.inRound l) m Try.prog 51 #[.pointer (some ⟨d, 0, none⟩), .agg #[.int .i64 (o.1 : Int), .int .i64 (o.2.1 : Int), .string o.2.2]] w fun e w' => e = .returned (.tuple #[]) ∧ IsD w' d gs c vv { D with P := D.P.set o.2.1 o.2.2 } ∧ KeptQ (fun k => k = gs) w w' :=
  CallsIn.inRound l (callsIn_wide.2 (settle_any d gs c vv D o ho w h))

set_option maxHeartbeats 2000000 in
set_option maxRecDepth 100000 in
theorem start_any (d gs c : Nat) (vv : Value) (D : Dv.D) (w : World) (h : IsD w d gs c vv D) :
    Calls Try.prog 31 #[.pointer (some ⟨d, 0, none⟩)] w fun e w' => e = .returned (.tuple #[]) ∧ IsD w' d gs c vv { D.Q.foldl Dv.lose D with crashed := false, left := -1 } ∧ KeptQ (fun k => k = d ∨ k = c) w w' := by
  refine (callsIn_wide (n := 9)).1 ?_
  refine callsIn_of_wp_marks Try.func31 rfl trivial ?_ rfl
  simp only [Try.ntmps31, List.size_toArray, List.length_cons, List.length_nil, Nat.reduceAdd, Nat.reduceSub, Array.replicate_succ, Array.replicate_zero, List.push_toArray, List.append_toArray, List.nil_append, List.cons_append]
  have hmf := run_mkF Try.prog
  gi_wp2
  have hcl := h.ltc
  refine wp_rangeAll (by decide) rfl (enters_of Try.func50 (by kernel_rfl) rfl) opV
    (fun (s : Dv.D) W => IsD W d gs c vv s ∧ KeptQ (fun k => k = d ∨ k = c) w W) Dv.lose D (D.Q.foldl Dv.lose D)
    (fun s q W => ∃ r, s.Q = q :: r ∧ q.2.1 < s.P.length ∧ IsD W d gs c vv { s with Q := r } ∧ KeptQ (fun k => k = d ∨ k = c) w W)
    (fun s q _ W => IsD W d gs c vv (Dv.lose s q) ∧ KeptQ (fun k => k = d ∨ k = c) w W)
    (fun k => k = c) (fun k hk => by rw [hk]; exact hcl) ⟨h, KeptQ.refl _ _⟩
    (fun s W W' he hb => ⟨he.1.book hb hcl, he.2.book hb (Nat.le_refl _)⟩)
    (fun s q a' W W' he hb => ⟨he.1.book hb hcl, he.2.book hb (Nat.le_refl _)⟩)
    ?iter ?assign ?body ?done
  case iter =>
    intro l X W1 hl hE hX hXk hY
    exact drained_in (9 - 1) (by decide) d gs c vv id (fun _ W => KeptQ (fun k => k = d ∨ k = c) w W) Dv.lose (fun s q r hq => by simp only [Dv.lose, id] at hq ⊢; rw [hq]; rfl)
      (fun s W W' he hk => he.trans (hk.mono fun k hk => Or.inr hk)) D l X W1 hE hX (fun W W' hx hk => hXk W W' hx (fun k h1 h2 => hk k h1 h2)) (fun s q W hr hx => hY s q W hr hx)
  case assign =>
    rintro l s q W hl ⟨r, hq, hqp, hd, hk⟩
    unfold opV opC
    gi_wp2
    refine ⟨Books.refl _ _, Nat.le_refl _, ?_, hk⟩
    simp only [Dv.lose, hq, List.tail_cons]
    exact hd
  case body =>
    rintro l s q a' W hl ⟨hd, hk⟩
    gi_wp2
    exact Books.refl _ _
  case done =>
    rintro W ⟨hd, hk⟩ hD
    obtain ⟨_, _, c2, c3, _, _, _, _⟩ := dkC_cells hd.row
    have f2 := frozen_of_row W d 2 _ _ hd.row
    have f3 := frozen_of_row W d 3 _ _ hd.row
    have hdl := h.ltd
    gi_wp2
    generalize hW2 : World.setCell _ _ _ = W2
    have hot := fun k (hk : k ≠ d) => (show W2.heap[k]? = W.heap[k]? from by rw [← hW2, heap_setCell_other _ ⟨d, 3, none⟩ k _ hk, heap_setCell_other _ ⟨d, 2, none⟩ k _ hk])
    have hrow : W2.heap[d]? = some (.cells (dkC gs c vv { D.Q.foldl Dv.lose D with crashed := false, left := -1 }) 65 (0, 0)) := by
      rw [← hW2, heap_setCell_same _ d 3 _ _ _ (heap_setCell_same _ d 2 _ _ _ hd.row)]
      rfl
    have hD2 : W2.heap[w.heap.size]? = some (.deferred (some [])) := (hot _ (by omega)).trans hD
    refine ⟨by simp, .inl ⟨_, _, rfl, run_takeDeferred hD2, ?_⟩⟩
    have hB3 : KeptQ (fun k => k = d ∨ k = c) W W2 := by
      rw [← hW2]
      exact (KeptQ.setCell _ _ _ (Or.inl rfl)).trans (KeptQ.setCell _ _ _ (Or.inl rfl))
    obtain ⟨n1, n2, n3, n4, n5, n6⟩ := hd.ne
    have hd2 : IsD W2 d gs c vv { D.Q.foldl Dv.lose D with crashed := false, left := -1 } := by
      obtain ⟨ss, rr, hc⟩ := hd.ch
      refine ⟨hrow, hd.st.at (hot gs (Ne.symm n1)), ⟨ss, rr, (hot c (Ne.symm n2)).trans hc⟩, ownsRow_at hd.vw (fun g hg => hot g (fun e => n4 (by rw [← e]; exact hg))), hd.room, hd.capb, hd.pages, hd.okQ⟩
    have hbk : BookAt w.heap.size W2 (W2.putObj w.heap.size (.deferred none)) := bookAt_put (Nat.le_refl _) hD2 rfl
    exact ⟨_, results_none rfl _ _ _, rfl, hd2.book hbk hcl, (hk.trans hB3).book hbk (Nat.le_refl _)⟩
end Go.Proofs.Ytkhkpcigjpibiaa
