/-
  Layer 9: Flush.
-/
import Derived.Test.YtkhkpcigjpibiaaDk8
namespace Go.Proofs.Ytkhkpcigjpibiaa
open Go.ChangeShapes Go.WideShapes Go.ChangeAt Go.RowKit Go.Shelf
open Go.Conc
open Go.Lib (hid)

attribute [local go_sem] Oper.semAt_some

namespace Dv
def flush (D : Dv.D) : Dv.D × Nat :=
  if D.crashed then (D, 11)
  else if (step D (2, 0, ⟨#[]⟩)).2 = false then ((step D (2, 0, ⟨#[]⟩)).1, 11)
  else (flushed (step D (2, 0, ⟨#[]⟩)).1, 0)
end Dv
section
variable {d gs c : Nat} {vv : Value} {D : Dv.D}

set_option maxHeartbeats 4000000 in
set_option maxRecDepth 100000 in
theorem flush_any (hF : Dv.Fit D) (w : World) (h : IsD w d gs c vv D) :
    Calls Try.prog 18 #[.pointer (some ⟨d, 0, none⟩)] w fun e w' => ∃ vv', e = .returned (.int .i64 ((Dv.flush D).2 : Int)) ∧ IsD w' d gs c vv' (Dv.flush D).1 ∧ DkTo w d gs c vv w' vv' := by
  refine (callsIn_wide (n := 9)).1 ?_
  refine callsIn_of_wp_marks Try.func18 rfl trivial ?_ rfl
  simp only [Try.ntmps18, List.size_toArray, List.length_cons, List.length_nil, Nat.reduceAdd, Nat.reduceSub, Array.replicate_succ, Array.replicate_zero, List.push_toArray, List.append_toArray, List.nil_append, List.cons_append]
  have hmf := run_mkF' Try.prog
  have HH := hid h
  have HF := hid hF
  clear hF
  have hb1 : Below w.heap.size w (w.alloc (.cells #[.pointer (some ⟨d, 0, none⟩)] 24)) := (Below.refl _ _).alloc (Nat.le_refl _) _
  have h1 := HH.out.below hb1
  have HB1 := hid hb1
  have hbx := heap_alloc_new w (.cells #[.pointer (some ⟨d, 0, none⟩)] 24)
  have HBX := hid hbx
  obtain ⟨_, _, c2, _, _, _, _, _⟩ := dkC_cells h1.row
  have e0 : (w.alloc (.cells #[.pointer (some ⟨d, 0, none⟩)] 24)).cell? ⟨w.heap.size, 0, none⟩ = some (.pointer (some ⟨d, 0, none⟩)) := by rw [cell_of_row _ _ _ _ _ _ hbx]; rfl
  have HH1 := hid h1
  clear h h1 hb1 hbx
  cases hcr : D.crashed with
  | true =>
    have hfl : Dv.flush D = (D, 11) := if_pos hcr
    rw [hcr] at c2
    gi_wp2
    refine ⟨by first | trivial | decide | simp [Fence.wide], ?_⟩
    gi_wp2
    exact ⟨_, results_tmp rfl _ _ _, vv, by rw [hfl]; rfl, by rw [hfl]; exact HH1.out, DkTo.below HB1.out⟩
  | false =>
    have HFL := hid (show Dv.flush D = if (Dv.step D (2, 0, ⟨#[]⟩)).2 = false then ((Dv.step D (2, 0, ⟨#[]⟩)).1, 11) else (Dv.flushed (Dv.step D (2, 0, ⟨#[]⟩)).1, 0) from by
      unfold Dv.flush; rw [if_neg (by simp [hcr])])
    rw [hcr] at c2
    gi_wp2
    refine ⟨by first | trivial | decide | simp [Fence.wide], ?_⟩
    refine (callsIn_wide.2 (step_any d gs c vv D HF.out (2, 0, ⟨#[]⟩) _ HH1.out)).mono ?_
    rintro e w2 ⟨vv2, rfl, hd2, hk2⟩
    have hB2 : w2.heap[w.heap.size]? = some (.cells #[.pointer (some ⟨d, 0, none⟩)] 24 (0, 0)) := (hk2.1.block w.heap.size (by rw [World.size_alloc]; omega) (HH.out.fresh (Nat.le_refl _))).trans HBX.out
    have HBX2 := hid hB2
    have HK2 := hid ((DkTo.below HB1.out).trans hk2)
    have HD2 := hid hd2
    have e2 : w2.cell? ⟨w.heap.size, 0, none⟩ = some (.pointer (some ⟨d, 0, none⟩)) := by rw [cell_of_row _ _ _ _ _ _ hB2]; rfl
    clear hk2 hd2 HB1 hB2 e0 c2 HH1
    by_cases hl : D.left = 0
    · have hst : Dv.step D (2, 0, ⟨#[]⟩) = (Dv.crash D, false) := if_pos hl
      rw [show (Dv.step D (2, 0, ⟨#[]⟩)).2 = false from by rw [hst]]
      have hfl := HFL.out
      rw [if_pos (by rw [hst])] at hfl
      gi_wp2
      exact ⟨_, results_tmp rfl _ _ _, vv2, by rw [hfl]; rfl, by rw [hfl]; exact HD2.out, HK2.out⟩
    · have hst : (Dv.step D (2, 0, ⟨#[]⟩)).2 = true := by unfold Dv.step; rw [if_neg hl]
      rw [hst]
      have hfl := HFL.out
      rw [if_neg (by rw [hst]; simp)] at hfl
      gi_wp2
      generalize (Dv.step D (2, 0, ⟨#[]⟩)).1 = D1 at *
      have hltw : w.heap.size < w2.heap.size := (Array.getElem?_eq_some_iff.1 HBX2.out).1
      have hdl := HH.out.ltd
      have hgl := HH.out.st.lt
      have hcw := HH.out.ltc
      have hcl : c < w2.heap.size := by omega
      have hcel : ∀ {W W' : World} {k : Nat} {o : Obj}, W.heap[k]? = some o → KeptQ (fun k => k = c) W W' → k ≠ c → W'.heap[k]? = some o := fun h hk hne => (hk.block _ (Array.getElem?_eq_some_iff.1 h).1 hne).trans h
      have hcel2 : ∀ {W W' : World} {k : Nat} {o : Obj}, W.heap[k]? = some o → KeptQ (fun k => k = gs) W W' → k ≠ gs → W'.heap[k]? = some o := fun h hk hne => (hk.block _ (Array.getElem?_eq_some_iff.1 h).1 hne).trans h
      refine wp_rangeAll (by decide) rfl (enters_of Try.func50 (by kernel_rfl) rfl) opV
        (fun (s : Dv.D) W => IsD W d gs c vv2 s ∧ KeptQ (fun k => k = gs ∨ k = c) w2 W ∧ W.heap[w.heap.size]? = some (.cells #[.pointer (some ⟨d, 0, none⟩)] 24 (0, 0)))
        Dv.settle D1 (D1.Q.foldl Dv.settle D1)
        (fun s q W => ∃ r, s.Q = q :: r ∧ q.2.1 < s.P.length ∧ IsD W d gs c vv2 { s with Q := r } ∧ KeptQ (fun k => k = gs ∨ k = c) w2 W ∧ W.heap[w.heap.size]? = some (.cells #[.pointer (some ⟨d, 0, none⟩)] 24 (0, 0)))
        (fun s q a' W => ∃ L r, s.Q = q :: r ∧ q.2.1 < s.P.length ∧ w2.heap.size ≤ L ∧ W.heap[L]? = some (.cells (opC q) 78 (0, 0)) ∧ IsD W d gs c vv2 { s with Q := r } ∧ KeptQ (fun k => k = gs ∨ k = c) w2 W ∧ W.heap[w.heap.size]? = some (.cells #[.pointer (some ⟨d, 0, none⟩)] 24 (0, 0)) ∧
          a' = { tmps := #[.pointer (some ⟨d, 0, none⟩), .pointer (some ⟨w.heap.size, 0, none⟩), .int .i64 0, .pointer (some ⟨L, 0, none⟩), .pointer (some ⟨d, 0, none⟩), .pointer (some ⟨d, 0, none⟩), .pointer (some ⟨d, 2, none⟩), .bool false, .bool false, .pointer (some ⟨d, 0, none⟩), .agg #[.int .i64 2, .int .i64 0, .string ⟨#[]⟩], .bool true, .bool false, .bool false, .pointer (some ⟨d, 0, none⟩), .func (.func 50) #[.pointer (some ⟨d, 0, none⟩)] #[], opV q, undef, undef, undef], defers := [] })
        (fun k => k = c) (fun k hk => by rw [hk]; exact hcl) ⟨HD2.out, KeptQ.refl _ _, HBX2.out⟩
        (fun s W W' he hb => ⟨he.1.book hb hcl, he.2.1.book hb (Nat.le_refl _), cells_book he.2.2 hb⟩)
        (fun s q a' W W' he hb => by
          obtain ⟨L, r, e1, e2, e3, e4, e5, e6, e7, e8⟩ := he
          exact ⟨L, r, e1, e2, e3, cells_book e4 hb, e5.book hb hcl, e6.book hb (Nat.le_refl _), cells_book e7 hb, e8⟩)
        ?iter ?assign ?body ?done
      case iter =>
        intro l X W1 hl hE hX hXk hY
        exact drained_in (9 - 1) (by decide) d gs c vv2 id (fun (s : Dv.D) W => KeptQ (fun k => k = gs ∨ k = c) w2 W ∧ W.heap[w.heap.size]? = some (.cells #[.pointer (some ⟨d, 0, none⟩)] 24 (0, 0))) Dv.settle (fun s q r hq => by simp only [Dv.settle, id] at hq ⊢; rw [hq]; rfl)
          (fun s W W' he hk => ⟨he.1.trans (hk.mono fun k hk => Or.inr hk), hcel he.2 hk (by omega)⟩) D1 l X W1 hE hX (fun W W' hx hk => hXk W W' hx (fun k h1 h2 => hk k h1 h2)) (fun s q W hr hx => hY s q W hr hx)
      case assign =>
        rintro l s q W hl ⟨r, e1, e2, e3, e4, e7⟩
        unfold opV opC
        gi_wp2
        have hbb : Below W.heap.size W (W.alloc (.cells #[.int .i64 (q.1 : Int), .int .i64 (q.2.1 : Int), .string q.2.2] 78)) := (Below.refl _ _).alloc (Nat.le_refl _) _
        have e5 := e4.size
        refine ⟨fun k o hk ho hc => (Below.heap_alloc _ _ _ (Array.getElem?_eq_some_iff.1 ho).1).trans ho, by rw [World.size_alloc]; omega, ?_⟩
        exact ⟨W.heap.size, r, e1, e2, e5, heap_alloc_new _ _, e3.below hbb, e4.trans (KeptQ.alloc _ _), (Below.heap_alloc _ _ _ (by omega)).trans e7, rfl⟩
      case body =>
        rintro l s q a' W hl ⟨L, r, e1, e2, e3, e4, e5, e6, e7, rfl⟩
        have eb : W.cell? ⟨w.heap.size, 0, none⟩ = some (.pointer (some ⟨d, 0, none⟩)) := by rw [cell_of_row _ _ _ _ _ _ e7]; rfl
        obtain ⟨o0, o1, o2⟩ := opRow_cells e4
        unfold opV
        gi_wp2
        refine ⟨by first | trivial | decide | simp [Fence.wide], (callsIn_settle l 6 d gs c vv2 { s with Q := r } q e2 W e5).mono ?_⟩
        rintro e W3 ⟨rfl, hd3, hk3⟩
        gi_wp2
        refine ⟨fun k o hk ho hc => (hk3.block k (Array.getElem?_eq_some_iff.1 ho).1 (by omega)).trans ho, ?_, e6.trans (hk3.mono fun k hk => Or.inl hk), hcel2 e7 hk3 (by omega)⟩
        unfold Dv.settle
        rw [e1]
        exact hd3
      case done =>
        rintro W ⟨hd, hk, hbx⟩ hD
        gi_wp2
        have hbk : BookAt w2.heap.size W (W.putObj w2.heap.size (.deferred none)) := bookAt_put (Nat.le_refl _) hD rfl
        refine ⟨by simp, .inl ⟨_, _, rfl, run_takeDeferred hD, ?_⟩⟩
        have hto := HK2.out.trans (DkTo.of (hk.book hbk (Nat.le_refl _)) (fun k hk => by rcases hk with rfl | rfl; exact Or.inr (Or.inl rfl); exact Or.inr (Or.inr (Or.inl rfl))))
        exact ⟨_, results_tmp rfl _ _ _, vv2, by rw [hfl]; rfl, by rw [hfl]; exact hd.book hbk hcl, hto⟩
end
end Go.Proofs.Ytkhkpcigjpibiaa
