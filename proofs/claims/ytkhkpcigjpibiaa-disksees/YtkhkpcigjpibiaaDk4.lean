/-
  Layer 9: a crash; Flush.
-/
import Derived.Test.YtkhkpcigjpibiaaDk3
namespace Go.Proofs.Ytkhkpcigjpibiaa
open Go.ChangeShapes Go.WideShapes Go.ChangeAt Go.RowKit Go.Shelf
open Go.Conc
open Go.Lib (hid)

attribute [local go_sem] Oper.semAt_some

theorem run_mkF' (P : Program) (fn : Fn) (first cap : Array Value) (w : World) : (Instr.makeFunc fn first cap).run P w = .ok (.func fn first cap) w := by simp [go_sem, Instr.makeFunc]
theorem wraps_u64d (n : Int) (h0 : 0 ≤ n) (h1 : n < 2 ^ 64) : IntKind.u64.wrap n = n := by rw [IntKind.wrap_u64]; omega
theorem and1_u64 (a : Nat) (h : a < 2 ^ 64) : bits .and .u64 (a : Int) 1 = ((a % 2 : Nat) : Int) := by
  have := (bits_nat .u64 64 (by decide) wraps_u64d a 1 h (by decide)).1
  rw [show ((1 : Nat) : Int) = 1 from rfl] at this
  rw [this, Nat.and_one_is_mod]
/-- A step's cell, stored and read. -/
theorem opRow_cells {w : World} {k : Nat} {q : Dv.O} {t : TypeId} {fr : Nat × Nat} (h : w.heap[k]? = some (.cells (opC q) t fr)) :
    w.cell? ⟨k, 0, none⟩ = some (.int .i64 (q.1 : Int)) ∧ w.cell? ⟨k, 1, none⟩ = some (.int .i64 (q.2.1 : Int)) ∧ w.cell? ⟨k, 2, none⟩ = some (.string q.2.2) := by
  refine ⟨?_, ?_, ?_⟩ <;> (rw [cell_of_row _ _ _ _ _ _ h]; rfl)

theorem Dv.keep_Q (s : Dv.D × Nat) (q : Dv.O) (r : List Dv.O) (h : s.1.Q = q :: r) : (Dv.keep s q).1.Q = r := by
  unfold Dv.keep Dv.settle
  split <;> simp [h]
set_option maxHeartbeats 2000000 in
set_option maxRecDepth 100000 in
theorem crash_any (d gs c : Nat) (vv : Value) (D : Dv.D) (hm : D.mask < 2 ^ 64) (w : World) (h : IsD w d gs c vv D) :
    Calls Try.prog 62 #[.pointer (some ⟨d, 0, none⟩)] w fun e w' => e = .returned (.tuple #[]) ∧ IsD w' d gs c vv (Dv.crash D) ∧ KeptQ (fun k => k = d ∨ k = gs ∨ k = c) w w' := by
  refine (callsIn_wide (n := 9)).1 ?_
  refine callsIn_of_wp_marks Try.func62 rfl trivial ?_ rfl
  simp only [Try.ntmps62, List.size_toArray, List.length_cons, List.length_nil, Nat.reduceAdd, Nat.reduceSub, Array.replicate_succ, Array.replicate_zero, List.push_toArray, List.append_toArray, List.nil_append, List.cons_append]
  have hmf := run_mkF' Try.prog
  have HH := hid h
  have hb1 : Below w.heap.size w (w.alloc (.cells #[.pointer (some ⟨d, 0, none⟩)] 24)) := (Below.refl _ _).alloc (Nat.le_refl _) _
  have h1 := HH.out.below hb1
  obtain ⟨_, _, _, _, c4, _, _, _⟩ := dkC_cells h1.row
  have e0 : (w.alloc (.cells #[.pointer (some ⟨d, 0, none⟩)] 24)).cell? ⟨w.heap.size, 0, none⟩ = some (.pointer (some ⟨d, 0, none⟩)) := by rw [cell_of_row _ _ _ _ _ _ (heap_alloc_new w _)]; rfl
  clear h
  gi_wp2
  have hb2 : Below w.heap.size w ((w.alloc (.cells #[.pointer (some ⟨d, 0, none⟩)] 24)).alloc (.cells #[.int .u64 (D.mask : Int)] 28)) := hb1.alloc (by rw [World.size_alloc]; omega) _
  have hbx : ((w.alloc (.cells #[.pointer (some ⟨d, 0, none⟩)] 24)).alloc (.cells #[.int .u64 (D.mask : Int)] 28)).heap[w.heap.size]? = some (.cells #[.pointer (some ⟨d, 0, none⟩)] 24 (0, 0)) := (Below.heap_alloc _ _ _ (by simp)).trans (heap_alloc_new w _)
  have hmx : ((w.alloc (.cells #[.pointer (some ⟨d, 0, none⟩)] 24)).alloc (.cells #[.int .u64 (D.mask : Int)] 28)).heap[w.heap.size + 1]? = some (.cells #[.int .u64 (D.mask : Int)] 28 (0, 0)) := by
    have := heap_alloc_new (w.alloc (.cells #[.pointer (some ⟨d, 0, none⟩)] 24)) (.cells #[.int .u64 (D.mask : Int)] 28)
    rw [World.size_alloc] at this
    exact this
  have hsz : ((w.alloc (.cells #[.pointer (some ⟨d, 0, none⟩)] 24)).alloc (.cells #[.int .u64 (D.mask : Int)] 28)).heap.size = w.heap.size + 2 := by rw [World.size_alloc, World.size_alloc]
  clear c4 e0 h1 hb1
  generalize ((w.alloc (.cells #[.pointer (some ⟨d, 0, none⟩)] 24)).alloc (.cells #[.int .u64 (D.mask : Int)] 28)) = w2 at *
  have hcl : c < w2.heap.size := by have := HH.out.ltc; omega
  have hp : ∀ k, (k = d ∨ k = gs ∨ k = c) → k < w.heap.size := by
    rintro k (rfl | rfl | rfl)
    · exact HH.out.ltd
    · exact HH.out.st.lt
    · exact HH.out.ltc
  have hcel : ∀ {W W' : World} {k : Nat} {o : Obj}, W.heap[k]? = some o → KeptQ (fun k => k = c) W W' → k ≠ c → W'.heap[k]? = some o := fun h hk hne => (hk.block _ (Array.getElem?_eq_some_iff.1 h).1 hne).trans h
  have hcel2 : ∀ {W W' : World} {k : Nat} {o : Obj}, W.heap[k]? = some o → KeptQ (fun k => k = gs) W W' → k ≠ gs → W'.heap[k]? = some o := fun h hk hne => (hk.block _ (Array.getElem?_eq_some_iff.1 h).1 hne).trans h
  refine wp_rangeAll (by decide) rfl (enters_of Try.func50 (by kernel_rfl) rfl) opV
    (fun (s : Dv.D × Nat) W => IsD W d gs c vv s.1 ∧ KeptQ (fun k => k = d ∨ k = gs ∨ k = c) w W ∧ w2.heap.size ≤ W.heap.size ∧ s.2 < 2 ^ 64 ∧ W.heap[w.heap.size]? = some (.cells #[.pointer (some ⟨d, 0, none⟩)] 24 (0, 0)) ∧ W.heap[w.heap.size + 1]? = some (.cells #[.int .u64 (s.2 : Int)] 28 (0, 0)))
    Dv.keep (D, D.mask) (D.Q.foldl Dv.keep (D, D.mask))
    (fun s q W => ∃ r, s.1.Q = q :: r ∧ q.2.1 < s.1.P.length ∧ IsD W d gs c vv { s.1 with Q := r } ∧ KeptQ (fun k => k = d ∨ k = gs ∨ k = c) w W ∧ w2.heap.size ≤ W.heap.size ∧ s.2 < 2 ^ 64 ∧ W.heap[w.heap.size]? = some (.cells #[.pointer (some ⟨d, 0, none⟩)] 24 (0, 0)) ∧ W.heap[w.heap.size + 1]? = some (.cells #[.int .u64 (s.2 : Int)] 28 (0, 0)))
    (fun s q a' W => ∃ L r, s.1.Q = q :: r ∧ q.2.1 < s.1.P.length ∧ w2.heap.size ≤ L ∧ W.heap[L]? = some (.cells (opC q) 78 (0, 0)) ∧ IsD W d gs c vv { s.1 with Q := r } ∧ KeptQ (fun k => k = d ∨ k = gs ∨ k = c) w W ∧ w2.heap.size ≤ W.heap.size ∧ s.2 < 2 ^ 64 ∧ W.heap[w.heap.size]? = some (.cells #[.pointer (some ⟨d, 0, none⟩)] 24 (0, 0)) ∧ W.heap[w.heap.size + 1]? = some (.cells #[.int .u64 (s.2 : Int)] 28 (0, 0)) ∧
      a' = { tmps := #[.pointer (some ⟨d, 0, none⟩), .pointer (some ⟨w.heap.size, 0, none⟩), .pointer (some ⟨w.heap.size + 1, 0, none⟩), .pointer (some ⟨L, 0, none⟩), .pointer (some ⟨d, 0, none⟩), .pointer (some ⟨d, 0, none⟩), .pointer (some ⟨d, 4, none⟩), .int .u64 (D.mask : Int), .pointer (some ⟨d, 0, none⟩), .func (.func 50) #[.pointer (some ⟨d, 0, none⟩)] #[], opV q, undef, undef, undef, undef, undef, undef, undef, undef, undef, undef, undef], defers := [] })
    (fun k => k = c) (fun k hk => by rw [hk]; exact hcl) ⟨HH.out.below hb2, KeptQ.of_below hb2, Nat.le_refl _, hm, hbx, hmx⟩
    (fun s W W' he hb => ⟨he.1.book hb hcl, he.2.1.book hb (by omega), Nat.le_trans he.2.2.1 hb.size, he.2.2.2.1, cells_book he.2.2.2.2.1 hb, cells_book he.2.2.2.2.2 hb⟩)
    (fun s q a' W W' he hb => by
      obtain ⟨L, r, e1, e2, e3, e4, e5, e6, e7, e8, e9, e10, e11⟩ := he
      exact ⟨L, r, e1, e2, e3, cells_book e4 hb, e5.book hb hcl, e6.book hb (by omega), Nat.le_trans e7 hb.size, e8, cells_book e9 hb, cells_book e10 hb, e11⟩)
    ?iter ?assign ?body ?done
  case iter =>
    intro l X W1 hl hE hX hXk hY
    exact drained_in (9 - 1) (by decide) d gs c vv Prod.fst (fun (s : Dv.D × Nat) W => KeptQ (fun k => k = d ∨ k = gs ∨ k = c) w W ∧ w2.heap.size ≤ W.heap.size ∧ s.2 < 2 ^ 64 ∧ W.heap[w.heap.size]? = some (.cells #[.pointer (some ⟨d, 0, none⟩)] 24 (0, 0)) ∧ W.heap[w.heap.size + 1]? = some (.cells #[.int .u64 (s.2 : Int)] 28 (0, 0))) Dv.keep (fun s q r hq => Dv.keep_Q s q r hq)
      (fun s W W' he hk => ⟨he.1.trans (hk.mono fun k hk => Or.inr (Or.inr hk)), Nat.le_trans he.2.1 hk.size, he.2.2.1, hcel he.2.2.2.1 hk (by have := HH.out.ltc; omega), hcel he.2.2.2.2 hk (by have := HH.out.ltc; omega)⟩) (D, D.mask) l X W1 hE hX (fun W W' hx hk => hXk W W' hx (fun k h1 h2 => hk k h1 h2)) (fun s q W hr hx => hY s q W hr hx)
  case assign =>
    rintro l s q W hl ⟨r, e1, e2, e3, e4, e5, e6, e7, e8⟩
    unfold opV opC
    gi_wp2
    have hbb : Below W.heap.size W (W.alloc (.cells #[.int .i64 (q.1 : Int), .int .i64 (q.2.1 : Int), .string q.2.2] 78)) := (Below.refl _ _).alloc (Nat.le_refl _) _
    refine ⟨fun k o hk ho hc => (Below.heap_alloc _ _ _ (Array.getElem?_eq_some_iff.1 ho).1).trans ho, ?_⟩
    refine ⟨W.heap.size, by omega, heap_alloc_new _ _, ?_⟩
    refine ⟨e3.below hbb, e4.trans (KeptQ.alloc _ _), ?_⟩
    exact ⟨by omega, (Below.heap_alloc _ _ _ (by omega)).trans e7, (Below.heap_alloc _ _ _ (by omega)).trans e8, rfl⟩
  case body =>
    rintro l s q a' W hl ⟨L, r, e1, e2, e3, e4, e5, e6, e7, e8, e9, e10, rfl⟩
    have eb : W.cell? ⟨w.heap.size, 0, none⟩ = some (.pointer (some ⟨d, 0, none⟩)) := by rw [cell_of_row _ _ _ _ _ _ e9]; rfl
    have em : W.cell? ⟨w.heap.size + 1, 0, none⟩ = some (.int .u64 (s.2 : Int)) := by rw [cell_of_row _ _ _ _ _ _ e10]; rfl
    obtain ⟨o0, o1, o2⟩ := opRow_cells e4
    have fm : W.frozen? ⟨w.heap.size + 1, 0, none⟩ = false := frozen_of_row _ _ _ _ _ e10
    have ha1 := and1_u64 s.2 e8
    rcases Nat.mod_two_eq_zero_or_one s.2 with hb | hb
    · rw [hb] at ha1
      unfold opV
      gi_wp2
      have hk3 : KeptQ (fun k => k = w.heap.size + 1) W (W.setCell ⟨w.heap.size + 1, 0, none⟩ (.int .u64 ((s.2 : Int) / 2))) := KeptQ.setCell _ _ _ rfl
      have hke : (Dv.keep s q) = ({ s.1 with Q := r }, s.2 / 2) := by
        unfold Dv.keep
        rw [if_neg (by omega), e1]
        rfl
      rw [hke]
      refine ⟨fun k o hk ho hc => (hk3.block k (Array.getElem?_eq_some_iff.1 ho).1 (by omega)).trans ho, e5.kept hk3 (fun k hk he => ?_), ⟨e6.os, e6.tape, e6.output, by simpa [World.setCell] using e6.size, fun k hk hp => (hk3.block k (by omega) (by omega)).trans (e6.block k hk hp)⟩, by omega, by simp only; omega, (hk3.block _ (by omega) (by omega)).trans e9, ?_⟩
      · subst he
        rcases hk with hk | hk | hk | hk
        · have := HH.out.ltd; omega
        · have := HH.out.st.lt; omega
        · have := HH.out.ltc; omega
        · obtain ⟨cs, hv⟩ := HH.out.vblock hk
          have := (Array.getElem?_eq_some_iff.1 hv).1
          omega
      · rw [heap_setCell_same _ _ _ _ _ _ e10]
        rfl
    · rw [hb] at ha1
      unfold opV
      gi_wp2
      refine ⟨by first | trivial | decide | simp [Fence.wide], (callsIn_settle l 6 d gs c vv { s.1 with Q := r } q e2 W e5).mono ?_⟩
      rintro e W3 ⟨rfl, hd3, hk3⟩
      have hgl := HH.out.st.lt
      have e103 := hcel2 e10 hk3 (by omega)
      have em3 : W3.cell? ⟨w.heap.size + 1, 0, none⟩ = some (.int .u64 (s.2 : Int)) := by rw [cell_of_row _ _ _ _ _ _ e103]; rfl
      have fm3 : W3.frozen? ⟨w.heap.size + 1, 0, none⟩ = false := frozen_of_row _ _ _ _ _ e103
      gi_wp2
      have hk4 : KeptQ (fun k => k = w.heap.size + 1) W3 (W3.setCell ⟨w.heap.size + 1, 0, none⟩ (.int .u64 ((s.2 : Int) / 2))) := KeptQ.setCell _ _ _ rfl
      have hke : (Dv.keep s q) = (Dv.settle s.1 q, s.2 / 2) := by
        unfold Dv.keep
        rw [if_pos (by omega)]
      rw [hke]
      have hsl := hk3.size
      have hd4 : IsD W3 d gs c vv (Dv.settle s.1 q) := by
        unfold Dv.settle
        rw [e1]
        exact hd3
      have hkk := e6.trans (hk3.mono fun k hk => Or.inr (Or.inl hk))
      refine ⟨fun k o hk ho hc => ?_, hd4.kept hk4 (fun k hk he => ?_), ⟨hkk.os, hkk.tape, hkk.output, by simpa [World.setCell] using hkk.size, fun k hk hp => (hk4.block k (by omega) (by omega)).trans (hkk.block k hk hp)⟩, by omega, by simp only; omega, (hk4.block _ (by omega) (by omega)).trans (hcel2 e9 hk3 (by omega)), ?_⟩
      · have hlt := (Array.getElem?_eq_some_iff.1 ho).1
        exact (hk4.block k (by omega) (by omega)).trans ((hk3.block k hlt (by omega)).trans ho)
      · subst he
        rcases hk with hk | hk | hk | hk
        · have := HH.out.ltd; omega
        · omega
        · have := HH.out.ltc; omega
        · obtain ⟨cs, hv⟩ := HH.out.vblock hk
          have := (Array.getElem?_eq_some_iff.1 hv).1
          omega
      · rw [heap_setCell_same _ _ _ _ _ _ e103]
        rfl
  case done =>
    rintro W ⟨hd, hk, hs, _, hbx, hmx⟩ hD
    obtain ⟨_, _, c2, c3, _, _, _, _⟩ := dkC_cells hd.row
    have f2 := frozen_of_row W d 2 _ _ hd.row
    have eb : W.cell? ⟨w.heap.size, 0, none⟩ = some (.pointer (some ⟨d, 0, none⟩)) := by rw [cell_of_row _ _ _ _ _ _ hbx]; rfl
    have hdl := HH.out.ltd
    gi_wp2
    generalize hW2 : World.setCell _ _ _ = W2
    have hot := fun k (hk : k ≠ d) => (show W2.heap[k]? = W.heap[k]? from by rw [← hW2, heap_setCell_other _ ⟨d, 2, none⟩ k _ hk])
    have hrow : W2.heap[d]? = some (.cells (dkC gs c vv (Dv.crash D)) 65 (0, 0)) := by
      rw [← hW2, heap_setCell_same _ d 2 _ _ _ hd.row]
      rfl
    have hD2 : W2.heap[w2.heap.size]? = some (.deferred (some [])) := (hot _ (by omega)).trans hD
    refine ⟨by simp, .inl ⟨_, _, rfl, run_takeDeferred hD2, ?_⟩⟩
    have hB3 : KeptQ (fun k => k = d ∨ k = gs ∨ k = c) W W2 := by
      rw [← hW2]
      exact KeptQ.setCell _ _ _ (Or.inl rfl)
    obtain ⟨n1, n2, n3, n4, n5, n6⟩ := hd.ne
    have hd2 : IsD W2 d gs c vv (Dv.crash D) := by
      obtain ⟨ss, rr, hc⟩ := hd.ch
      exact ⟨hrow, hd.st.at (hot gs (Ne.symm n1)), ⟨ss, rr, (hot c (Ne.symm n2)).trans hc⟩, ownsRow_at hd.vw (fun g hg => hot g (fun e => n4 (by rw [← e]; exact hg))), hd.room, hd.capb, hd.pages, hd.okQ⟩
    have hbk : BookAt w.heap.size W2 (W2.putObj w2.heap.size (.deferred none)) := bookAt_put (by omega) hD2 rfl
    exact ⟨_, results_none rfl _ _ _, rfl, hd2.book hbk HH.out.ltc, (hk.trans hB3).book hbk (Nat.le_refl _)⟩
end Go.Proofs.Ytkhkpcigjpibiaa
