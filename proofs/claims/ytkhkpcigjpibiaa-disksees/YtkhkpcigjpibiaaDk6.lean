/-
  Layer 9: a step.
-/
import Derived.Test.YtkhkpcigjpibiaaDk5
namespace Go.Proofs.Ytkhkpcigjpibiaa
open Go.ChangeShapes Go.WideShapes Go.ChangeAt Go.RowKit Go.Shelf
open Go.Conc
open Go.Lib (hid)

attribute [local go_sem] Oper.semAt_some

theorem wp_appOp {w : World} {o : Oper} {a : Act} {K : Act → World → Prop} {Q : Exit → Act → World → Prop} (s x : Operand)
    (ho : o.op = .call { callee := .builtin .append, args := #[s, x], argTypes := #[54, 54] })
    (v : Value) (l : List Dv.O) (hs : a.eval s = v) (hown : w.ownsRow 0 78 3 v l.length (opsC l))
    (ad : Addr) (y : Dv.O) (hx : a.eval x = .slice (some ad) 1 1) (hnews : ∀ j u, (opC y).toList[j]? = some u → w.cell? (ad.add j) = some u) (hlen : l.length ≤ 5000)
    (h : ∀ v' w', w'.ownsRow 0 78 3 v' (l ++ [y]).length (opsC (l ++ [y])) → w.grownBy w' v.ownBlock → VNext w v v' → K (a.put o.dst v') w') : o.wp Try.prog a w K Q := by
  obtain ⟨v', w', hr, h2, h3, h4⟩ := run_append_op o.type w v l hown ad y hnews hlen
  unfold Oper.wp execOp
  simp only [ho, resolve, invoke, builtin, Sem.run_bind, Sem.run_pure, Result.andThen_ok, List.map_toArray, List.map_cons, List.map_nil, hs, hx, hr]
  exact h v' w' h2 h3 h4
theorem ownsRow_slice {w : World} {base : Nat} {e : TypeId} {size n : Nat} {v : Value} {xs : List Value} (h : w.ownsRow base e size v n xs) : ∃ ao cap, v = .slice ao n cap := by
  obtain ⟨_, ⟨h1, h2⟩ | ⟨g, cap, cur, hv, _⟩⟩ := h
  · subst h2; exact ⟨_, _, h1⟩
  · exact ⟨_, _, hv⟩
namespace Dv
structure Fit (D : Dv.D) : Prop where
  mask : D.mask < 2 ^ 64
  left : -1 ≤ D.left ∧ D.left < 2 ^ 63
  steps : D.steps < 4000
  view : D.view.length = D.steps
/-- A step, while fewer than 4096 are recorded. -/
def step (D : Dv.D) (o : O) : Dv.D × Bool := if D.left = 0 then (crash D, false) else ({ D with left := if 0 < D.left then D.left - 1 else D.left, view := D.view ++ [o], steps := D.steps + 1 }, true)
end Dv
theorem dkTo_of_kept {w W W' : World} {d gs c : Nat} {vv : Value} {D : Dv.D} (h : IsD W d gs c vv D) {p : Nat → Prop} (hk : KeptQ p W W') (hp : ∀ k, dkB d gs c vv k → ¬ p k) : IsD W' d gs c vv D := h.kept hk hp

set_option maxHeartbeats 4000000 in
set_option maxRecDepth 100000 in
theorem step_any (d gs c : Nat) (vv : Value) (D : Dv.D) (hF : Dv.Fit D) (o : Dv.O) (w : World) (h : IsD w d gs c vv D) :
    Calls Try.prog 48 #[.pointer (some ⟨d, 0, none⟩), opV o] w fun e w' => ∃ vv', e = .returned (.bool (Dv.step D o).2) ∧ IsD w' d gs c vv' (Dv.step D o).1 ∧ DkTo w d gs c vv w' vv' := by
  have HH := hid h
  have HF := hid hF
  have hne := hid h.ne
  clear h hF
  obtain ⟨ao, cp, hvv⟩ := ownsRow_slice HH.out.vw
  obtain ⟨n, hn⟩ : ∃ n, n = D.view.length := ⟨_, rfl⟩
  rw [← hn] at hvv
  subst hvv
  have HN := hid hn
  clear hn
  unfold opV opC
  go_enter Try.func48, Try.ntmps48
  go_upto_region 1 with (fail)
  have hk0 : KeptQ (fun _ => False) w (w.alloc (.cells (opC o) 78)) := KeptQ.alloc _ _
  have HB0 := hid ((Below.refl w.heap.size w).alloc (Nat.le_refl _) (.cells (opC o) 78))
  have HA0 := hid (heap_alloc_new w (.cells (opC o) 78))
  have H0 := hid (HH.out.below ((Below.refl _ w).alloc (Nat.le_refl _) (.cells (opC o) 78)))
  unfold opC at hk0 HA0 H0 HB0
  generalize w.alloc _ = w0 at *
  obtain ⟨c0, c1, c2, c3, c4, c5, c6, c7⟩ := dkC_cells H0.out.row
  by_cases hl0 : D.left = 0
  · have hst : Dv.step D o = (Dv.crash D, false) := if_pos hl0
    have hcr := crash_any d gs c _ D HF.out.mask w0 H0.out
    have g0 : (D.left == 0) = true := by simpa using hl0
    go_wp2_with (go_at_call 62; refine hcr.mono ?_; rintro e w1 ⟨rfl, hd1, hk1⟩)
    refine bodyPost_ret (results_tmp rfl _ _ _) rfl ⟨_, by rw [hst]; rfl, by rw [hst]; exact hd1, (DkTo.below HB0.out).trans (DkTo.of hk1 ?_)⟩
    rintro k (rfl | rfl | rfl)
    · exact Or.inl rfl
    · exact Or.inr (Or.inl rfl)
    · exact Or.inr (Or.inr (Or.inl rfl))
  · obtain ⟨L, hL⟩ : ∃ L, L = (if 0 < D.left then D.left - 1 else D.left) := ⟨_, rfl⟩
    have hst : Dv.step D o = ({ D with left := L, view := D.view ++ [o], steps := D.steps + 1 }, true) := by rw [hL]; exact if_neg hl0
    have HVL := hid (show n = D.steps from HN.out.trans HF.out.view)
    have hvl : (n : Int) < 4096 := by have := HVL.out; have := HF.out.steps; omega
    by_cases hl1 : 0 < D.left
    · have f3 := frozen_of_row w0 d 3 _ _ H0.out.row
      have hwr : IntKind.i64.wrap (D.left - 1) = D.left - 1 := by rw [IntKind.wrap_i64]; have := HF.out.left; omega
      go_upto_region 6 with (fail)
      rw [if_pos hl1] at hL
      subst hL
      generalize hW1 : w0.setCell _ _ = w1
      have hot := fun k (hk : k ≠ d) => (show w1.heap[k]? = w0.heap[k]? from by rw [← hW1, heap_setCell_other _ ⟨d, 3, none⟩ k _ hk])
      have hrow : w1.heap[d]? = some (.cells (dkC gs c (.slice ao n cp) { D with left := D.left - 1 }) 65 (0, 0)) := by
        rw [← hW1, heap_setCell_same _ d 3 _ _ _ H0.out.row]
        rfl
      obtain ⟨n1, n2, n3, n4, n5, n6⟩ := hne.out
      have H1 : IsD w1 d gs c (.slice ao n cp) { D with left := D.left - 1 } := by
        obtain ⟨ss, rr, hc⟩ := H0.out.ch
        exact ⟨hrow, H0.out.st.at (hot gs (Ne.symm n1)), ⟨ss, rr, (hot c (Ne.symm n2)).trans hc⟩, ownsRow_at H0.out.vw (fun g hg => hot g (fun e => n4 (by rw [← e]; exact hg))), H0.out.room, H0.out.capb, H0.out.pages, H0.out.okQ⟩
      obtain ⟨D1, hD1⟩ : ∃ D1 : Dv.D, D1 = { D with left := D.left - 1 } := ⟨_, rfl⟩
      have HD1 := hid (show IsD w1 d gs c (.slice ao n cp) D1 from by rw [hD1]; exact H1)
      have HV1 := hid (show n = D1.view.length from by rw [hD1]; exact HN.out)
      have HS1 := hid (show D1.steps < 4000 from by rw [hD1]; exact HF.out.steps)
      have HST := hid (show Dv.step D o = ({ D1 with view := D1.view ++ [o], steps := D1.steps + 1 }, true) from by rw [hD1]; exact hst)
      have HT1 := hid (show DkTo w d gs c (.slice ao n cp) w1 (.slice ao n cp) from (DkTo.below HB0.out).trans (DkTo.of (p := fun k => k = d) (by rw [← hW1]; exact KeptQ.setCell _ _ _ rfl) (fun k hk => Or.inl hk)))
      have hlt := HH.out.ltd
      have HX1 := hid ((hot w.heap.size (by omega)).trans HA0.out)
      clear hW1 hot hrow H1 n1 n2 n3 n4 n5 n6 c0 c1 c2 c3 c4 c5 c6 c7 f3 hwr hk0
      clear hD1 hst hl0 hl1 HA0 H0 HB0
      obtain ⟨_, _, _, _, _, c5, c6, _⟩ := dkC_cells HD1.out.row
      go_upto_region 7 with (fail)
      have hS1 : (fun W : World => W.heap[d]? = some (.cells (dkC gs c (.slice ao n cp) D1) 65 (0, 0)) ∧ W.heap[w.heap.size]? = some (.cells (opC o) 78 (0, 0))) w1.drew := ⟨HD1.out.row, HX1.out⟩
      refine wp_region_noPanic ?_
      refine wp_region_L 10 (fun W : World => W.heap[d]? = some (.cells (dkC gs c (.slice ao n cp) D1) 65 (0, 0)) ∧ W.heap[w.heap.size]? = some (.cells (opC o) 78 (0, 0))) (by kernel_rfl) 11 rfl (fun hcl0 => ?_)
      refine wpAnyL_take (i := 0) (oi := ?oi2) (v := .pointer (some ⟨d, 0, none⟩)) ?hi2 (by kernel_rfl) (by kernel_rfl) (by kernel_rfl) (by kernel_rfl) hcl0 (fun _ _ _ h => h) ?hy2 hS1 (fun hcl1 => ?_)
      case hi2 => simp only [List.getElem?_toArray, List.getElem?_cons_zero]; rfl
      case hy2 => exact Or.inl ⟨rfl, fun _ hSw => rfl⟩
      simp only [Act.put, List.setIfInBounds_toArray, List.set_cons_zero, List.set_cons_succ]
      refine wpAnyL_take (i := 1) (oi := ?oi3) (v := .pointer (some ⟨d, 0, none⟩)) ?hi3 (by kernel_rfl) (by kernel_rfl) (by kernel_rfl) (by kernel_rfl) hcl1 (fun _ _ _ h => h) ?hy3 hS1 (fun hcl2 => ?_)
      case hi3 => simp only [List.getElem?_toArray, List.getElem?_cons_succ, List.getElem?_cons_zero]; rfl
      case hy3 => exact Or.inl ⟨rfl, fun _ hSw => rfl⟩
      simp only [Act.put, List.setIfInBounds_toArray, List.set_cons_zero, List.set_cons_succ]
      refine wpAnyL_take (i := 2) (oi := ?oi4) (v := .pointer (some ⟨d, 0, none⟩)) ?hi4 (by kernel_rfl) (by kernel_rfl) (by kernel_rfl) (by kernel_rfl) hcl2 (fun _ _ _ h => h) ?hy4 hS1 (fun hcl3 => ?_)
      case hi4 => simp only [List.getElem?_toArray, List.getElem?_cons_succ, List.getElem?_cons_zero]; rfl
      case hy4 => exact Or.inl ⟨rfl, fun _ hSw => by go_simp⟩
      simp only [Act.put, List.setIfInBounds_toArray, List.set_cons_zero, List.set_cons_succ]
      refine wpAnyL_take (i := 3) (oi := ?oi5) (v := .pointer (some ⟨d, 6, none⟩)) ?hi5 (by kernel_rfl) (by kernel_rfl) (by kernel_rfl) (by kernel_rfl) hcl3 (fun _ _ _ h => h) ?hy5 hS1 (fun hcl4 => ?_)
      case hi5 => simp only [List.getElem?_toArray, List.getElem?_cons_succ, List.getElem?_cons_zero]; rfl
      case hy5 => exact Or.inl ⟨rfl, fun _ hSw => by go_simp⟩
      simp only [Act.put, List.setIfInBounds_toArray, List.set_cons_zero, List.set_cons_succ]
      refine wpAnyL_take (i := 4) (oi := ?oi6) (v := .slice ao n cp) ?hi6 (by kernel_rfl) (by kernel_rfl) (by kernel_rfl) (by kernel_rfl) hcl4 (fun _ _ _ h => h) ?hy6 hS1 (fun hcl5 => ?_)
      case hi6 => simp only [List.getElem?_toArray, List.getElem?_cons_succ, List.getElem?_cons_zero]; rfl
      case hy6 => exact Or.inl ⟨rfl, fun _ hSw => by have hc := (dkC_cells hSw.1).2.2.2.2.2.2.1; go_simp⟩
      simp only [Act.put, List.setIfInBounds_toArray, List.set_cons_zero, List.set_cons_succ]
      refine wpAnyL_take (i := 5) (oi := ?oi7) (v := .agg (opC o).toList.toArray) ?hi7 (by kernel_rfl) (by kernel_rfl) (by kernel_rfl) (by kernel_rfl) hcl5 (fun _ _ _ h => h) ?hy7 hS1 (fun hcl6 => ?_)
      case hi7 => simp only [List.getElem?_toArray, List.getElem?_cons_succ, List.getElem?_cons_zero]; rfl
      case hy7 => 
        refine yieldsIf_load_mid ?w7 _ ?x7 ?o7 w.heap.size 0 ?e7 (opC o).toList _ ?s7 Try.underlying78 rfl infoOp'
        case o7 => rfl
        case w7 => rfl
        case e7 => rfl
        case s7 => intro _ hSw; exact range_row hSw.2
      simp only [Act.put, List.setIfInBounds_toArray, List.set_cons_zero, List.set_cons_succ, Array.toArray_toList]
      clear hcl0 hcl1 hcl2 hcl3 hcl4 hcl5 hcl6
      refine wpAnyL_one (i := 6) (o := ?oi8) (by kernel_rfl) ?hi8 ?hw8 ?step8
      case hi8 => simp only [List.getElem?_toArray, List.getElem?_cons_succ, List.getElem?_cons_zero]; rfl
      case hw8 => rfl
      intro K hK
      unfold opC
      go_simp
      have hb6 : Below w1.heap.size w1 (w1.alloc (.cells #[.int .i64 (o.1 : Int), .int .i64 (o.2.1 : Int), .string o.2.2] 78)).drew := ((Below.refl _ w1).alloc (Nat.le_refl _) _).drew
      have hn6 := heap_alloc_new w1 (.cells #[.int .i64 (o.1 : Int), .int .i64 (o.2.1 : Int), .string o.2.2] 78)
      have hn6' : (w1.alloc (.cells #[.int .i64 (o.1 : Int), .int .i64 (o.2.1 : Int), .string o.2.2] 78)).drew.heap[w1.heap.size]? = some (.cells (opC o) 78 (0, 0)) := hn6
      generalize (w1.alloc (.cells #[.int .i64 (o.1 : Int), .int .i64 (o.2.1 : Int), .string o.2.2] 78)).drew = w6 at *
      have HB6 := hid hb6
      have HN6 := hid hn6'
      have H6 := hid (HD1.out.below hb6)
      have HX6 := hid ((hb6.block _ (Array.getElem?_eq_some_iff.1 HX1.out).1).trans HX1.out)
      clear hb6 hn6 hn6'
      refine hK.out _ _ (fun _ => ⟨H6.out.row, HX6.out⟩) ?_
      clear hK K hS1
      try simp only [Act.put, List.setIfInBounds_toArray, List.set_cons_zero, List.set_cons_succ]
      refine wpAnyL_one (i := 7) (o := ?oi9) (by kernel_rfl) ?hi9 ?hw9 ?step9
      case hi9 => simp only [List.getElem?_toArray, List.getElem?_cons_succ, List.getElem?_cons_zero]; rfl
      case hw9 => rfl
      intro K hK
      refine wp_appOp _ _ rfl (.slice ao n cp) D1.view rfl H6.out.vw _ o rfl (fun j u hj => by rw [Addr.add_lit, Nat.zero_add, cell_of_row _ _ _ _ _ _ HN6.out, ← Array.getElem?_toList]; exact hj) (by have := HF.out.steps; have := HV1.out; have := HVL.out; omega) ?_
      intro v' w7 ho7 hg7 hv7
      have hne7 : some d ≠ (Value.slice ao n cp).ownBlock ∧ some w.heap.size ≠ (Value.slice ao n cp).ownBlock := ⟨hne.out.2.2.2.1, fun e => by obtain ⟨cs, hv⟩ := HH.out.vblock e; have := (Array.getElem?_eq_some_iff.1 hv).1; omega⟩
      have hr7 := (hg7.block d H6.out.ltd hne7.1).trans H6.out.row
      have hx7 := (hg7.block w.heap.size (Array.getElem?_eq_some_iff.1 HX6.out).1 hne7.2).trans HX6.out
      refine hK.out _ _ (fun _ => ⟨hr7, hx7⟩) ?_
      clear hK K
      try simp only [Act.put, List.setIfInBounds_toArray, List.set_cons_zero, List.set_cons_succ]
      refine wpAnyL_one (i := 8) (o := ?oi10) (by kernel_rfl) ?hi10 ?hw10 ?step10
      case hi10 => simp only [List.getElem?_toArray, List.getElem?_cons_succ, List.getElem?_cons_zero]; rfl
      case hw10 => rfl
      intro K hK
      go_simp
      refine hK.out _ _ (fun _ => ⟨hr7, hx7⟩) ?_
      clear hK K
      try simp only [Act.put, List.setIfInBounds_toArray, List.set_cons_zero, List.set_cons_succ]
      refine wpAnyL_one (i := 9) (o := ?oi11) (by kernel_rfl) ?hi11 ?hw11 ?step11
      case hi11 => simp only [List.getElem?_toArray, List.getElem?_cons_succ, List.getElem?_cons_zero]; rfl
      case hw11 => rfl
      intro K hK
      go_simp
      refine hK.out _ _ (fun _ => ⟨hr7, hx7⟩) ?_
      clear hK K
      try simp only [Act.put, List.setIfInBounds_toArray, List.set_cons_zero, List.set_cons_succ]
      refine wpAnyL_one (i := 10) (o := ?oi12) (by kernel_rfl) ?hi12 ?hw12 ?step12
      case hi12 => simp only [List.getElem?_toArray, List.getElem?_cons_succ, List.getElem?_cons_zero]; rfl
      case hw12 => rfl
      intro K hK
      have hfz := frozen_of_row w7 d 6 _ _ hr7
      have hcz := (dkC_cells hr7).2.2.2.2.2.2.1
      obtain ⟨ao7, cp7, hvv7⟩ := ownsRow_slice ho7
      rw [List.length_append, List.length_singleton] at hvv7
      have HVV := hid hvv7
      go_simp
      refine hK.out _ _ (fun h => absurd rfl h) ?_
      clear hK K
      try simp only [Act.put, List.setIfInBounds_toArray, List.set_cons_zero, List.set_cons_succ]
      refine wpAnyL_done (by kernel_rfl) ?_ _
      refine NoPanic.normal ?_
      rw [← HVV.out]
      generalize hW8 : w7.setCell _ _ = w8
      have hot := fun k (hk : k ≠ d) => (show w8.heap[k]? = w7.heap[k]? from by rw [← hW8, heap_setCell_other _ ⟨d, 6, none⟩ k _ hk])
      have hsz8 : w8.heap.size = w7.heap.size := by rw [← hW8]; simp [World.setCell]
      have hos8 : w8.os = w7.os ∧ w8.tape = w7.tape ∧ w8.output = w7.output := by rw [← hW8]; exact ⟨rfl, rfl, rfl⟩
      have hrow8 : w8.heap[d]? = some (.cells (dkC gs c v' { D1 with view := D1.view ++ [o] }) 65 (0, 0)) := by
        rw [← hW8, heap_setCell_same _ d 6 _ _ _ hr7]
        rfl
      have hvd : ∀ k, some k = v'.ownBlock → k ≠ d := by
        intro k hk he
        subst he
        rcases hv7 k hk with h1 | h1
        · exact hne7.1 h1
        · have := H6.out.ltd; omega
      have H8 := hid (show IsD w8 d gs c v' { D1 with view := D1.view ++ [o] } from by
        obtain ⟨n1, n2, n3, n4, n5, n6⟩ := hne.out
        obtain ⟨ss, rr, hc⟩ := H6.out.ch
        exact ⟨hrow8, H6.out.st.at ((hot gs (Ne.symm n1)).trans (hg7.block gs H6.out.st.lt n5)), ⟨ss, rr, ((hot c (Ne.symm n2)).trans (hg7.block c H6.out.ltc n6)).trans hc⟩, ownsRow_at ho7 (fun g hg => hot g (hvd g hg)), H6.out.room, H6.out.capb, H6.out.pages, H6.out.okQ⟩)
      have HT8 := hid (show DkTo w d gs c (.slice ao n cp) w8 v' from by
        refine (HT1.out.trans (DkTo.below HB6.out)).trans ⟨⟨hos8.1.trans hg7.os, hos8.2.1.trans hg7.tape, hos8.2.2.trans hg7.output, by rw [hsz8]; exact hg7.size, fun k hk hp => ?_⟩, hv7⟩
        exact (hot k (fun e => hp (Or.inl e))).trans (hg7.block k hk (fun e => hp (Or.inr (Or.inr (Or.inr e))))))
      clear hvd hrow8 hot hsz8 hos8 hW8 hx7 hr7 hne7 hfz hcz ho7 hg7 hv7 hvv7 c5 c6 HN6 HB6 H6 HX6
      obtain ⟨_, _, _, _, _, c5, _, _⟩ := dkC_cells H8.out.row
      have f5 := frozen_of_row w8 d 5 _ _ H8.out.row
      have hws : IntKind.i64.wrap ((D1.steps : Int) + 1) = ((D1.steps + 1 : Nat) : Int) := by rw [IntKind.wrap_i64]; have := HS1.out; omega
      go_wp2
      generalize hW9 : w8.setCell _ _ = w9
      have hot := fun k (hk : k ≠ d) => (show w9.heap[k]? = w8.heap[k]? from by rw [← hW9, heap_setCell_other _ ⟨d, 5, none⟩ k _ hk])
      have hrow9 : w9.heap[d]? = some (.cells (dkC gs c v' { D1 with view := D1.view ++ [o], steps := D1.steps + 1 }) 65 (0, 0)) := by
        rw [← hW9, heap_setCell_same _ d 5 _ _ _ H8.out.row]
        rfl
      have hk9 : KeptQ (fun k => k = d) w8 w9 := by rw [← hW9]; exact KeptQ.setCell _ _ _ rfl
      refine bodyPost_ret (results_tmp rfl _ _ _) rfl ⟨by rw [HST.out]; rfl, v', ?_, HT8.out.trans (DkTo.of hk9 (fun k hk => Or.inl hk))⟩
      rw [HST.out]
      obtain ⟨n1, n2, n3, n4, n5, n6⟩ := H8.out.ne
      obtain ⟨ss, rr, hc⟩ := H8.out.ch
      exact ⟨hrow9, H8.out.st.at (hot gs (Ne.symm n1)), ⟨ss, rr, (hot c (Ne.symm n2)).trans hc⟩, ownsRow_at H8.out.vw (fun g hg => hot g (fun e => n4 (by rw [← e]; exact hg))), H8.out.room, H8.out.capb, H8.out.pages, H8.out.okQ⟩
    · go_upto_region 6 with (fail)
      rw [if_neg hl1] at hL
      subst hL
      obtain ⟨D1, hD1⟩ : ∃ D1 : Dv.D, D1 = D := ⟨_, rfl⟩
      have HD1 := hid (show IsD w0 d gs c (.slice ao n cp) D1 from by rw [hD1]; exact H0.out)
      have HV1 := hid (show n = D1.view.length from by rw [hD1]; exact HN.out)
      have HS1 := hid (show D1.steps < 4000 from by rw [hD1]; exact HF.out.steps)
      have HST := hid (show Dv.step D o = ({ D1 with view := D1.view ++ [o], steps := D1.steps + 1 }, true) from by rw [hD1]; exact hst)
      have hlt := HH.out.ltd
      have HT1 := hid (show DkTo w d gs c (.slice ao n cp) w0 (.slice ao n cp) from DkTo.below HB0.out)
      have HX1 := HA0
      generalize w0 = w1 at *
      clear c0 c1 c2 c3 c4 c5 c6 c7 hk0
      clear hD1 hst hl0 hl1 HA0 H0 HB0
      obtain ⟨_, _, _, _, _, c5, c6, _⟩ := dkC_cells HD1.out.row
      go_upto_region 7 with (fail)
      have hS1 : (fun W : World => W.heap[d]? = some (.cells (dkC gs c (.slice ao n cp) D1) 65 (0, 0)) ∧ W.heap[w.heap.size]? = some (.cells (opC o) 78 (0, 0))) w1.drew := ⟨HD1.out.row, HX1.out⟩
      refine wp_region_noPanic ?_
      refine wp_region_L 10 (fun W : World => W.heap[d]? = some (.cells (dkC gs c (.slice ao n cp) D1) 65 (0, 0)) ∧ W.heap[w.heap.size]? = some (.cells (opC o) 78 (0, 0))) (by kernel_rfl) 11 rfl (fun hcl0 => ?_)
      refine wpAnyL_take (i := 0) (oi := ?oi14) (v := .pointer (some ⟨d, 0, none⟩)) ?hi14 (by kernel_rfl) (by kernel_rfl) (by kernel_rfl) (by kernel_rfl) hcl0 (fun _ _ _ h => h) ?hy14 hS1 (fun hcl1 => ?_)
      case hi14 => simp only [List.getElem?_toArray, List.getElem?_cons_zero]; rfl
      case hy14 => exact Or.inl ⟨rfl, fun _ hSw => rfl⟩
      simp only [Act.put, List.setIfInBounds_toArray, List.set_cons_zero, List.set_cons_succ]
      refine wpAnyL_take (i := 1) (oi := ?oi15) (v := .pointer (some ⟨d, 0, none⟩)) ?hi15 (by kernel_rfl) (by kernel_rfl) (by kernel_rfl) (by kernel_rfl) hcl1 (fun _ _ _ h => h) ?hy15 hS1 (fun hcl2 => ?_)
      case hi15 => simp only [List.getElem?_toArray, List.getElem?_cons_succ, List.getElem?_cons_zero]; rfl
      case hy15 => exact Or.inl ⟨rfl, fun _ hSw => rfl⟩
      simp only [Act.put, List.setIfInBounds_toArray, List.set_cons_zero, List.set_cons_succ]
      refine wpAnyL_take (i := 2) (oi := ?oi16) (v := .pointer (some ⟨d, 0, none⟩)) ?hi16 (by kernel_rfl) (by kernel_rfl) (by kernel_rfl) (by kernel_rfl) hcl2 (fun _ _ _ h => h) ?hy16 hS1 (fun hcl3 => ?_)
      case hi16 => simp only [List.getElem?_toArray, List.getElem?_cons_succ, List.getElem?_cons_zero]; rfl
      case hy16 => exact Or.inl ⟨rfl, fun _ hSw => by go_simp⟩
      simp only [Act.put, List.setIfInBounds_toArray, List.set_cons_zero, List.set_cons_succ]
      refine wpAnyL_take (i := 3) (oi := ?oi17) (v := .pointer (some ⟨d, 6, none⟩)) ?hi17 (by kernel_rfl) (by kernel_rfl) (by kernel_rfl) (by kernel_rfl) hcl3 (fun _ _ _ h => h) ?hy17 hS1 (fun hcl4 => ?_)
      case hi17 => simp only [List.getElem?_toArray, List.getElem?_cons_succ, List.getElem?_cons_zero]; rfl
      case hy17 => exact Or.inl ⟨rfl, fun _ hSw => by go_simp⟩
      simp only [Act.put, List.setIfInBounds_toArray, List.set_cons_zero, List.set_cons_succ]
      refine wpAnyL_take (i := 4) (oi := ?oi18) (v := .slice ao n cp) ?hi18 (by kernel_rfl) (by kernel_rfl) (by kernel_rfl) (by kernel_rfl) hcl4 (fun _ _ _ h => h) ?hy18 hS1 (fun hcl5 => ?_)
      case hi18 => simp only [List.getElem?_toArray, List.getElem?_cons_succ, List.getElem?_cons_zero]; rfl
      case hy18 => exact Or.inl ⟨rfl, fun _ hSw => by have hc := (dkC_cells hSw.1).2.2.2.2.2.2.1; go_simp⟩
      simp only [Act.put, List.setIfInBounds_toArray, List.set_cons_zero, List.set_cons_succ]
      refine wpAnyL_take (i := 5) (oi := ?oi19) (v := .agg (opC o).toList.toArray) ?hi19 (by kernel_rfl) (by kernel_rfl) (by kernel_rfl) (by kernel_rfl) hcl5 (fun _ _ _ h => h) ?hy19 hS1 (fun hcl6 => ?_)
      case hi19 => simp only [List.getElem?_toArray, List.getElem?_cons_succ, List.getElem?_cons_zero]; rfl
      case hy19 => 
        refine yieldsIf_load_mid ?w19 _ ?x19 ?o19 w.heap.size 0 ?e19 (opC o).toList _ ?s19 Try.underlying78 rfl infoOp'
        case o19 => rfl
        case w19 => rfl
        case e19 => rfl
        case s19 => intro _ hSw; exact range_row hSw.2
      simp only [Act.put, List.setIfInBounds_toArray, List.set_cons_zero, List.set_cons_succ, Array.toArray_toList]
      clear hcl0 hcl1 hcl2 hcl3 hcl4 hcl5 hcl6
      refine wpAnyL_one (i := 6) (o := ?oi20) (by kernel_rfl) ?hi20 ?hw20 ?step20
      case hi20 => simp only [List.getElem?_toArray, List.getElem?_cons_succ, List.getElem?_cons_zero]; rfl
      case hw20 => rfl
      intro K hK
      unfold opC
      go_simp
      have hb6 : Below w1.heap.size w1 (w1.alloc (.cells #[.int .i64 (o.1 : Int), .int .i64 (o.2.1 : Int), .string o.2.2] 78)).drew := ((Below.refl _ w1).alloc (Nat.le_refl _) _).drew
      have hn6 := heap_alloc_new w1 (.cells #[.int .i64 (o.1 : Int), .int .i64 (o.2.1 : Int), .string o.2.2] 78)
      have hn6' : (w1.alloc (.cells #[.int .i64 (o.1 : Int), .int .i64 (o.2.1 : Int), .string o.2.2] 78)).drew.heap[w1.heap.size]? = some (.cells (opC o) 78 (0, 0)) := hn6
      generalize (w1.alloc (.cells #[.int .i64 (o.1 : Int), .int .i64 (o.2.1 : Int), .string o.2.2] 78)).drew = w6 at *
      have HB6 := hid hb6
      have HN6 := hid hn6'
      have H6 := hid (HD1.out.below hb6)
      have HX6 := hid ((hb6.block _ (Array.getElem?_eq_some_iff.1 HX1.out).1).trans HX1.out)
      clear hb6 hn6 hn6'
      refine hK.out _ _ (fun _ => ⟨H6.out.row, HX6.out⟩) ?_
      clear hK K hS1
      try simp only [Act.put, List.setIfInBounds_toArray, List.set_cons_zero, List.set_cons_succ]
      refine wpAnyL_one (i := 7) (o := ?oi21) (by kernel_rfl) ?hi21 ?hw21 ?step21
      case hi21 => simp only [List.getElem?_toArray, List.getElem?_cons_succ, List.getElem?_cons_zero]; rfl
      case hw21 => rfl
      intro K hK
      refine wp_appOp _ _ rfl (.slice ao n cp) D1.view rfl H6.out.vw _ o rfl (fun j u hj => by rw [Addr.add_lit, Nat.zero_add, cell_of_row _ _ _ _ _ _ HN6.out, ← Array.getElem?_toList]; exact hj) (by have := HF.out.steps; have := HV1.out; have := HVL.out; omega) ?_
      intro v' w7 ho7 hg7 hv7
      have hne7 : some d ≠ (Value.slice ao n cp).ownBlock ∧ some w.heap.size ≠ (Value.slice ao n cp).ownBlock := ⟨hne.out.2.2.2.1, fun e => by obtain ⟨cs, hv⟩ := HH.out.vblock e; have := (Array.getElem?_eq_some_iff.1 hv).1; omega⟩
      have hr7 := (hg7.block d H6.out.ltd hne7.1).trans H6.out.row
      have hx7 := (hg7.block w.heap.size (Array.getElem?_eq_some_iff.1 HX6.out).1 hne7.2).trans HX6.out
      refine hK.out _ _ (fun _ => ⟨hr7, hx7⟩) ?_
      clear hK K
      try simp only [Act.put, List.setIfInBounds_toArray, List.set_cons_zero, List.set_cons_succ]
      refine wpAnyL_one (i := 8) (o := ?oi22) (by kernel_rfl) ?hi22 ?hw22 ?step22
      case hi22 => simp only [List.getElem?_toArray, List.getElem?_cons_succ, List.getElem?_cons_zero]; rfl
      case hw22 => rfl
      intro K hK
      go_simp
      refine hK.out _ _ (fun _ => ⟨hr7, hx7⟩) ?_
      clear hK K
      try simp only [Act.put, List.setIfInBounds_toArray, List.set_cons_zero, List.set_cons_succ]
      refine wpAnyL_one (i := 9) (o := ?oi23) (by kernel_rfl) ?hi23 ?hw23 ?step23
      case hi23 => simp only [List.getElem?_toArray, List.getElem?_cons_succ, List.getElem?_cons_zero]; rfl
      case hw23 => rfl
      intro K hK
      go_simp
      refine hK.out _ _ (fun _ => ⟨hr7, hx7⟩) ?_
      clear hK K
      try simp only [Act.put, List.setIfInBounds_toArray, List.set_cons_zero, List.set_cons_succ]
      refine wpAnyL_one (i := 10) (o := ?oi24) (by kernel_rfl) ?hi24 ?hw24 ?step24
      case hi24 => simp only [List.getElem?_toArray, List.getElem?_cons_succ, List.getElem?_cons_zero]; rfl
      case hw24 => rfl
      intro K hK
      have hfz := frozen_of_row w7 d 6 _ _ hr7
      have hcz := (dkC_cells hr7).2.2.2.2.2.2.1
      obtain ⟨ao7, cp7, hvv7⟩ := ownsRow_slice ho7
      rw [List.length_append, List.length_singleton] at hvv7
      have HVV := hid hvv7
      go_simp
      refine hK.out _ _ (fun h => absurd rfl h) ?_
      clear hK K
      try simp only [Act.put, List.setIfInBounds_toArray, List.set_cons_zero, List.set_cons_succ]
      refine wpAnyL_done (by kernel_rfl) ?_ _
      refine NoPanic.normal ?_
      rw [← HVV.out]
      generalize hW8 : w7.setCell _ _ = w8
      have hot := fun k (hk : k ≠ d) => (show w8.heap[k]? = w7.heap[k]? from by rw [← hW8, heap_setCell_other _ ⟨d, 6, none⟩ k _ hk])
      have hsz8 : w8.heap.size = w7.heap.size := by rw [← hW8]; simp [World.setCell]
      have hos8 : w8.os = w7.os ∧ w8.tape = w7.tape ∧ w8.output = w7.output := by rw [← hW8]; exact ⟨rfl, rfl, rfl⟩
      have hrow8 : w8.heap[d]? = some (.cells (dkC gs c v' { D1 with view := D1.view ++ [o] }) 65 (0, 0)) := by
        rw [← hW8, heap_setCell_same _ d 6 _ _ _ hr7]
        rfl
      have hvd : ∀ k, some k = v'.ownBlock → k ≠ d := by
        intro k hk he
        subst he
        rcases hv7 k hk with h1 | h1
        · exact hne7.1 h1
        · have := H6.out.ltd; omega
      have H8 := hid (show IsD w8 d gs c v' { D1 with view := D1.view ++ [o] } from by
        obtain ⟨n1, n2, n3, n4, n5, n6⟩ := hne.out
        obtain ⟨ss, rr, hc⟩ := H6.out.ch
        exact ⟨hrow8, H6.out.st.at ((hot gs (Ne.symm n1)).trans (hg7.block gs H6.out.st.lt n5)), ⟨ss, rr, ((hot c (Ne.symm n2)).trans (hg7.block c H6.out.ltc n6)).trans hc⟩, ownsRow_at ho7 (fun g hg => hot g (hvd g hg)), H6.out.room, H6.out.capb, H6.out.pages, H6.out.okQ⟩)
      have HT8 := hid (show DkTo w d gs c (.slice ao n cp) w8 v' from by
        refine (HT1.out.trans (DkTo.below HB6.out)).trans ⟨⟨hos8.1.trans hg7.os, hos8.2.1.trans hg7.tape, hos8.2.2.trans hg7.output, by rw [hsz8]; exact hg7.size, fun k hk hp => ?_⟩, hv7⟩
        exact (hot k (fun e => hp (Or.inl e))).trans (hg7.block k hk (fun e => hp (Or.inr (Or.inr (Or.inr e))))))
      clear hvd hrow8 hot hsz8 hos8 hW8 hx7 hr7 hne7 hfz hcz ho7 hg7 hv7 hvv7 c5 c6 HN6 HB6 H6 HX6
      obtain ⟨_, _, _, _, _, c5, _, _⟩ := dkC_cells H8.out.row
      have f5 := frozen_of_row w8 d 5 _ _ H8.out.row
      have hws : IntKind.i64.wrap ((D1.steps : Int) + 1) = ((D1.steps + 1 : Nat) : Int) := by rw [IntKind.wrap_i64]; have := HS1.out; omega
      go_wp2
      generalize hW9 : w8.setCell _ _ = w9
      have hot := fun k (hk : k ≠ d) => (show w9.heap[k]? = w8.heap[k]? from by rw [← hW9, heap_setCell_other _ ⟨d, 5, none⟩ k _ hk])
      have hrow9 : w9.heap[d]? = some (.cells (dkC gs c v' { D1 with view := D1.view ++ [o], steps := D1.steps + 1 }) 65 (0, 0)) := by
        rw [← hW9, heap_setCell_same _ d 5 _ _ _ H8.out.row]
        rfl
      have hk9 : KeptQ (fun k => k = d) w8 w9 := by rw [← hW9]; exact KeptQ.setCell _ _ _ rfl
      refine bodyPost_ret (results_tmp rfl _ _ _) rfl ⟨by rw [HST.out]; rfl, v', ?_, HT8.out.trans (DkTo.of hk9 (fun k hk => Or.inl hk))⟩
      rw [HST.out]
      obtain ⟨n1, n2, n3, n4, n5, n6⟩ := H8.out.ne
      obtain ⟨ss, rr, hc⟩ := H8.out.ch
      exact ⟨hrow9, H8.out.st.at (hot gs (Ne.symm n1)), ⟨ss, rr, (hot c (Ne.symm n2)).trans hc⟩, ownsRow_at H8.out.vw (fun g hg => hot g (fun e => n4 (by rw [← e]; exact hg))), H8.out.room, H8.out.capb, H8.out.pages, H8.out.okQ⟩
end Go.Proofs.Ytkhkpcigjpibiaa
