/-
  Layer 11: Taken; Take of nothing.
-/
import Derived.Test.YtmlkbdkehoajaaaAl5
namespace Go.Proofs.Ytmlkbdkehoajaaa
open Go.RowKit Go.Shelf
open Go.Lib (hid)

attribute [local go_sem] Oper.semAt_some

set_option maxRecDepth 100000 in
set_option maxHeartbeats 1000000 in
theorem take0_any (b : Nat) (k : Int) (hk : k < 1) (w : World) :
    Calls Try.prog 13 #[.pointer (some ⟨b, 0, none⟩), .int .i64 k] w fun e w' => e = .returned (.tuple #[.agg #[.int .i64 0, .int .i64 0], .bool false]) ∧ Below w.heap.size w w' := by
  go_enter Try.func13, Try.ntmps13
  go_wp2
  refine bodyPost_ret (v := .tuple #[.agg #[.int .i64 0, .int .i64 0], .bool false]) ?_ rfl ⟨rfl, ?_⟩
  · refine results_take _ _ (w.heap.size + 1 + 1) (w.heap.size + 1 + 1 + 1) 0 0 false rfl rfl ?_ ?_
    · unfold SBox
      rw [Below.heap_alloc _ _ _ (by simp)]
      have := heap_alloc_new ((w.alloc (.cells #[.pointer (some ⟨b, 0, none⟩)] 24)).alloc (.cells #[.int .i64 k] 3)) (.cells #[.int .i64 0, .int .i64 0] 40)
      simpa using this
    · have := heap_alloc_new (((w.alloc (.cells #[.pointer (some ⟨b, 0, none⟩)] 24)).alloc (.cells #[.int .i64 k] 3)).alloc (.cells #[.int .i64 0, .int .i64 0] 40)) (.cells #[.bool false] 4)
      unfold Boxed
      simpa using this
  · exact ((((Below.refl _ w).alloc (Nat.le_refl _) _).alloc (by simp) _).alloc (by simp; omega) _).alloc (by simp; omega) _

theorem infoSp : (Try.prog.info? 40).map (fun i => (i.zero, i.size, i.bytes)) = some (some (.agg #[.int .i64 0, .int .i64 0]), 2, 16) := by kernel_rfl
/-- Spans' cells. -/
def spC (l : List (Nat × Nat)) : List Value := l.flatMap fun x => [.int .i64 (x.1 : Int), .int .i64 (x.2 : Int)]
theorem spC_snoc (l : List (Nat × Nat)) (x : Nat × Nat) : spC (l ++ [x]) = spC l ++ [.int .i64 (x.1 : Int), .int .i64 (x.2 : Int)] := by simp [spC]
theorem cell_two_sp (w : World) (F C : Int) (t : TypeId) (j : Nat) (u : Value) (h : ([.int .i64 F, .int .i64 C] : List Value)[j]? = some u) : (w.alloc (.cells #[.int .i64 F, .int .i64 C] t)).cell? ((⟨w.heap.size, 0, none⟩ : Addr).add j) = some u := by
  rw [Addr.add_mid, Nat.zero_add, cell_of_row _ _ _ _ _ _ (heap_alloc_new _ _)]
  simpa using h

set_option maxRecDepth 100000 in
set_option maxHeartbeats 4000000 in
theorem appendSeq_in (Bm Bt b g c : Nat) (L : List Bool) (t : Bool) (w : World) (bM : Boxed w Bm 24 (.pointer (some ⟨b, 0, none⟩))) (bT : Boxed w Bt 4 (.bool t)) (h : MapAt w b g c L) :
    CallsIn Fence.wide 9 Try.prog 32 #[.slice none 0 0, .func (.func 30) #[] #[.pointer (some ⟨Bm, 0, none⟩), .pointer (some ⟨Bt, 0, none⟩)]] w fun e w' => ∃ v, e = .returned v ∧ w'.ownsRow w.heap.size 40 2 v (Al.spans L t).length (spC (Al.spans L t)) ∧ Below w.heap.size w w' := by
  obtain ⟨i0, hi, hz0, hz1, hz2⟩ := info_parts infoSp
  refine callsIn_of_wp_marks Try.func32 rfl trivial ?_ rfl
  simp only [Try.ntmps32, List.size_toArray, List.length_cons, List.length_nil, Nat.reduceAdd, Nat.reduceSub, Array.replicate_succ, Array.replicate_zero, List.push_toArray, List.append_toArray, List.nil_append, List.cons_append]
  have hbl := h.lt
  have hgl := h.row.lt
  have hle := h.le
  have hml := bM.lt
  have htl := bT.lt
  gi_wp2
  have bO := Boxed.new w 39 (.slice none 0 0)
  have bM0 := bM.alloc (.cells #[.slice none 0 0] 39)
  have bT0 := bT.alloc (.cells #[.slice none 0 0] 39)
  have hB0 : Below w.heap.size w (w.alloc (.cells #[.slice none 0 0] 39)) := (Below.refl _ w).alloc (Nat.le_refl _) _
  have hM0 := h.below hB0
  have hsz : (w.alloc (.cells #[.slice none 0 0] 39)).heap.size = w.heap.size + 1 := by simp
  generalize w.alloc (.cells #[.slice none 0 0] 39) = W0 at *
  refine wpIn_rangeFunc_ownH rfl (by decide) (gf := 30) (lb := #[.pointer (some ⟨Bm, 0, none⟩), .pointer (some ⟨Bt, 0, none⟩)]) rfl trivial (enters_of Try.func30 (by kernel_rfl) rfl)
    (spans_stops (9 - 1) (by decide) Bm Bt w.heap.size b g c L t W0 bM0 bT0 (by omega) hbl hgl hM0) (fun h k => h.trans k) (kpS_b (by omega) (by omega) (by omega)) (Below.refl _ _) (fun _ => rfl)
    (fun pre W => (∃ v, Boxed W w.heap.size 39 v ∧ W.ownsRow w.heap.size 40 2 v (pre.map (·.1)).length (spC (pre.map (·.1))) ∧ True) ∧ (Below w.heap.size w W ∧ W0.heap.size ≤ W.heap.size))
    (fun _ _ _ => False)
    (OwnFrom.and (Own.from (holdsRow_own w.heap.size w.heap.size 39 40 2 (fun pre : List Sp4 => (pre.map (·.1)).length) (fun pre : List Sp4 => spC (pre.map (·.1))) (fun _ _ => True)) _) (OwnFrom.and (ownFrom_below (Nat.le_refl _) (by omega)) (ownFrom_size _ _)))
    (fun _ _ _ _ _ hs _ _ => hs)
    ⟨⟨_, bO, World.ownsRow_nil _ _ _ _, trivial⟩, hB0, Nat.le_refl _⟩
    (fun x a' W => ∃ Bx, w.heap.size < Bx ∧ SBox W Bx x.1.1 x.1.2 ∧ a' = { tmps := #[.slice none 0 0, .func (.func 30) #[] #[.pointer (some ⟨Bm, 0, none⟩), .pointer (some ⟨Bt, 0, none⟩)], .pointer (some ⟨w.heap.size, 0, none⟩), undef, .slice none 0 0, .pointer (some ⟨Bx, 0, none⟩), .func (.func 30) #[] #[.pointer (some ⟨Bm, 0, none⟩), .pointer (some ⟨Bt, 0, none⟩)], .agg #[.int .i64 (x.1.1 : Int), .int .i64 (x.1.2 : Int)], undef, undef, undef, undef, undef], defers := [] })
    (fun x a' _ X Y row hs hg hr => by obtain ⟨Bx, h1, h2, h3⟩ := hs; exact ⟨Bx, h1, ownFrom_block W0.heap.size Bx (fun (_ : Unit) => #[.int .i64 (x.1.1 : Int), .int .i64 (x.1.2 : Int)]) 40 () X Y row h2 hg hr, h3⟩)
    ?assign ?body ?done ?stop
  case assign =>
    rintro l pre x W K ⟨⟨v, hv, hrow, _⟩, hB1, hS1⟩ hK
    unfold spV
    gi_wp2
    exact hK _ _ ((KeepsOthers.alloc _ _).from _) (KpS.alloc W _ hB1.size (by omega) (by omega)) ⟨⟨v, hv.alloc _, hrow.alloc _, trivial⟩, hB1.alloc hB1.size _, Nat.le_trans hS1 (by simp)⟩ ⟨W.heap.size, hv.lt, heap_alloc_new _ _, rfl⟩
  case body =>
    rintro l pre x a' W hl ⟨r, hr⟩ ⟨⟨v, hv, hrow, _⟩, hB1, hS1⟩ ⟨Bx, hBx, hX, rfl⟩ hlt
    have x0 := hX.c0
    have x1 := hX.c1
    have hc := hv.cell
    have hpl : (pre.map (·.1)).length ≤ 4096 := by rw [List.length_map]; omega
    have HSN := hid (spC_snoc (pre.map (·.1)) x.1)
    generalize hpm : (pre.map (·.1)).length = m at *
    have HPM := hid hpm
    clear hpm
    gi_wp2_with (gi_at_builtin; refine wpListIn_append_own _ rfl _ _ 39 rfl w.heap.size 40 i0 (.agg #[.int .i64 0, .int .i64 0]) 2 16 Try.underlying39 hi hz0 hz1 hz2 rfl (by decide) _ m _ rfl (hrow.alloc _) ⟨W.heap.size, 0, none⟩ 1 1 [.int .i64 (x.1.1 : Int), .int .i64 (x.1.2 : Int)] rfl rfl (cell_two_sp _ _ _ _) (by simp [Value.oneCell']) (by unfold maxLen; omega) (by omega) (by have := hB1.size; simp; omega) ?_; intro v' w1 hown' hgrow _; obtain ⟨g', cap', rfl⟩ := ownsRow_succ hown'; obtain ⟨hv1, hv2, hr2, hk2, hb2⟩ := hv.appended (by decide) hrow hB1.size (Nat.le_refl _) hown' hgrow; have hc1 := hv1.cell; have hf1 := hv1.frozen)
    refine ⟨hk2.from _, ⟨hb2, hb2.block Bm hml, hb2.block Bt htl⟩, ⟨⟨_, hv2, ?_, trivial⟩, hB1.trans hb2, Nat.le_trans hS1 hb2.size⟩⟩
    rw [List.map_append, List.map_cons, List.map_nil, HSN.out, List.length_append, HPM.out]
    exact hr2
  case done =>
    rintro D ys W hD hys ⟨⟨v, hv, hrow, _⟩, hB1, _⟩ hK
    rw [hys] at hrow
    have hc := hv.cell
    gi_wp2
    refine ⟨by simp, .inl ⟨_, _, rfl, run_takeDeferred hK, ?_⟩⟩
    exact ⟨_, results_tmp rfl _ _ _, v, rfl, ownsRow_putObj hrow _ hK rfl, hB1.trans (belowK_b (w := w) (Nat.le_refl _) W D _ _ (by omega) hK rfl rfl)⟩
  case stop =>
    rintro D c pre W _ _ h _
    exact h.elim

set_option maxRecDepth 100000 in
set_option maxHeartbeats 1000000 in
theorem collect_any (Bm Bt b g c : Nat) (L : List Bool) (t : Bool) (w : World) (bM : Boxed w Bm 24 (.pointer (some ⟨b, 0, none⟩))) (bT : Boxed w Bt 4 (.bool t)) (h : MapAt w b g c L) :
    Calls Try.prog 28 #[.func (.func 30) #[] #[.pointer (some ⟨Bm, 0, none⟩), .pointer (some ⟨Bt, 0, none⟩)]] w fun e w' => ∃ v, e = .returned v ∧ w'.ownsRow w.heap.size 40 2 v (Al.spans L t).length (spC (Al.spans L t)) ∧ Below w.heap.size w w' := by
  have HC := hid (callsIn_wide.1 (appendSeq_in Bm Bt b g c L t w bM bT h))
  clear h bM bT
  go_enter Try.func28, Try.ntmps28
  go_wp2_with fail
  refine HC.out.mono ?_
  rintro e w1 ⟨v, rfl, hr, hb⟩
  go_wp2
  go_ret
  exact ⟨v, rfl, hr, hb⟩

set_option maxRecDepth 100000 in
set_option maxHeartbeats 1000000 in
theorem taken_any (b g c : Nat) (L : List Bool) (w : World) (h : MapAt w b g c L) :
    Calls Try.prog 19 #[.pointer (some ⟨b, 0, none⟩)] w fun e w' => ∃ v, e = .returned v ∧ w'.ownsRow w.heap.size 40 2 v (Al.spans L true).length (spC (Al.spans L true)) ∧ Below w.heap.size w w' := by
  have HS := hid (callsIn_wide.1 (spans_in 9 b true w))
  have hB0 : Below w.heap.size w ((w.alloc (.cells #[.pointer (some ⟨b, 0, none⟩)] 24)).alloc (.cells #[.bool true] 4)) := ((Below.refl _ w).alloc (Nat.le_refl _) _).alloc (by simp) _
  have bM : Boxed ((w.alloc (.cells #[.pointer (some ⟨b, 0, none⟩)] 24)).alloc (.cells #[.bool true] 4)) w.heap.size 24 (.pointer (some ⟨b, 0, none⟩)) := (Boxed.new w _ _).alloc _
  have bT : Boxed ((w.alloc (.cells #[.pointer (some ⟨b, 0, none⟩)] 24)).alloc (.cells #[.bool true] 4)) (w.heap.size + 1) 4 (.bool true) := by
    have := Boxed.new (w.alloc (.cells #[.pointer (some ⟨b, 0, none⟩)] 24)) 4 (.bool true)
    rwa [World.size_alloc] at this
  have HC := hid (collect_any w.heap.size (w.heap.size + 1) b g c L true _ bM bT (h.below hB0))
  have HB0 := hid hB0
  clear h bM bT hB0
  generalize (w.alloc (.cells #[.pointer (some ⟨b, 0, none⟩)] 24)).alloc (.cells #[.bool true] 4) = W1 at *
  go_enter Try.func19, Try.ntmps19
  go_wp2_with fail
  refine HS.out.mono ?_
  rintro e w1 ⟨rfl, hw1⟩
  obtain rfl : W1 = w1 := hw1.symm
  go_wp2_with fail
  refine HC.out.mono ?_
  rintro e w2 ⟨v, rfl, hr, hb⟩
  go_wp2
  go_ret
  obtain ⟨h1, h2⟩ := hr
  refine ⟨v, rfl, ⟨h1, ?_⟩, HB0.out.trans (hb.mono HB0.out.size)⟩
  rcases h2 with h2 | ⟨g', cap, cur, hv, hg, hh, r⟩
  · exact Or.inl h2
  · exact Or.inr ⟨g', cap, cur, hv, Nat.le_trans HB0.out.size hg, hh, r⟩
end Go.Proofs.Ytmlkbdkehoajaaa
