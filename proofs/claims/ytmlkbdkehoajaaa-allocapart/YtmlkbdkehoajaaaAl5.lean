/-
  Layer 11: Take.
-/
import Derived.Test.YtmlkbdkehoajaaaAl4
namespace Go.Proofs.Ytmlkbdkehoajaaa
open Go.RowKit Go.Shelf
open Go.Lib (hid)

attribute [local go_sem] Oper.semAt_some

namespace Al
/-- The first run that is long enough. -/
def first (L : List Bool) (k : Int) : Option (Nat × Nat) := (spans L false).find? fun x => decide (k ≤ (x.2 : Int))
end Al
theorem ownFrom_map {β : Type} (B b g c : Nat) (f : β → List Bool) : OwnFrom B (fun s W => MapAt W b g c (f s)) := by
  intro s X Y row hs hg hr
  have h1 := ownFrom_block B b (fun (_ : Unit) => #[.slice (some ⟨g, 0, none⟩) (f s).length c]) 52 () X Y row hs.ptr hg hr
  obtain ⟨ex, h2, h3⟩ := hs.row
  have h2' := ownFrom_block B g (fun (_ : Unit) => ((f s).map Value.bool ++ ex).toArray) 4 () X Y row h2 hg hr
  exact ⟨h1, ⟨ex, h2', h3⟩, hs.pos, hs.le⟩
theorem ownFrom_keptB {β : Type} (B g : Nat) (w : World) (hB : w.heap.size ≤ B) : OwnFrom B (fun (_ : β) W => KeptB g w W) :=
  fun _ X Y row hs hg hr => ⟨hg.os.trans hs.os, hg.tape.trans hs.tape, hg.output.trans hs.output, Nat.le_trans hs.size hg.size, fun k hk hne =>
    (hg.block k (Nat.lt_of_lt_of_le hk hs.size) (fun e => by have := (hr k e.symm).1; omega)).trans (hs.block k hk hne)⟩

theorem six_blocks (w : World) (o0 o1 o2 o3 o4 o5 : Obj) (W : World) (hW : (((((w.alloc o0).alloc o1).alloc o2).alloc o3).alloc o4).alloc o5 = W) :
    W.heap.size = w.heap.size + 6 ∧ W.heap[w.heap.size]? = some o0 ∧ W.heap[w.heap.size + 1]? = some o1 ∧ W.heap[w.heap.size + 1 + 1]? = some o2 ∧ W.heap[w.heap.size + 1 + 1 + 1]? = some o3 ∧ W.heap[w.heap.size + 1 + 1 + 1 + 1]? = some o4 ∧ W.heap[w.heap.size + 1 + 1 + 1 + 1 + 1]? = some o5 ∧ Below w.heap.size w W := by
  have kp : ∀ (A : World) (o v : Obj) (k : Nat), A.heap[k]? = some v → (A.alloc o).heap[k]? = some v := fun A o v k h => (Below.heap_alloc A o k (Array.getElem?_eq_some_iff.1 h).1).trans h
  have nw : ∀ (A : World) (o : Obj) (m : Nat), A.heap.size = m → (A.alloc o).heap[m]? = some o := fun A o m h => by subst h; exact heap_alloc_new _ _
  subst hW
  refine ⟨by simp, ?_, ?_, ?_, ?_, ?_, ?_, (((((Below.refl _ w).alloc (Nat.le_refl _) _).alloc (by simp) _).alloc (by simp; omega) _).alloc (by simp; omega) _).alloc (by simp; omega) _ |>.alloc (by simp; omega) _⟩
  · exact kp _ _ _ _ (kp _ _ _ _ (kp _ _ _ _ (kp _ _ _ _ (kp _ _ _ _ (nw _ _ _ rfl)))))
  · exact kp _ _ _ _ (kp _ _ _ _ (kp _ _ _ _ (kp _ _ _ _ (nw _ _ _ (by simp)))))
  · exact kp _ _ _ _ (kp _ _ _ _ (kp _ _ _ _ (nw _ _ _ (by simp))))
  · exact kp _ _ _ _ (kp _ _ _ _ (nw _ _ _ (by simp)))
  · exact kp _ _ _ _ (nw _ _ _ (by simp))
  · exact nw _ _ _ (by simp)
/-- All these runs are too short. -/
def Short (k : Int) (l : List Sp4) : Prop := ∀ y ∈ l, (y.1.2 : Int) < k
theorem Short.snoc {k : Int} {l : List Sp4} {x : Sp4} (h : Short k l) (hx : ¬ k ≤ (x.1.2 : Int)) : Short k (l ++ [x]) := by
  intro y hy
  rcases List.mem_append.1 hy with hy | hy
  · exact h y hy
  · rw [List.mem_singleton] at hy; rw [hy]; omega

theorem KeptB.others {w w' : World} {g c : Nat} {L : List Bool} (h : KeptB g w w') (hr : BRow w g c L) : KeepsOthers w w' :=
  ⟨h.size, fun k o hk ho => (h.block k (Array.getElem?_eq_some_iff.1 hk).1 (fun e => by
    subst e
    obtain ⟨ex, hr, _⟩ := hr
    rw [hr] at hk
    cases hk
    cases ho)).trans hk⟩
/-- Behind the round that takes. -/
theorem take_end {w W W1 w1 : World} {B4 B5 g b c B : Nat} {F C : Int} {q : Bool} {L L2 : List Bool} {F0 C0 : Int} {q0 : Bool} (hko : KeepsOthers W W1) (hm1 : MapAt W1 b g c L) (hk1 : KeptB g w W1) (hk2 : KeptB g W1.drew w1) (hm2 : MapAt w1 b g c L2) (e2 : SBox w1 B4 F0 C0) (e3 : Boxed w1 B5 4 (.bool q0))
    (h4 : w.heap.size ≤ B4) (h5 : w.heap.size ≤ B5) (h45 : B4 ≠ B5) (hg : g < w.heap.size) (hb : b < w.heap.size) :
    KeepsFrom B W (((w1.setCell ⟨B4, 0, none⟩ (.int .i64 F)).setCell ⟨B4, 1, none⟩ (.int .i64 C)).setCell ⟨B5, 0, none⟩ (.bool q)) ∧ SBox (((w1.setCell ⟨B4, 0, none⟩ (.int .i64 F)).setCell ⟨B4, 1, none⟩ (.int .i64 C)).setCell ⟨B5, 0, none⟩ (.bool q)) B4 F C ∧
      Boxed (((w1.setCell ⟨B4, 0, none⟩ (.int .i64 F)).setCell ⟨B4, 1, none⟩ (.int .i64 C)).setCell ⟨B5, 0, none⟩ (.bool q)) B5 4 (.bool q) ∧ MapAt (((w1.setCell ⟨B4, 0, none⟩ (.int .i64 F)).setCell ⟨B4, 1, none⟩ (.int .i64 C)).setCell ⟨B5, 0, none⟩ (.bool q)) b g c L2 ∧
      KeptB g w (((w1.setCell ⟨B4, 0, none⟩ (.int .i64 F)).setCell ⟨B4, 1, none⟩ (.int .i64 C)).setCell ⟨B5, 0, none⟩ (.bool q)) := by
  have hot : ∀ kk, kk ≠ B4 → kk ≠ B5 → (((w1.setCell ⟨B4, 0, none⟩ (.int .i64 F)).setCell ⟨B4, 1, none⟩ (.int .i64 C)).setCell ⟨B5, 0, none⟩ (.bool q)).heap[kk]? = w1.heap[kk]? := fun kk h1 h2 => by
    rw [heap_setCell_other _ ⟨B5, 0, none⟩ kk _ h2, heap_setCell_other _ ⟨B4, 1, none⟩ kk _ h1, heap_setCell_other _ ⟨B4, 0, none⟩ kk _ h1]
  refine ⟨?_, ?_, ?_, hm2.at (hot b (by omega) (by omega)) (hot g (by omega) (by omega)), ?_⟩
  · have hr1 : BRow W1.drew g c L := hm1.row.at rfl
    exact ((((hko.trans (KeepsOthers.drew _)).trans (hk2.others hr1)).trans (KeepsOthers.setCell _ _ _)).trans (KeepsOthers.setCell _ _ _)).trans (KeepsOthers.setCell _ _ _) |>.from _
  · unfold SBox
    rw [heap_setCell_other _ ⟨B5, 0, none⟩ B4 _ h45, heap_setCell_same _ B4 1 _ _ _ (heap_setCell_same _ B4 0 _ _ _ e2)]
    rfl
  · refine Boxed.set _ (v := .bool q0) ?_
    unfold Boxed
    rw [heap_setCell_other _ ⟨B4, 1, none⟩ B5 _ (Ne.symm h45), heap_setCell_other _ ⟨B4, 0, none⟩ B5 _ (Ne.symm h45)]
    exact e3
  · have hk3 : KeptB g w w1 := hk1.trans (show KeptB g W1 w1 from ⟨hk2.os, hk2.tape, hk2.output, hk2.size, hk2.block⟩)
    refine ⟨hk3.os, hk3.tape, hk3.output, by simpa [World.setCell] using hk3.size, fun k hk hne => ?_⟩
    rw [hot k (by omega) (by omega)]
    exact hk3.block k hk hne
theorem results_take (tmps : Array Value) (V : World) (B4 B5 : Nat) (F C : Int) (q : Bool) (hp4 : tmps.getD 4 undef = .pointer (some ⟨B4, 0, none⟩)) (hp5 : tmps.getD 5 undef = .pointer (some ⟨B5, 0, none⟩)) (h4 : SBox V B4 F C) (h5 : Boxed V B5 4 (.bool q)) :
    (results Try.f13 tmps).run Try.prog V = .ok (.tuple #[.agg #[.int .i64 F, .int .i64 C], .bool q]) V := by
  have hr : V.rangeAt B4 0 [Value.int .i64 F, .int .i64 C] := by
    intro j x hj
    rw [Nat.zero_add, cell_of_row V B4 j _ _ _ h4, ← hj, List.getElem?_toArray]
  have l4 := run_loadVar_mid V B4 0 40 _ _ hr Try.underlying40 rfl (by kernel_rfl)
  have l5 : (loadVar 4 ⟨B5, 0, none⟩).run Try.prog V = .ok (.bool q) V := by
    have := h5.cell
    go_simp
  simp only [results, Try.results13]
  have hp4' : tmps[4]?.getD undef = .pointer (some ⟨B4, 0, none⟩) := by simpa using hp4
  have hp5' : tmps[5]?.getD undef = .pointer (some ⟨B5, 0, none⟩) := by simpa using hp5
  simp [Sem.run_bind, hp4', hp5', asAddr, l4, l5, Result.andThen]
theorem first_none {L : List Bool} {k : Int} {ys : List Sp4} (hys : ys.map (·.1) = Al.spans L false) (h : Short k ys) : Al.first L k = none := by
  unfold Al.first
  rw [List.find?_eq_none]
  intro y hy
  rw [← hys] at hy
  obtain ⟨z, hz, rfl⟩ := List.mem_map.1 hy
  have := h z hz
  simp; omega
theorem first_some {L : List Bool} {k : Int} {pre0 : List Sp4} {x : Sp4} (hp : (pre0 ++ [x]).map (·.1) <+: Al.spans L false) (h : Short k pre0) (hx : k ≤ (x.1.2 : Int)) : Al.first L k = some x.1 := by
  obtain ⟨r, hr⟩ := hp
  unfold Al.first
  rw [← hr, List.map_append, List.append_assoc, List.find?_append, List.find?_append]
  have h0 : (pre0.map (·.1)).find? (fun x : Nat × Nat => decide (k ≤ (x.2 : Int))) = none := by
    rw [List.find?_eq_none]
    intro y hy
    obtain ⟨z, hz, rfl⟩ := List.mem_map.1 hy
    have := h z hz
    simp; omega
  rw [h0]
  simp [hx]

set_option maxRecDepth 100000 in
set_option maxHeartbeats 4000000 in
theorem take_any (b g c : Nat) (L : List Bool) (k : Int) (hk1 : 1 ≤ k) (w : World) (h : MapAt w b g c L) :
    Calls Try.prog 13 #[.pointer (some ⟨b, 0, none⟩), .int .i64 k] w fun e w' =>
      (Al.first L k = none ∧ e = .returned (.tuple #[.agg #[.int .i64 0, .int .i64 0], .bool false]) ∧ MapAt w' b g c L ∧ KeptB g w w') ∨
      (∃ x : Nat × Nat, Al.first L k = some x ∧ e = .returned (.tuple #[.agg #[.int .i64 (x.1 : Int), .int .i64 k], .bool (Al.ch L x.1 k true)]) ∧ MapAt w' b g c (Al.after L x.1 k true) ∧ KeptB g w w') := by
  refine (callsIn_wide (n := 9)).1 ?_
  refine callsIn_of_wp_marks Try.func13 rfl trivial ?_ rfl
  simp only [Try.ntmps13, List.size_toArray, List.length_cons, List.length_nil, Nat.reduceAdd, Nat.reduceSub, Array.replicate_succ, Array.replicate_zero, List.push_toArray, List.append_toArray, List.nil_append, List.cons_append]
  have hbl := h.lt
  have hgl := h.row.lt
  have hle := h.le
  gi_wp2_with (refine ⟨trivial, ?_⟩; gi_at_call 25; refine (spans_in _ b false _).mono ?_; rintro e w' ⟨rfl, rfl⟩)
  generalize hW0 : (World.alloc _ (.cells #[.bool false] 4)) = W0
  obtain ⟨hsz, b0, b1, b2, b3, b4, b5, hB0⟩ := six_blocks w _ _ _ _ _ _ W0 hW0
  have hM0 := h.below hB0
  have hK0 := KeptB.of_below (b := g) hB0
  clear hW0
  have bM : Boxed W0 (w.heap.size + 1 + 1 + 1 + 1) 24 (.pointer (some ⟨b, 0, none⟩)) := b4
  have bT : Boxed W0 (w.heap.size + 1 + 1 + 1 + 1 + 1) 4 (.bool false) := b5
  refine wpIn_rangeFunc_ownH rfl (by decide) (gf := 30) (lb := #[.pointer (some ⟨w.heap.size + 1 + 1 + 1 + 1, 0, none⟩), .pointer (some ⟨w.heap.size + 1 + 1 + 1 + 1 + 1, 0, none⟩)]) rfl trivial (enters_of Try.func30 (by kernel_rfl) rfl)
    (spans_stops (9 - 1) (by decide) (w.heap.size + 1 + 1 + 1 + 1) (w.heap.size + 1 + 1 + 1 + 1 + 1) w.heap.size b g c L false W0 bM bT (by omega) hbl hgl hM0) (fun h k => h.trans k) (kpS_b (by omega) (by omega) (by omega)) (Below.refl _ _) (fun _ => rfl)
    (fun pre W => (Short k pre ∧ W.heap[w.heap.size]? = some (.cells #[.pointer (some ⟨b, 0, none⟩)] 24 (0, 0)) ∧ W.heap[w.heap.size + 1]? = some (.cells #[.int .i64 k] 3 (0, 0)) ∧ W.heap[w.heap.size + 1 + 1]? = some (.cells #[.int .i64 0, .int .i64 0] 40 (0, 0)) ∧ W.heap[w.heap.size + 1 + 1 + 1]? = some (.cells #[.bool false] 4 (0, 0)) ∧ MapAt W b g c L) ∧ (Below w.heap.size w W ∧ W0.heap.size ≤ W.heap.size))
    (fun cd pre W => cd = .ret ∧ ∃ (pre0 : List Sp4) (x : Sp4), pre = pre0 ++ [x] ∧ Short k pre0 ∧ k ≤ (x.1.2 : Int) ∧ W.heap[w.heap.size + 1 + 1]? = some (.cells #[.int .i64 (x.1.1 : Int), .int .i64 k] 40 (0, 0)) ∧ W.heap[w.heap.size + 1 + 1 + 1]? = some (.cells #[.bool (Al.ch L (x.1.1 : Int) k true)] 4 (0, 0)) ∧ MapAt W b g c (Al.after L (x.1.1 : Int) k true) ∧ KeptB g w W)
    (OwnFrom.and (OwnFrom.and (ownFrom_pure _ _) (OwnFrom.and (ownFrom_block _ _ _ _) (OwnFrom.and (ownFrom_block _ _ _ _) (OwnFrom.and (ownFrom_block _ _ _ _) (OwnFrom.and (ownFrom_block _ _ _ _) (ownFrom_map _ _ _ _ _)))))) (OwnFrom.and (ownFrom_below (Nat.le_refl _) (by omega)) (ownFrom_size _ _)))
    (fun cd pre X Y row hs hg hr => by
      obtain ⟨h1, pre0, x, h2, h3, h4, h5, h6, h7, h8⟩ := hs
      exact ⟨h1, pre0, x, h2, h3, h4, ownFrom_block W0.heap.size _ (fun (_ : Unit) => _) _ () X Y row h5 hg hr, ownFrom_block W0.heap.size _ (fun (_ : Unit) => _) _ () X Y row h6 hg hr, ownFrom_map W0.heap.size b g c (fun (_ : Unit) => _) () X Y row h7 hg hr, ownFrom_keptB W0.heap.size g w (by omega) () X Y row h8 hg hr⟩)
    ⟨⟨fun y hy => absurd hy (by simp), b0, b1, b2, b3, hM0⟩, hB0, Nat.le_refl _⟩
    (fun x a' W => ∃ Bx, w.heap.size + 5 < Bx ∧ SBox W Bx x.1.1 x.1.2 ∧ a' = { tmps := #[.pointer (some ⟨b, 0, none⟩), .int .i64 k, .pointer (some ⟨w.heap.size, 0, none⟩), .pointer (some ⟨w.heap.size + 1, 0, none⟩), .pointer (some ⟨w.heap.size + 1 + 1, 0, none⟩), .pointer (some ⟨w.heap.size + 1 + 1 + 1, 0, none⟩), .pointer (some ⟨Bx, 0, none⟩), .int .i64 k, .bool (decide (k < 1)), undef, .pointer (some ⟨b, 0, none⟩), .func (.func 30) #[] #[.pointer (some ⟨w.heap.size + 1 + 1 + 1 + 1, 0, none⟩), .pointer (some ⟨w.heap.size + 1 + 1 + 1 + 1 + 1, 0, none⟩)], .agg #[.int .i64 (x.1.1 : Int), .int .i64 (x.1.2 : Int)], undef, undef, undef, undef, undef, undef, undef, undef, undef, undef, undef], defers := [] })
    (fun x a' _ X Y row hs hg hr => by obtain ⟨Bx, h1, h2, h3⟩ := hs; exact ⟨Bx, h1, ownFrom_block W0.heap.size Bx (fun (_ : Unit) => #[.int .i64 (x.1.1 : Int), .int .i64 (x.1.2 : Int)]) 40 () X Y row h2 hg hr, h3⟩)
    ?assign ?body ?done ?stop
  case assign =>
    rintro l pre x W K ⟨⟨hp, c0, c1, c2, c3, hm⟩, hB1, hS1⟩ hK
    unfold spV
    gi_wp2
    have ha := fun (kk : Nat) (hk : kk < W.heap.size) => Below.heap_alloc W (.cells #[.int .i64 (x.1.1 : Int), .int .i64 (x.1.2 : Int)] 40) kk hk
    refine hK _ _ ((KeepsOthers.alloc _ _).from _) (KpS.alloc W _ hB1.size (by omega) (by omega)) ⟨⟨hp, (ha _ (by omega)).trans c0, (ha _ (by omega)).trans c1, (ha _ (by omega)).trans c2, (ha _ (by omega)).trans c3, hm.at (ha _ (by omega)) (ha _ (by omega))⟩, hB1.alloc hB1.size _, Nat.le_trans hS1 (by simp)⟩ ⟨W.heap.size, by omega, heap_alloc_new _ _, rfl⟩
  case body =>
    rintro l pre x a' W hl ⟨r, hr⟩ ⟨⟨hp, c0, c1, c2, c3, hm⟩, hB1, hS1⟩ ⟨Bx, hBx, hX, rfl⟩ hlt
    have x0 := hX.c0
    have x1 := hX.c1
    have k0 : W.cell? ⟨w.heap.size + 1, 0, none⟩ = some (.int .i64 k) := by rw [Lib.cell_of_heap c1]; rfl
    have xf := Lib.frozen_of_heap hX 1
    have hx4 := x.2
    by_cases hle2 : k ≤ (x.1.2 : Int)
    · have HMK := fun wx hx => mark_any b g c L (x.1.1 : Int) k (by omega) wx hx
      gi_wp2
      have hX1 : (W.setCell ⟨Bx, 1, none⟩ (.int .i64 k)).heap[Bx]? = some (.cells #[.int .i64 (x.1.1 : Int), .int .i64 k] 40 (0, 0)) := by
        rw [heap_setCell_same W Bx 1 _ _ _ hX]; rfl
      have hot := fun kk (hne : kk ≠ Bx) => heap_setCell_other W ⟨Bx, 1, none⟩ kk (.int .i64 k) hne
      have hm1 := hm.at (hot b (by omega)) (hot g (by omega))
      have d0 := (hot _ (show w.heap.size ≠ Bx by omega)).trans c0
      have d2 := (hot _ (show w.heap.size + 1 + 1 ≠ Bx by omega)).trans c2
      have d3 := (hot _ (show w.heap.size + 1 + 1 + 1 ≠ Bx by omega)).trans c3
      have hk1 := KeptB.of_below (b := g) (hB1.setCell (p := ⟨Bx, 1, none⟩) (by show w.heap.size ≤ Bx; omega) (.int .i64 k))
      have hko := KeepsOthers.setCell W ⟨Bx, 1, none⟩ (.int .i64 k)
      generalize W.setCell ⟨Bx, 1, none⟩ (.int .i64 k) = W1 at *
      have y0 : W1.cell? ⟨Bx, 0, none⟩ = some (.int .i64 (x.1.1 : Int)) := by rw [Lib.cell_of_heap hX1]; rfl
      have y1 : W1.cell? ⟨Bx, 1, none⟩ = some (.int .i64 k) := by rw [Lib.cell_of_heap hX1]; rfl
      have y2 : W1.cell? ⟨w.heap.size, 0, none⟩ = some (.pointer (some ⟨b, 0, none⟩)) := by rw [Lib.cell_of_heap d0]; rfl
      have hmix : Try.prog.follows .mixedOrders = true := by kernel_rfl
      have HP := hid hp
      clear x0 x1 k0 xf c0 c1 c2 c3 hX hm hr hp hB1 hot
      have hm1d : MapAt W1.drew b g c L := hm1.at rfl rfl
      have g0 := Lib.frozen_of_heap d2 0
      have g1 := Lib.frozen_of_heap d2 1
      have g2 := Lib.frozen_of_heap d3 0
      have n4 : w.heap.size + 1 + 1 ≠ g := by omega
      have n5 : w.heap.size + 1 + 1 + 1 ≠ g := by omega
      have nx : Bx ≠ g := by omega
      gi_region_with_o (refine ⟨trivial, ?_⟩; gi_at_call 17; refine (CallsIn.inRound l (callsIn_wide.2 (HMK _ hm1d))).mono ?_; rintro e w1 ⟨rfl, hm2, hk2⟩; have e2 : SBox w1 _ 0 0 := (hk2.block _ (Array.getElem?_eq_some_iff.1 d2).1 n4).trans d2; have e3 : Boxed w1 _ _ _ := (hk2.block _ (Array.getElem?_eq_some_iff.1 d3).1 n5).trans d3; have ex : SBox w1 _ _ _ := (hk2.block _ (Array.getElem?_eq_some_iff.1 hX1).1 nx).trans hX1; have q0 := e2.f 0; have q1 := e2.f 1; have q2 := e3.frozen; have q3 := ex.c0; have q4 := ex.c1; have q5 := e2.c0; have q6 := e2.c1; have q7 := e3.cell)
      all_goals gi_wp2
      all_goals (
        obtain ⟨he1, he2, he3, he4, he5⟩ := take_end (B := W0.heap.size) (F := (x.1.1 : Int)) (C := k) (q := Al.ch L (x.1.1 : Int) k true) hko hm1 hk1 hk2 hm2 e2 e3 (by omega) (by omega) (by omega) hgl hbl
        exact ⟨he1, rfl, pre, x, rfl, HP.out, hle2, he2, he3, he4, he5⟩)
    · gi_wp2
      exact ⟨KeepsOthers.refl _ |>.from _, KpS.refl _ _ _ _, ⟨hp.snoc (by omega), c0, c1, c2, c3, hm⟩, hB1, by omega⟩
  case done =>
    rintro D ys W hD hys ⟨⟨hp, c0, c1, c2, c3, hm⟩, hB1, hS1⟩ hK
    have hfn := first_none hys hp
    have c2' : SBox W (w.heap.size + 1 + 1) 0 0 := c2
    have c3' : Boxed W (w.heap.size + 1 + 1 + 1) 4 (.bool false) := c3
    have q0 := c2'.f 0
    have q1 := c2'.f 1
    have q2 := c3'.frozen
    have q5 := c2'.c0
    have q6 := c2'.c1
    have q7 := c3'.cell
    gi_wp2
    have hD2 : D ≠ g ∧ D ≠ b ∧ D ≠ w.heap.size + 1 + 1 ∧ D ≠ w.heap.size + 1 + 1 + 1 := by omega
    have hKO : KeepsOthers W (((W.setCell ⟨w.heap.size + 1 + 1, 0, none⟩ (.int .i64 0)).setCell ⟨w.heap.size + 1 + 1, 1, none⟩ (.int .i64 0)).setCell ⟨w.heap.size + 1 + 1 + 1, 0, none⟩ (.bool false)) := ((KeepsOthers.setCell _ _ _).trans (KeepsOthers.setCell _ _ _)).trans (KeepsOthers.setCell _ _ _)
    obtain ⟨_, he2, he3, he4, he5⟩ := take_end (B := W0.heap.size) (F := 0) (C := 0) (q := false) (KeepsOthers.refl W) hm (KeptB.of_below hB1) (show KeptB g W.drew W from ⟨rfl, rfl, rfl, Nat.le_refl _, fun _ _ _ => rfl⟩) hm c2' c3' (by omega) (by omega) (by omega) hgl hbl
    have hK' := hKO.same D _ hK rfl
    generalize ((W.setCell ⟨w.heap.size + 1 + 1, 0, none⟩ (.int .i64 0)).setCell ⟨w.heap.size + 1 + 1, 1, none⟩ (.int .i64 0)).setCell ⟨w.heap.size + 1 + 1 + 1, 0, none⟩ (.bool false) = W3 at *
    refine ⟨by simp, .inl ⟨_, _, rfl, run_takeDeferred hK', ?_⟩⟩
    have hpo := fun kk (hne : D ≠ kk) => World.putObj_heap_other (w := W3) (o := .deferred none) (Ne.symm hne)
    have f2 : SBox (W3.putObj D (.deferred none)) _ _ _ := (hpo _ hD2.2.2.1).trans he2
    have f3 : Boxed (W3.putObj D (.deferred none)) _ _ _ := (hpo _ hD2.2.2.2).trans he3
    have f4 := he4.at (hpo _ hD2.2.1) (hpo _ hD2.1)
    have f5 : KeptB g w (W3.putObj D (.deferred none)) := ⟨he5.os, he5.tape, he5.output, by have := (grownBy_putObj' W3 D (.deferred none)).size; exact Nat.le_trans he5.size this, fun kk hk hne => (hpo kk (by omega)).trans (he5.block kk hk hne)⟩
    refine ⟨_, results_take _ _ _ _ _ _ _ rfl rfl f2 f3, Or.inl ⟨hfn, rfl, f4, f5⟩⟩
  case stop =>
    rintro D cd pre W hD hpre ⟨rfl, pre0, x, rfl, h3, h4, h5, h6, h7, h8⟩ hK
    have hfs := first_some hpre h3 h4
    gi_wp2
    have hD2 : D ≠ g ∧ D ≠ b ∧ D ≠ w.heap.size + 1 + 1 ∧ D ≠ w.heap.size + 1 + 1 + 1 := by omega
    have he2 : SBox W (w.heap.size + 1 + 1) (x.1.1 : Int) k := h5
    have he3 : Boxed W (w.heap.size + 1 + 1 + 1) 4 (.bool (Al.ch L (x.1.1 : Int) k true)) := h6
    have he4 := h7
    have he5 := h8
    have hK' := hK
    generalize W = W3 at *
    refine ⟨by simp, .inl ⟨_, _, rfl, run_takeDeferred hK', ?_⟩⟩
    have hpo := fun kk (hne : D ≠ kk) => World.putObj_heap_other (w := W3) (o := .deferred none) (Ne.symm hne)
    have f2 : SBox (W3.putObj D (.deferred none)) _ _ _ := (hpo _ hD2.2.2.1).trans he2
    have f3 : Boxed (W3.putObj D (.deferred none)) _ _ _ := (hpo _ hD2.2.2.2).trans he3
    have f4 := he4.at (hpo _ hD2.2.1) (hpo _ hD2.1)
    have f5 : KeptB g w (W3.putObj D (.deferred none)) := ⟨he5.os, he5.tape, he5.output, by have := (grownBy_putObj' W3 D (.deferred none)).size; exact Nat.le_trans he5.size this, fun kk hk hne => (hpo kk (by omega)).trans (he5.block kk hk hne)⟩
    refine ⟨_, results_take _ _ _ _ _ _ _ rfl rfl f2 f3, Or.inr ⟨x.1, hfs, rfl, f4, f5⟩⟩
end Go.Proofs.Ytmlkbdkehoajaaa
