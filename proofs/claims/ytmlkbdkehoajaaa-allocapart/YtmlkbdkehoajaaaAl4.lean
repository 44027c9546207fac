/-
  Layer 11: Free, Most.
-/
import Derived.Test.YtmlkbdkehoajaaaAl3
namespace Go.Proofs.Ytmlkbdkehoajaaa
open Go.RowKit Go.Shelf
open Go.Lib (hid)

attribute [local go_sem] Oper.semAt_some

namespace Al
def sum (l : List (Nat × Nat)) : Nat := (l.map (·.2)).sum
def most (l : List (Nat × Nat)) : Nat := l.foldl (fun m x => max m x.2) 0
theorem sum_snoc (l : List (Nat × Nat)) (x : Nat × Nat) : sum (l ++ [x]) = sum l + x.2 := by simp [sum]
theorem most_snoc (l : List (Nat × Nat)) (x : Nat × Nat) : most (l ++ [x]) = max (most l) x.2 := by simp [most]
end Al
theorem sum_le : ∀ l : List Sp4, Al.sum (l.map (·.1)) ≤ 4096 * l.length
  | [] => by simp [Al.sum]
  | x :: l => by
    have h1 := sum_le l
    have h2 := x.2
    simp only [Al.sum, List.map_cons, List.sum_cons, List.length_cons] at h1 ⊢
    omega
/-- A Span in a block of its own. -/
def SBox (W : World) (B : Nat) (F C : Int) : Prop := W.heap[B]? = some (.cells #[.int .i64 F, .int .i64 C] 40 (0, 0))
theorem SBox.c0 {W : World} {B : Nat} {F C : Int} (h : SBox W B F C) : W.cell? ⟨B, 0, none⟩ = some (.int .i64 F) := by rw [Lib.cell_of_heap h]; rfl
theorem SBox.c1 {W : World} {B : Nat} {F C : Int} (h : SBox W B F C) : W.cell? ⟨B, 1, none⟩ = some (.int .i64 C) := by rw [Lib.cell_of_heap h]; rfl
theorem SBox.f {W : World} {B : Nat} {F C : Int} (h : SBox W B F C) (i : Nat) : W.frozen? ⟨B, i, none⟩ = false := Lib.frozen_of_heap h i
theorem ownFrom_block {β : Type} (B k : Nat) (f : β → Array Value) (t : TypeId) : OwnFrom B (fun s W => W.heap[k]? = some (.cells (f s) t (0, 0))) := by
  intro s X Y row hs hg hr
  refine (hg.block k (Array.getElem?_eq_some_iff.1 hs).1 (fun e => ?_)).trans hs
  obtain ⟨_, o, ho, hc⟩ := hr k e.symm
  rw [hs] at ho
  cases ho
  cases hc

theorem ownFrom_size {β : Type} (B m : Nat) : OwnFrom B (fun (_ : β) W => m ≤ W.heap.size) := fun _ _ _ _ hs hg _ => Nat.le_trans hs hg.size
theorem KpS.alloc {n₀ Bm Bt : Nat} (W : World) (o : Obj) (hn : n₀ ≤ W.heap.size) (hm : Bm < W.heap.size) (ht : Bt < W.heap.size) : KpS n₀ Bm Bt W (W.alloc o) := ⟨(Below.refl _ _).alloc hn _, Below.heap_alloc W o Bm hm, Below.heap_alloc W o Bt ht⟩
theorem KpS.setCell {n₀ Bm Bt : Nat} (W : World) (k : Nat) (v : Value) (hn : n₀ ≤ k) (hm : Bm ≠ k) (ht : Bt ≠ k) : KpS n₀ Bm Bt W (W.setCell ⟨k, 0, none⟩ v) := ⟨(Below.refl _ _).setCell (p := ⟨k, 0, none⟩) hn _, heap_setCell_other W ⟨k, 0, none⟩ Bm v hm, heap_setCell_other W ⟨k, 0, none⟩ Bt v ht⟩

set_option maxRecDepth 100000 in
set_option maxHeartbeats 2000000 in
theorem free_any (b g c : Nat) (L : List Bool) (w : World) (h : MapAt w b g c L) :
    Calls Try.prog 16 #[.pointer (some ⟨b, 0, none⟩)] w fun e w' => e = .returned (.int .i64 (Al.sum (Al.spans L false) : Int)) ∧ Below w.heap.size w w' := by
  refine (callsIn_wide (n := 9)).1 ?_
  refine callsIn_of_wp_marks Try.func16 rfl trivial ?_ rfl
  simp only [Try.ntmps16, List.size_toArray, List.length_cons, List.length_nil, Nat.reduceAdd, Nat.reduceSub, Array.replicate_succ, Array.replicate_zero, List.push_toArray, List.append_toArray, List.nil_append, List.cons_append]
  have hbl := h.lt
  have hgl := h.row.lt
  have hle := h.le
  gi_wp2_with (refine ⟨trivial, ?_⟩; gi_at_call 25; refine (spans_in _ b false _).mono ?_; rintro e w' ⟨rfl, rfl⟩)
  have hs0 : (w.alloc (.cells #[.int .i64 0] 3)).heap.size = w.heap.size + 1 := by simp
  generalize hW0 : ((w.alloc (.cells #[.int .i64 0] 3)).alloc (.cells #[.pointer (some ⟨b, 0, none⟩)] 24)).alloc (.cells #[.bool false] 4) = W0
  have hsz : W0.heap.size = w.heap.size + 3 := by rw [← hW0]; simp
  have hB0 : Below w.heap.size w W0 := by rw [← hW0]; exact (((Below.refl _ w).alloc (Nat.le_refl _) _).alloc (by simp) _).alloc (by simp; omega) _
  have bN : Boxed W0 w.heap.size 3 (.int .i64 0) := by rw [← hW0]; exact ((Boxed.new w _ _).alloc _).alloc _
  have bM : Boxed W0 (w.heap.size + 1) 24 (.pointer (some ⟨b, 0, none⟩)) := by
    have := (Boxed.new (w.alloc (.cells #[.int .i64 0] 3)) 24 (.pointer (some ⟨b, 0, none⟩))).alloc (.cells #[.bool false] 4)
    rw [hs0, hW0] at this; exact this
  have bT : Boxed W0 (w.heap.size + 1 + 1) 4 (.bool false) := by
    have := Boxed.new ((w.alloc (.cells #[.int .i64 0] 3)).alloc (.cells #[.pointer (some ⟨b, 0, none⟩)] 24)) 4 (.bool false)
    rw [World.size_alloc, hs0, hW0] at this; exact this
  have hM0 := h.below hB0
  clear hW0 hs0
  refine wpIn_rangeFunc_ownH rfl (by decide) (gf := 30) (lb := #[.pointer (some ⟨w.heap.size + 1, 0, none⟩), .pointer (some ⟨w.heap.size + 1 + 1, 0, none⟩)]) rfl trivial (enters_of Try.func30 (by kernel_rfl) rfl)
    (spans_stops (9 - 1) (by decide) (w.heap.size + 1) (w.heap.size + 1 + 1) w.heap.size b g c L false W0 bM bT (by omega) hbl hgl hM0) (fun h k => h.trans k) (kpS_b (by omega) (by omega) (by omega)) (Below.refl _ _) (fun _ => rfl)
    (fun pre W => Boxed W w.heap.size 3 (.int .i64 (Al.sum (pre.map (·.1)) : Int)) ∧ (Below w.heap.size w W ∧ W0.heap.size ≤ W.heap.size))
    (fun _ _ _ => False)
    (OwnFrom.and (Own.from (boxed_own _ _ _) _) (OwnFrom.and (ownFrom_below (Nat.le_refl _) (by omega)) (ownFrom_size _ _)))
    (fun _ _ _ _ _ hs _ _ => hs)
    ⟨bN, hB0, Nat.le_refl _⟩
    (fun x a' W => ∃ Bx, w.heap.size + 2 < Bx ∧ SBox W Bx x.1.1 x.1.2 ∧ a' = { tmps := #[.pointer (some ⟨b, 0, none⟩), undef, .int .i64 0, .pointer (some ⟨w.heap.size, 0, none⟩), .pointer (some ⟨Bx, 0, none⟩), .pointer (some ⟨b, 0, none⟩), .func (.func 30) #[] #[.pointer (some ⟨w.heap.size + 1, 0, none⟩), .pointer (some ⟨w.heap.size + 1 + 1, 0, none⟩)], .agg #[.int .i64 (x.1.1 : Int), .int .i64 (x.1.2 : Int)], undef, undef, undef, undef, undef], defers := [] })
    (fun x a' _ X Y row hs hg hr => by obtain ⟨Bx, h1, h2, h3⟩ := hs; exact ⟨Bx, h1, ownFrom_block W0.heap.size Bx (fun (_ : Unit) => #[.int .i64 (x.1.1 : Int), .int .i64 (x.1.2 : Int)]) 40 () X Y row h2 hg hr, h3⟩)
    ?assign ?body ?done ?stop
  case assign =>
    rintro l pre x W K ⟨hb1, hB1, hS1⟩ hK
    unfold spV
    gi_wp2
    refine hK _ _ ((KeepsOthers.alloc _ _).from _) (KpS.alloc W _ hB1.size (by omega) (by omega)) ⟨hb1.alloc _, hB1.alloc hB1.size _, Nat.le_trans hS1 (by simp)⟩ ⟨W.heap.size, by omega, heap_alloc_new _ _, rfl⟩
  case body =>
    rintro l pre x a' W hl ⟨r, hr⟩ ⟨hb1, hB1, hS1⟩ ⟨Bx, hBx, hX, rfl⟩ hlt
    have x1 := hX.c1
    have cN := hb1.cell
    have fN := hb1.frozen
    have hsl := sum_le pre
    have hx4 := x.2
    have HSN := hid (Al.sum_snoc (pre.map (·.1)) x.1)
    generalize Al.sum (pre.map (·.1)) = s at *
    have hsb : (s : Int) + (x.1.2 : Int) ≤ 20000000 := by omega
    gi_wp2
    refine ⟨(KeepsOthers.setCell _ _ _).from _, KpS.setCell W _ _ (Nat.le_refl _) (by omega) (by omega), ?_, hB1.setCell (p := ⟨w.heap.size, 0, none⟩) (Nat.le_refl _) _, Nat.le_trans hS1 (by simp [World.setCell])⟩
    rw [List.map_append, List.map_cons, List.map_nil, HSN.out]
    have := hb1.set (.int .i64 ((s : Int) + (x.1.2 : Int)))
    simpa using this
  case done =>
    rintro D ys W hD hys ⟨hb1, hB1, _⟩ hK
    rw [hys] at hb1
    have cN := hb1.cell
    gi_wp2
    refine ⟨by simp, .inl ⟨_, _, rfl, run_takeDeferred hK, ?_⟩⟩
    exact ⟨_, results_tmp rfl _ _ _, rfl, hB1.trans (belowK_b (w := w) (Nat.le_refl _) W D _ _ (by omega) hK rfl rfl)⟩
  case stop =>
    rintro D c pre W _ _ h _
    exact h.elim

set_option maxRecDepth 100000 in
set_option maxHeartbeats 2000000 in
theorem most_any (b g c : Nat) (L : List Bool) (w : World) (h : MapAt w b g c L) :
    Calls Try.prog 14 #[.pointer (some ⟨b, 0, none⟩)] w fun e w' => e = .returned (.int .i64 (Al.most (Al.spans L false) : Int)) ∧ Below w.heap.size w w' := by
  refine (callsIn_wide (n := 9)).1 ?_
  refine callsIn_of_wp_marks Try.func14 rfl trivial ?_ rfl
  simp only [Try.ntmps14, List.size_toArray, List.length_cons, List.length_nil, Nat.reduceAdd, Nat.reduceSub, Array.replicate_succ, Array.replicate_zero, List.push_toArray, List.append_toArray, List.nil_append, List.cons_append]
  have hbl := h.lt
  have hgl := h.row.lt
  have hle := h.le
  gi_wp2_with (refine ⟨trivial, ?_⟩; gi_at_call 25; refine (spans_in _ b false _).mono ?_; rintro e w' ⟨rfl, rfl⟩)
  have hs0 : (w.alloc (.cells #[.int .i64 0] 3)).heap.size = w.heap.size + 1 := by simp
  generalize hW0 : ((w.alloc (.cells #[.int .i64 0] 3)).alloc (.cells #[.pointer (some ⟨b, 0, none⟩)] 24)).alloc (.cells #[.bool false] 4) = W0
  have hsz : W0.heap.size = w.heap.size + 3 := by rw [← hW0]; simp
  have hB0 : Below w.heap.size w W0 := by rw [← hW0]; exact (((Below.refl _ w).alloc (Nat.le_refl _) _).alloc (by simp) _).alloc (by simp; omega) _
  have bN : Boxed W0 w.heap.size 3 (.int .i64 0) := by rw [← hW0]; exact ((Boxed.new w _ _).alloc _).alloc _
  have bM : Boxed W0 (w.heap.size + 1) 24 (.pointer (some ⟨b, 0, none⟩)) := by
    have := (Boxed.new (w.alloc (.cells #[.int .i64 0] 3)) 24 (.pointer (some ⟨b, 0, none⟩))).alloc (.cells #[.bool false] 4)
    rw [hs0, hW0] at this; exact this
  have bT : Boxed W0 (w.heap.size + 1 + 1) 4 (.bool false) := by
    have := Boxed.new ((w.alloc (.cells #[.int .i64 0] 3)).alloc (.cells #[.pointer (some ⟨b, 0, none⟩)] 24)) 4 (.bool false)
    rw [World.size_alloc, hs0, hW0] at this; exact this
  have hM0 := h.below hB0
  clear hW0 hs0
  refine wpIn_rangeFunc_ownH rfl (by decide) (gf := 30) (lb := #[.pointer (some ⟨w.heap.size + 1, 0, none⟩), .pointer (some ⟨w.heap.size + 1 + 1, 0, none⟩)]) rfl trivial (enters_of Try.func30 (by kernel_rfl) rfl)
    (spans_stops (9 - 1) (by decide) (w.heap.size + 1) (w.heap.size + 1 + 1) w.heap.size b g c L false W0 bM bT (by omega) hbl hgl hM0) (fun h k => h.trans k) (kpS_b (by omega) (by omega) (by omega)) (Below.refl _ _) (fun _ => rfl)
    (fun pre W => Boxed W w.heap.size 3 (.int .i64 (Al.most (pre.map (·.1)) : Int)) ∧ (Below w.heap.size w W ∧ W0.heap.size ≤ W.heap.size))
    (fun _ _ _ => False)
    (OwnFrom.and (Own.from (boxed_own _ _ _) _) (OwnFrom.and (ownFrom_below (Nat.le_refl _) (by omega)) (ownFrom_size _ _)))
    (fun _ _ _ _ _ hs _ _ => hs)
    ⟨bN, hB0, Nat.le_refl _⟩
    (fun x a' W => ∃ Bx, w.heap.size + 2 < Bx ∧ SBox W Bx x.1.1 x.1.2 ∧ a' = { tmps := #[.pointer (some ⟨b, 0, none⟩), undef, .int .i64 0, .pointer (some ⟨w.heap.size, 0, none⟩), .pointer (some ⟨Bx, 0, none⟩), .pointer (some ⟨b, 0, none⟩), .func (.func 30) #[] #[.pointer (some ⟨w.heap.size + 1, 0, none⟩), .pointer (some ⟨w.heap.size + 1 + 1, 0, none⟩)], .agg #[.int .i64 (x.1.1 : Int), .int .i64 (x.1.2 : Int)], undef, undef, undef, undef, undef], defers := [] })
    (fun x a' _ X Y row hs hg hr => by obtain ⟨Bx, h1, h2, h3⟩ := hs; exact ⟨Bx, h1, ownFrom_block W0.heap.size Bx (fun (_ : Unit) => #[.int .i64 (x.1.1 : Int), .int .i64 (x.1.2 : Int)]) 40 () X Y row h2 hg hr, h3⟩)
    ?assign ?body ?done ?stop
  case assign =>
    rintro l pre x W K ⟨hb1, hB1, hS1⟩ hK
    unfold spV
    gi_wp2
    refine hK _ _ ((KeepsOthers.alloc _ _).from _) (KpS.alloc W _ hB1.size (by omega) (by omega)) ⟨hb1.alloc _, hB1.alloc hB1.size _, Nat.le_trans hS1 (by simp)⟩ ⟨W.heap.size, by omega, heap_alloc_new _ _, rfl⟩
  case body =>
    rintro l pre x a' W hl ⟨r, hr⟩ ⟨hb1, hB1, hS1⟩ ⟨Bx, hBx, hX, rfl⟩ hlt
    have x1 := hX.c1
    have cN := hb1.cell
    have fN := hb1.frozen
    have hx4 := x.2
    have HSN := hid (Al.most_snoc (pre.map (·.1)) x.1)
    generalize Al.most (pre.map (·.1)) = s at *
    obtain ⟨m, hm⟩ : ∃ m, max s x.1.2 = m := ⟨_, rfl⟩
    have hmx : max (s : Int) (x.1.2 : Int) = (m : Int) := by omega
    rw [hm] at HSN
    clear hm
    gi_wp2
    refine ⟨(KeepsOthers.setCell _ _ _).from _, KpS.setCell W _ _ (Nat.le_refl _) (by omega) (by omega), ?_, hB1.setCell (p := ⟨w.heap.size, 0, none⟩) (Nat.le_refl _) _, Nat.le_trans hS1 (by simp [World.setCell])⟩
    rw [List.map_append, List.map_cons, List.map_nil, HSN.out]
    have := hb1.set (.int .i64 (m : Int))
    simpa using this
  case done =>
    rintro D ys W hD hys ⟨hb1, hB1, _⟩ hK
    rw [hys] at hb1
    have cN := hb1.cell
    gi_wp2
    refine ⟨by simp, .inl ⟨_, _, rfl, run_takeDeferred hK, ?_⟩⟩
    exact ⟨_, results_tmp rfl _ _ _, rfl, hB1.trans (belowK_b (w := w) (Nat.le_refl _) W D _ _ (by omega) hK rfl rfl)⟩
  case stop =>
    rintro D c pre W _ _ h _
    exact h.elim
end Go.Proofs.Ytmlkbdkehoajaaa
