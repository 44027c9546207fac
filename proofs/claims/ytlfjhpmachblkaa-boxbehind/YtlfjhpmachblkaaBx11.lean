/-
  Layer 18: the reference's mailbox; what its New, Get, Unseen return.
-/
import Derived.Test.YtlfjhpmachblkaaBx10
namespace Go.Proofs.Ytlfjhpmachblkaa
open Go.ChangeShapes Go.WideShapes Go.ChangeAt Go.RowKit
open Go.Lib (hid)

theorem eRef : EType 63 26 := ⟨Try.underlying26, by kernel_rfl⟩
theorem infoRE : (Try.prog.info? 63).map (·.size) = some 3 := by kernel_rfl
theorem infoRB : (Try.prog.info? 28).map (·.size) = some 3 := by kernel_rfl
/-- The reference's mailbox. -/
def rbV (V X : Int) (v : Value) : Value := .agg #[.int .i64 V, .int .i64 X, v]
/-- Block B holds a mailbox of the reference's. -/
def RbAt (w : World) (B : Nat) (V X : Int) (v : Value) : Prop := w.heap[B]? = some (.cells #[.int .i64 V, .int .i64 X, v] 28 (0, 0))
theorem RbAt.lt {w : World} {B : Nat} {V X : Int} {v : Value} (h : RbAt w B V X v) : B < w.heap.size := (Array.getElem?_eq_some_iff.1 h).1
theorem RbAt.below {w w' : World} {B : Nat} {V X : Int} {v : Value} (h : RbAt w B V X v) (hb : Below w.heap.size w w') : RbAt w' B V X v := (hb.block B h.lt).trans h
theorem RbAt.c {w : World} {B : Nat} {V X : Int} {v : Value} (h : RbAt w B V X v) : w.cell? ⟨B, 0, none⟩ = some (.int .i64 V) ∧ w.cell? ⟨B, 1, none⟩ = some (.int .i64 X) ∧ w.cell? ⟨B, 2, none⟩ = some v := by
  refine ⟨?_, ?_, ?_⟩ <;> (rw [cell_of_row _ _ _ _ _ _ h]; rfl)
theorem RbAt.set {w : World} {B : Nat} {V X : Int} {v : Value} (h : RbAt w B V X v) (x y : Int) (z : Value) : RbAt (((w.setCell ⟨B, 0, none⟩ (.int .i64 x)).setCell ⟨B, 1, none⟩ (.int .i64 y)).setCell ⟨B, 2, none⟩ z) B x y z := by
  unfold RbAt
  rw [heap_setCell_same _ B 2 _ _ _ (heap_setCell_same _ B 1 _ _ _ (heap_setCell_same _ B 0 _ _ _ h))]
  rfl
theorem set3_kept {w : World} {B : Nat} (x y z : Value) : KeptQ (fun k => k = B) w (((w.setCell ⟨B, 0, none⟩ x).setCell ⟨B, 1, none⟩ y).setCell ⟨B, 2, none⟩ z) :=
  ((KeptQ.setCell (p := fun k => k = B) w ⟨B, 0, none⟩ x rfl).trans (KeptQ.setCell (p := fun k => k = B) _ ⟨B, 1, none⟩ y rfl)).trans (KeptQ.setCell (p := fun k => k = B) _ ⟨B, 2, none⟩ z rfl)
theorem RbAt.wr {w : World} {B : Nat} {V X : Int} {v : Value} (h : RbAt w B V X v) :
    (∃ u, w.cell? ⟨B, 0, none⟩ = some u) ∧ w.frozen? ⟨B, 0, none⟩ = false ∧
    (∀ x, (w.setCell ⟨B, 0, none⟩ x).cell? ⟨B, 1, none⟩ = some (.int .i64 X)) ∧ (∀ x, (w.setCell ⟨B, 0, none⟩ x).frozen? ⟨B, 1, none⟩ = false) ∧
    (∀ x y, ((w.setCell ⟨B, 0, none⟩ x).setCell ⟨B, 1, none⟩ y).cell? ⟨B, 2, none⟩ = some v) ∧ (∀ x y, ((w.setCell ⟨B, 0, none⟩ x).setCell ⟨B, 1, none⟩ y).frozen? ⟨B, 2, none⟩ = false) := by
  have h1 := fun x => heap_setCell_same _ B 0 _ _ x h
  have h2 := fun x y => heap_setCell_same _ B 1 _ _ y (h1 x)
  refine ⟨⟨_, h.c.1⟩, frozen_of_row _ _ _ _ _ h, fun x => ?_, fun x => frozen_of_row _ _ _ _ _ (h1 x), fun x y => ?_, fun x y => frozen_of_row _ _ _ _ _ (h2 x y)⟩
  · rw [cell_of_row _ _ _ _ _ _ (h1 x)]; rfl
  · rw [cell_of_row _ _ _ _ _ _ (h2 x y)]; rfl
theorem KeptQ.below2 {w u u' : World} {k : Nat} (h : KeptQ (fun j => j = k) u u') (hb : Below w.heap.size w u) (hk : w.heap.size ≤ k) : Below w.heap.size w u' :=
  hb.trans (h.below (fun j hj => by omega) hb.size)
/-- An entry of the reference's and a number are returned. -/
theorem ret_rent {fn : Func} {p u : Tmp} (h : fn.results = #[.cell p 63, .tmp u]) {R : Ending → World → Prop} (a : Act) (w : World) (B : Nat) (e : Bv.E) (v : Value)
    (hp : a.tmps.getD p undef = .pointer (some ⟨B, 0, none⟩)) (hb : EntAt w B 63 e) (hu : a.tmps.getD u undef = v) (hd : a.defers = [])
    (hR : R (.returned (.tuple #[beV e, v])) w) : bodyPost Try.prog fn R .ret a w := by
  refine bodyPost_ret (v := .tuple #[beV e, v]) ?_ hd hR
  have hl := run_loadVar_mid w B 0 63 _ _ (range_row hb) Try.underlying63 rfl infoRE
  rw [results_cell_tmp h, hp, hu]
  simp only [asAddr, Sem.run_pure, Result.andThen_ok, hl, Array.toArray_toList, beV]
/-- A mailbox, an entry and a number are returned. -/
theorem ret_rbox {fn : Func} {p q u : Tmp} (h : fn.results = #[.cell p 28, .cell q 63, .tmp u]) {R : Ending → World → Prop} (a : Act) (w : World) (B C : Nat) (V X : Int) (r : Value) (e : Bv.E) (v : Value)
    (hp : a.tmps.getD p undef = .pointer (some ⟨B, 0, none⟩)) (hb : RbAt w B V X r) (hq : a.tmps.getD q undef = .pointer (some ⟨C, 0, none⟩)) (hc : EntAt w C 63 e) (hu : a.tmps.getD u undef = v) (hd : a.defers = [])
    (hR : R (.returned (.tuple #[rbV V X r, beV e, v])) w) : bodyPost Try.prog fn R .ret a w := by
  refine bodyPost_ret (v := .tuple #[rbV V X r, beV e, v]) ?_ hd hR
  have l1 := run_loadVar_mid w B 0 28 _ _ (range_row hb) Try.underlying28 rfl infoRB
  have l2 := run_loadVar_mid w C 0 63 _ _ (range_row hc) Try.underlying63 rfl infoRE
  have hp' : a.tmps[p]?.getD undef = .pointer (some ⟨B, 0, none⟩) := by simpa using hp
  have hq' : a.tmps[q]?.getD undef = .pointer (some ⟨C, 0, none⟩) := by simpa using hq
  have hu' : a.tmps[u]?.getD undef = v := by simpa using hu
  simp only [results, h]
  simp [Sem.run_bind, hp', hq', hu', asAddr, l1, l2, Result.andThen, rbV, beV]
/-- A mailbox and a slice are returned. -/
theorem ret_rbs {fn : Func} {p u : Tmp} (h : fn.results = #[.cell p 28, .tmp u]) {R : Ending → World → Prop} (a : Act) (w : World) (B : Nat) (V X : Int) (r : Value) (v : Value)
    (hp : a.tmps.getD p undef = .pointer (some ⟨B, 0, none⟩)) (hb : RbAt w B V X r) (hu : a.tmps.getD u undef = v) (hd : a.defers = [])
    (hR : R (.returned (.tuple #[rbV V X r, v])) w) : bodyPost Try.prog fn R .ret a w := by
  refine bodyPost_ret (v := .tuple #[rbV V X r, v]) ?_ hd hR
  have hl := run_loadVar_mid w B 0 28 _ _ (range_row hb) Try.underlying28 rfl infoRB
  rw [results_cell_tmp h, hp, hu]
  simp only [asAddr, Sem.run_pure, Result.andThen_ok, hl, Array.toArray_toList, rbV]
theorem ret_rb {fn : Func} {p : Tmp} (h : fn.results = #[.cell p 28]) {R : Ending → World → Prop} (a : Act) (w : World) (B : Nat) (V X : Int) (r : Value)
    (hp : a.tmps.getD p undef = .pointer (some ⟨B, 0, none⟩)) (hb : RbAt w B V X r) (hd : a.defers = [])
    (hR : R (.returned (rbV V X r)) w) : bodyPost Try.prog fn R .ret a w := by
  refine bodyPost_ret (v := rbV V X r) ?_ hd hR
  have hl := run_loadVar_mid w B 0 28 _ _ (range_row hb) Try.underlying28 rfl infoRB
  have hp' : a.tmps[p]?.getD undef = .pointer (some ⟨B, 0, none⟩) := by simpa using hp
  simp only [results, h]
  simp [Sem.run_bind, hp', asAddr, hl, Result.andThen, rbV]

set_option maxHeartbeats 1000000 in
set_option maxRecDepth 100000 in
theorem rnew18_any (n k : Int) (hk : max 1 (min n 1099511627776) = k) (w : World) :
    Calls Try.prog 10 #[.int .i64 n] w fun e w' => e = .returned (rbV k 1 (.slice none 0 0)) ∧ Below w.heap.size w w' := by
  obtain ⟨m, hm⟩ : ∃ m : Int, min n 1099511627776 = m := ⟨_, rfl⟩
  rw [hm] at hk
  go_enter Try.func10, Try.ntmps10
  go_upto_region 1 with (fail)
  have HB0 := hid ((Below.refl w.heap.size w).alloc (Nat.le_refl _) (.cells #[.int .i64 0, .int .i64 0, .slice none 0 0] 28))
  have HR0 := hid (show RbAt (w.alloc (.cells #[.int .i64 0, .int .i64 0, .slice none 0 0] 28)) w.heap.size 0 0 (.slice none 0 0) from heap_alloc_new _ _)
  generalize w.alloc _ = w0 at *
  obtain ⟨⟨z0, s0⟩, f0, s1, f1, s2, f2⟩ := HR0.out.wr
  go_wp2
  refine ret_rb Try.results10 _ _ w.heap.size k 1 (.slice none 0 0) ?_ (HR0.out.set k 1 _) ?_ ?_
  · rfl
  · rfl
  exact ⟨rfl, (set3_kept _ _ _).below2 HB0.out (Nat.le_refl _)⟩

theorem Bv.hit_at {L : List Bv.E} (hup : Bv.Up L) {u : Int} (p : Nat) (hp : p < L.length) (h : (L.getD p (0, 0, 0)).1 = u) : Bv.cnt L u = p ∧ Bv.hit L u = true := by
  have hc : Bv.cnt L u = p := Bv.count_is _ L p (by omega) (fun t ht => decide_eq_true (by rw [← h]; exact hup t p ht hp)) (fun t h1 h2 => decide_eq_false (by
    rcases Nat.lt_or_ge p t with h3 | h3
    · have := hup p t h3 h2; omega
    · obtain rfl : t = p := by omega
      omega))
  refine ⟨hc, ?_⟩
  unfold Bv.hit
  rw [hc, h]
  simp [hp]
theorem Bv.hit_no {L : List Bv.E} {u : Int} (h : ∀ t, t < L.length → (L.getD t (0, 0, 0)).1 ≠ u) : Bv.hit L u = false := by
  cases hh : Bv.hit L u with
  | false => rfl
  | true => exact absurd (Bv.hit_is hh) (h _ (Bv.hit_lt hh))

set_option maxHeartbeats 2000000 in
set_option maxRecDepth 100000 in
theorem rget18_any (V X : Int) (v : Value) (L : List Bv.E) (u : Int) (w : World) (h : OwnB w 63 v L) (hup : Bv.Up L) (hl : L.length ≤ 1000) :
    Calls Try.prog 28 #[rbV V X v, .int .i64 u] w fun e w' => e = .returned (.tuple #[beV (Bv.getR L u), .int .i64 (Bv.getE L u : Nat)]) ∧ Below w.heap.size w w' := by
  obtain ⟨ao, cap, rfl, hes⟩ := h.es
  have HA := hid hes
  have HUP := hid hup
  clear h hes hup
  obtain ⟨R, hR⟩ : ∃ R, Bv.getR L u = R := ⟨_, rfl⟩
  obtain ⟨E, hE⟩ : ∃ E, Bv.getE L u = E := ⟨_, rfl⟩
  rw [hR, hE]
  have HR := hid hR
  have HE := hid hE
  clear hR hE
  unfold rbV
  go_enter Try.func28, Try.ntmps28
  go_upto_region 2 with (fail)
  have HB0 := hid (((Below.refl w.heap.size w).alloc (Nat.le_refl _) (.cells #[.int .i64 V, .int .i64 X, .slice ao L.length cap] 28)).alloc (by simp) (.cells #[.int .i64 0, .int .i64 0, .int .i64 0] 63))
  have HE0 := hid (show EntAt ((w.alloc (.cells #[.int .i64 V, .int .i64 X, .slice ao L.length cap] 28)).alloc (.cells #[.int .i64 0, .int .i64 0, .int .i64 0] 63)) (w.heap.size + 1) 63 (0, 0, 0) from by
    have := heap_alloc_new (w.alloc (.cells #[.int .i64 V, .int .i64 X, .slice ao L.length cap] 28)) (.cells #[.int .i64 0, .int .i64 0, .int .i64 0] 63)
    simpa [EntAt] using this)
  generalize World.alloc _ _ = w0 at *
  go_loopw [11] (fun i wr => ∃ p : Nat, p ≤ L.length ∧ i = .int .i64 p ∧ (∀ t, t < p → (L.getD t (0, 0, 0)).1 ≠ u) ∧ EntAt wr (w.heap.size + 1) 63 (0, 0, 0) ∧ Below w.heap.size w wr)
    (fun i _ => L.length - (intOf i).toNat)
  case atStart => exact ⟨0, by omega, rfl, fun t ht => absurd ht (by omega), HE0.out, HB0.out⟩
  case round =>
    obtain ⟨p, hp, rfl, hno, he, hb⟩ := hrel
    have HN := hid hno
    have HEN := hid he
    have HB := hid hb
    clear hno he hb HE0 HB0
    by_cases hlt : p < L.length
    · obtain ⟨g, rfl, q0, q1, q2⟩ := (HA.out.below HB.out) p hlt
      obtain ⟨⟨yu, yf, ym⟩, hy⟩ : ∃ y, L.getD p (0, 0, 0) = y := ⟨_, rfl⟩
      rw [hy] at q0 q1 q2
      dsimp only at q0 q1 q2
      have HY := hid hy
      clear hy
      have HB2 := hid (HB.out.trans (((Below.refl wr.heap.size wr).alloc (Nat.le_refl _) (.cells #[.int .i64 yu, .int .i64 yf, .int .i64 ym] 63)).mono HB.out.size))
      have HE2 := hid (HEN.out.below ((Below.refl wr.heap.size wr).alloc (Nat.le_refl _) (.cells #[.int .i64 yu, .int .i64 yf, .int .i64 ym] 63)))
      by_cases hyu : yu = u
      · subst hyu
        have hh := Bv.hit_at HUP.out p hlt (show (L.getD p (0, 0, 0)).1 = yu from by rw [HY.out])
        have hRR : R = (yu, yf, ym) ∧ E = 0 := by
          refine ⟨?_, ?_⟩
          · rw [← HR.out]; unfold Bv.getR Bv.at_; rw [hh.2, hh.1, if_pos rfl]; exact HY.out
          · rw [← HE.out]; unfold Bv.getE; rw [hh.2, if_pos rfl]
        have HRR := hid hRR
        clear hh hRR
        go_upto_region 5 with (fail)
        have HX := hid (show EntAt (wr.alloc (.cells #[.int .i64 yu, .int .i64 yf, .int .i64 ym] 63)) wr.heap.size 63 (yu, yf, ym) from heap_alloc_new _ _)
        generalize World.alloc _ _ = w3 at *
        obtain ⟨x0, x1, x2⟩ := HX.out.c
        dsimp only at x0 x1 x2
        obtain ⟨⟨z0, s0⟩, f0, s1, f1, s2, f2⟩ := HE2.out.wr
        go_wp2
        refine ret_rent Try.results28 _ _ (w.heap.size + 1) (yu, yf, ym) (.int .i64 0) ?_ (HE2.out.set yu yf ym) ?_ ?_ ?_
        · rfl
        · rfl
        · rfl
        exact ⟨by rw [HRR.out.1, HRR.out.2]; rfl, (set3_kept _ _ _).below2 HB2.out (by omega)⟩
      · have hyb : (yu == u) = false := by simpa using hyu
        go_wp2
        exact ⟨⟨p + 1, by omega, by go_num, fun t ht => by
          rcases Nat.lt_or_ge t p with h1 | h1
          · exact HN.out t h1
          · obtain rfl : t = p := by omega
            rw [HY.out]; exact hyu, HE2.out, HB2.out⟩, by simp [intOf]; omega⟩
    · obtain rfl : p = L.length := by omega
      have hno := Bv.hit_no HN.out
      have hRR : R = (0, 0, 0) ∧ E = 7 := ⟨by rw [← HR.out]; unfold Bv.getR; rw [hno]; rfl, by rw [← HE.out]; unfold Bv.getE; rw [hno]; rfl⟩
      have HRR := hid hRR
      clear hno hRR
      obtain ⟨⟨z0, s0⟩, f0, s1, f1, s2, f2⟩ := HEN.out.wr
      go_wp2
      refine ret_rent Try.results28 _ _ (w.heap.size + 1) (0, 0, 0) (.int .i64 7) ?_ (HEN.out.set 0 0 0) ?_ ?_ ?_
      · rfl
      · rfl
      · rfl
      exact ⟨by rw [HRR.out.1, HRR.out.2]; rfl, (set3_kept _ _ _).below2 HB.out (by omega)⟩
end Go.Proofs.Ytlfjhpmachblkaa
