/-
  Layer 18: Get, Set, Add.
-/
import Derived.Test.YtlfjhpmachblkaaBx1
import Derived.Test.YtlfjhpmachblkaaRl
import Derived.Laws.ResultCell
namespace Go.Proofs.Ytlfjhpmachblkaa
open Go.RowKit
open Go.Lib (hid)

/-- From one state of a mailbox to a later one. -/
def BxTo (w : World) (b : Nat) (v : Value) (w' : World) (v' : Value) : Prop := KeptQ (bxB b v) w w' ∧ VNext w v v'
theorem BxTo.refl (w : World) (b : Nat) (v : Value) : BxTo w b v w v := ⟨KeptQ.refl _ _, VNext.refl _ _⟩
theorem BxTo.trans {u w x : World} {b : Nat} {v v' v'' : Value} (h : BxTo u b v w v') (k : BxTo w b v' x v'') : BxTo u b v x v'' := by
  refine ⟨⟨k.1.os.trans h.1.os, k.1.tape.trans h.1.tape, k.1.output.trans h.1.output, Nat.le_trans h.1.size k.1.size, fun i hi hb => ?_⟩, fun i hi => ?_⟩
  · refine (k.1.block i (Nat.lt_of_lt_of_le hi h.1.size) fun hq => hb ?_).trans (h.1.block i hi hb)
    rcases hq with hq | hq
    · exact Or.inl hq
    · rcases h.2 i hq with h1 | h1
      · exact Or.inr h1
      · omega
  · rcases k.2 i hi with h1 | h1
    · exact h.2 i h1
    · exact Or.inr (Nat.le_trans h.1.size h1)
theorem BxTo.of {w w' : World} {b : Nat} {v : Value} {p : Nat → Prop} (h : KeptQ p w w') (hp : ∀ k, p k → bxB b v k) : BxTo w b v w' v := ⟨h.mono hp, VNext.refl _ _⟩
theorem BxTo.below {w w' : World} {b : Nat} {v : Value} (h : Below w.heap.size w w') : BxTo w b v w' v := ⟨KeptQ.of_below h, VNext.refl _ _⟩

def beV (e : Bv.E) : Value := .agg #[.int .i64 e.1, .int .i64 e.2.1, .int .i64 e.2.2]
/-- Block B holds an entry. -/
def EntAt (w : World) (B : Nat) (T : TypeId) (e : Bv.E) : Prop := w.heap[B]? = some (.cells #[.int .i64 e.1, .int .i64 e.2.1, .int .i64 e.2.2] T (0, 0))
theorem EntAt.set {w : World} {B : Nat} {T : TypeId} {e : Bv.E} (h : EntAt w B T e) (x y z : Int) : EntAt (((w.setCell ⟨B, 0, none⟩ (.int .i64 x)).setCell ⟨B, 1, none⟩ (.int .i64 y)).setCell ⟨B, 2, none⟩ (.int .i64 z)) B T (x, y, z) := by
  unfold EntAt
  rw [heap_setCell_same _ B 2 _ _ _ (heap_setCell_same _ B 1 _ _ _ (heap_setCell_same _ B 0 _ _ _ h))]
  rfl
theorem EntAt.kept {w : World} {B : Nat} (x y z : Int) : KeptQ (fun k => k = B) w (((w.setCell ⟨B, 0, none⟩ (.int .i64 x)).setCell ⟨B, 1, none⟩ (.int .i64 y)).setCell ⟨B, 2, none⟩ (.int .i64 z)) :=
  ((KeptQ.setCell (p := fun k => k = B) w ⟨B, 0, none⟩ (.int .i64 x) rfl).trans (KeptQ.setCell (p := fun k => k = B) _ ⟨B, 1, none⟩ (.int .i64 y) rfl)).trans (KeptQ.setCell (p := fun k => k = B) _ ⟨B, 2, none⟩ (.int .i64 z) rfl)
theorem EntAt.lt {w : World} {B : Nat} {T : TypeId} {e : Bv.E} (h : EntAt w B T e) : B < w.heap.size := (Array.getElem?_eq_some_iff.1 h).1
theorem EntAt.below {w w' : World} {B : Nat} {T : TypeId} {e : Bv.E} (h : EntAt w B T e) (hb : Below w.heap.size w w') : EntAt w' B T e := (hb.block B h.lt).trans h
theorem EntAt.c {w : World} {B : Nat} {T : TypeId} {e : Bv.E} (h : EntAt w B T e) : w.cell? ⟨B, 0, none⟩ = some (.int .i64 e.1) ∧ w.cell? ⟨B, 1, none⟩ = some (.int .i64 e.2.1) ∧ w.cell? ⟨B, 2, none⟩ = some (.int .i64 e.2.2) := by
  refine ⟨?_, ?_, ?_⟩ <;> (rw [cell_of_row _ _ _ _ _ _ h]; rfl)
theorem EntAt.f {w : World} {B : Nat} {T : TypeId} {e : Bv.E} (h : EntAt w B T e) (i : Nat) : w.frozen? ⟨B, i, none⟩ = false := frozen_of_row _ _ _ _ _ h
/-- What may be written, cell by cell. -/
theorem EntAt.wr {w : World} {B : Nat} {T : TypeId} {e : Bv.E} (h : EntAt w B T e) :
    (∃ u, w.cell? ⟨B, 0, none⟩ = some u) ∧ w.frozen? ⟨B, 0, none⟩ = false ∧
    (∀ x, (w.setCell ⟨B, 0, none⟩ x).cell? ⟨B, 1, none⟩ = some (.int .i64 e.2.1)) ∧ (∀ x, (w.setCell ⟨B, 0, none⟩ x).frozen? ⟨B, 1, none⟩ = false) ∧
    (∀ x y, ((w.setCell ⟨B, 0, none⟩ x).setCell ⟨B, 1, none⟩ y).cell? ⟨B, 2, none⟩ = some (.int .i64 e.2.2)) ∧ (∀ x y, ((w.setCell ⟨B, 0, none⟩ x).setCell ⟨B, 1, none⟩ y).frozen? ⟨B, 2, none⟩ = false) := by
  have h1 := fun x => heap_setCell_same _ B 0 _ _ x h
  have h2 := fun x y => heap_setCell_same _ B 1 _ _ y (h1 x)
  refine ⟨⟨_, h.c.1⟩, h.f 0, fun x => ?_, fun x => frozen_of_row _ _ _ _ _ (h1 x), fun x y => ?_, fun x y => frozen_of_row _ _ _ _ _ (h2 x y)⟩
  · rw [cell_of_row _ _ _ _ _ _ (h1 x)]; rfl
  · rw [cell_of_row _ _ _ _ _ _ (h2 x y)]; rfl
theorem infoBE : (Try.prog.info? 38).map (·.size) = some 3 := by kernel_rfl
/-- An entry and a number are returned. -/
theorem ret_ent {fn : Func} {p u : Tmp} (h : fn.results = #[.cell p 38, .tmp u]) {R : Ending → World → Prop} (a : Act) (w : World) (B : Nat) (e : Bv.E) (v : Value)
    (hp : a.tmps.getD p undef = .pointer (some ⟨B, 0, none⟩)) (hb : EntAt w B 38 e) (hu : a.tmps.getD u undef = v) (hd : a.defers = [])
    (hR : R (.returned (.tuple #[beV e, v])) w) : bodyPost Try.prog fn R .ret a w := by
  refine bodyPost_ret (v := .tuple #[beV e, v]) ?_ hd hR
  have hl := run_loadVar_mid w B 0 38 _ _ (range_row hb) Try.underlying38 rfl infoBE
  rw [results_cell_tmp h, hp, hu]
  simp only [asAddr, Sem.run_pure, Result.andThen_ok, hl, Array.toArray_toList, beV]

namespace Bv
def at_ (L : List E) (u : Int) : E := L.getD (cnt L u) (0, 0, 0)
def getE (L : List E) (u : Int) : Nat := if hit L u then 0 else 7
def getR (L : List E) (u : Int) : E := if hit L u then at_ L u else (0, 0, 0)
def sf (f on off : Int) : Int := bits .or .i64 (bits .andNot .i64 f off) on
def setE (L : List E) (u on off : Int) : Nat := if hit L u then if fl on && fl off then 0 else 4 else 7
def setR (L : List E) (u on off : Int) : E := if setE L u on off = 0 then ((at_ L u).1, sf (at_ L u).2.1 on off, (at_ L u).2.2) else (0, 0, 0)
def setL (L : List E) (u on off : Int) : List E := if setE L u on off = 0 then L.set (cnt L u) (setR L u on off) else L
def addE (L : List E) (m f : Int) : Nat := if okc m && fl f then if L.length < 256 then 0 else 8 else 4
def addR (X : Int) (L : List E) (m f : Int) : E := if addE L m f = 0 then (X, f, m) else (0, 0, 0)
def addX (X : Int) (L : List E) (m f : Int) : Int := if addE L m f = 0 then X + 1 else X
def addL (X : Int) (L : List E) (m f : Int) : List E := if addE L m f = 0 then L ++ [(X, f, m)] else L
end Bv

theorem Bv.hit_lt {L : List Bv.E} {u : Int} (h : Bv.hit L u = true) : Bv.cnt L u < L.length := by unfold Bv.hit at h; simp at h; exact h.1
theorem Bv.hit_is {L : List Bv.E} {u : Int} (h : Bv.hit L u = true) : (L.getD (Bv.cnt L u) (0, 0, 0)).1 = u := by unfold Bv.hit at h; simp at h; simpa using h.2
theorem KeptQ.below' {w u u' : World} (h : KeptQ (fun k => k = w.heap.size) u u') (hb : Below w.heap.size w u) : Below w.heap.size w u' :=
  hb.trans (h.below (fun k hk => by omega) hb.size)

set_option maxHeartbeats 2000000 in
set_option maxRecDepth 100000 in
theorem get_any (b : Nat) (v : Value) (V X : Int) (L : List Bv.E) (u : Int) (w : World) (h : IsB w b v V X L) (hup : Bv.Up L) (hl : L.length ≤ 1000000) :
    Calls Try.prog 29 #[.pointer (some ⟨b, 0, none⟩), .int .i64 u] w fun e w' => e = .returned (.tuple #[beV (Bv.getR L u), .int .i64 (Bv.getE L u : Nat)]) ∧ Below w.heap.size w w' := by
  have HF := hid (fun wx hx => find_any b v V X L u wx hx hup hl)
  have HI := hid h
  clear h hup
  cases hh : Bv.hit L u with
  | false =>
    have hR : Bv.getR L u = (0, 0, 0) ∧ Bv.getE L u = 7 := by unfold Bv.getR Bv.getE; rw [hh]; exact ⟨rfl, rfl⟩
    rw [hR.1, hR.2]
    rw [hh] at HF
    clear hh hR
    go_enter Try.func29, Try.ntmps29
    go_upto_region 1 with (fail)
    have HB0 := hid ((Below.refl w.heap.size w).alloc (Nat.le_refl _) (.cells #[.int .i64 0, .int .i64 0, .int .i64 0] 38))
    have HE0 := hid (show EntAt (w.alloc (.cells #[.int .i64 0, .int .i64 0, .int .i64 0] 38)) w.heap.size 38 (0, 0, 0) from heap_alloc_new _ _)
    generalize w.alloc _ = w0 at *
    go_wp2_with fail
    refine (HF.out w0 (HI.out.below HB0.out)).mono ?_
    rintro e w1 ⟨rfl, hb1⟩
    have HE1 := hid (HE0.out.below hb1)
    have HB1 := hid (HB0.out.trans (hb1.mono HB0.out.size))
    have HI1 := hid (HI.out.below HB1.out)
    have HI0 := HI
    clear hb1 HF HE0 HB0 HI
    obtain ⟨⟨z0, s0⟩, f0, s1, f1, s2, f2⟩ := HE1.out.wr
    go_wp2
    refine ret_ent Try.results29 _ _ w.heap.size (0, 0, 0) (.int .i64 7) ?_ (HE1.out.set 0 0 0) ?_ ?_ ?_
    · rfl
    · rfl
    · rfl
    exact ⟨rfl, (EntAt.kept _ _ _).below' HB1.out⟩
  | true =>
    have hR : Bv.getR L u = Bv.at_ L u ∧ Bv.getE L u = 0 := by unfold Bv.getR Bv.getE; rw [hh]; exact ⟨rfl, rfl⟩
    obtain ⟨⟨yu, yf, ym⟩, hy⟩ : ∃ y, Bv.at_ L u = y := ⟨_, rfl⟩
    rw [hR.1, hR.2, hy]
    rw [hh] at HF
    have hlt := Bv.hit_lt hh
    have hat : L.getD (Bv.cnt L u) (0, 0, 0) = (yu, yf, ym) := hy
    clear hh hR hy
    generalize Bv.cnt L u = ct at *
    go_enter Try.func29, Try.ntmps29
    go_upto_region 1 with (fail)
    have HB0 := hid ((Below.refl w.heap.size w).alloc (Nat.le_refl _) (.cells #[.int .i64 0, .int .i64 0, .int .i64 0] 38))
    have HE0 := hid (show EntAt (w.alloc (.cells #[.int .i64 0, .int .i64 0, .int .i64 0] 38)) w.heap.size 38 (0, 0, 0) from heap_alloc_new _ _)
    generalize w.alloc _ = w0 at *
    go_wp2_with fail
    refine (HF.out w0 (HI.out.below HB0.out)).mono ?_
    rintro e w1 ⟨rfl, hb1⟩
    have HE1 := hid (HE0.out.below hb1)
    have HB1 := hid (HB0.out.trans (hb1.mono HB0.out.size))
    have HI1 := hid (HI.out.below HB1.out)
    have HI0 := HI
    clear hb1 HF HE0 HB0 HI
    obtain ⟨ao, cap, rfl, hes⟩ := HI1.out.own.es
    obtain ⟨g, rfl, q0, q1, q2⟩ := hes ct hlt
    rw [hat] at q0 q1 q2
    have c2 := HI1.out.c2
    clear hat hes
    dsimp only at q0 q1 q2
    obtain ⟨⟨z0, s0⟩, f0, s1, f1, s2, f2⟩ := HE1.out.wr
    go_wp2
    refine ret_ent Try.results29 _ _ w.heap.size (yu, yf, ym) (.int .i64 0) ?_ (HE1.out.set yu yf ym) ?_ ?_ ?_
    · rfl
    · rfl
    · rfl
    exact ⟨rfl, (EntAt.kept _ _ _).below' HB1.out⟩

theorem besC_set (l : List Bv.E) (i : Nat) (a f c : Int) (h : i < l.length) (hy : l.getD i (0, 0, 0) = (a, f, c)) (f' : Int) : besC (l.set i (a, f', c)) = (besC l).set (i * 3 + 1) (.int .i64 f') := by
  induction l generalizing i with
  | nil => simp at h
  | cons x l ih =>
    cases i with
    | zero =>
      simp only [List.getD_cons_zero] at hy
      subst hy
      rfl
    | succ i =>
      simp only [List.getD_cons_succ] at hy
      have := ih i (by simpa using h) hy
      rw [List.set_cons_succ]
      simp only [besC, List.flatMap_cons] at this ⊢
      rw [this, show (i + 1) * 3 + 1 = (beC x).length + (i * 3 + 1) from by simp [beC]; omega, List.set_append_right _ _ (by omega)]
      congr 2
      omega
theorem OwnB.setFlag {w : World} {T : TypeId} {g cap : Nat} {l : List Bv.E} {n : Nat} (h : OwnB w T (.slice (some ⟨g, 0, none⟩) n cap) l) (i : Nat) (a f c : Int) (hi : i < l.length) (hy : l.getD i (0, 0, 0) = (a, f, c)) (f' : Int) :
    OwnB (w.setCell ⟨g, i * 3 + 1, none⟩ (.int .i64 f')) T (.slice (some ⟨g, 0, none⟩) n cap) (l.set i (a, f', c)) := by
  obtain ⟨h1, ⟨hv, h0⟩ | ⟨g', cap', cur, hv, hg, hh, hn, hm, hs, hc⟩⟩ := h
  · cases hv
  · obtain ⟨rfl, rfl⟩ : g' = g ∧ cap' = cap := by injection hv with e1 e2 e3; injection e1 with e1; injection e1 with e1; exact ⟨e1.symm, e3.symm⟩
    refine ⟨by rw [besC_length], Or.inr ⟨g', cap', cur.setIfInBounds (i * 3 + 1) (.int .i64 f'), by rw [List.length_set]; exact hv, hg, heap_setCell_same _ g' _ _ _ _ hh, by rw [List.length_set]; exact hn, hm, by rw [Array.size_setIfInBounds]; exact hs, ?_⟩⟩
    rw [besC_set l i a f c hi hy, ← hc, List.length_set, Array.toList_setIfInBounds, List.take_set]
theorem ints_two (w : World) (x y : Int) (t : TypeId) : IntsB (w.alloc (.cells #[.int .i64 x, .int .i64 y] t)) (some ⟨w.heap.size, 0, none⟩) [x, y] := by
  intro i hi
  refine ⟨_, _, rfl, ?_⟩
  rw [cell_of_row _ _ _ _ _ _ (heap_alloc_new _ _)]
  have : i = 0 ∨ i = 1 := by simp at hi; omega
  rcases this with rfl | rfl <;> rfl
set_option maxHeartbeats 2000000 in
set_option maxRecDepth 100000 in
theorem set_any (b : Nat) (v : Value) (V X : Int) (L : List Bv.E) (u on off : Int) (w : World) (h : IsB w b v V X L) (hup : Bv.Up L) (hl : L.length ≤ 1000000) :
    Calls Try.prog 22 #[.pointer (some ⟨b, 0, none⟩), .int .i64 u, .int .i64 on, .int .i64 off] w fun e w' => e = .returned (.tuple #[beV (Bv.setR L u on off), .int .i64 (Bv.setE L u on off : Nat)]) ∧ IsB w' b v V X (Bv.setL L u on off) ∧ BxTo w b v w' v := by
  have HF := hid (fun wx hx => find_any b v V X L u wx hx hup hl)
  have HI := hid h
  clear h hup
  cases hh : Bv.hit L u with
  | false =>
    have hE : Bv.setE L u on off = 7 := by unfold Bv.setE; rw [hh]; rfl
    have hR : Bv.setR L u on off = (0, 0, 0) ∧ Bv.setL L u on off = L := by unfold Bv.setL Bv.setR; rw [hE]; exact ⟨rfl, rfl⟩
    rw [hR.1, hR.2, hE]
    rw [hh] at HF
    clear hh hR hE
    go_enter Try.func22, Try.ntmps22
    go_upto_region 1 with (fail)
    have HB0 := hid ((Below.refl w.heap.size w).alloc (Nat.le_refl _) (.cells #[.int .i64 0, .int .i64 0, .int .i64 0] 38))
    have HE0 := hid (show EntAt (w.alloc (.cells #[.int .i64 0, .int .i64 0, .int .i64 0] 38)) w.heap.size 38 (0, 0, 0) from heap_alloc_new _ _)
    generalize w.alloc _ = w0 at *
    go_wp2_with fail
    refine (HF.out w0 (HI.out.below HB0.out)).mono ?_
    rintro e w1 ⟨rfl, hb1⟩
    have HE1 := hid (HE0.out.below hb1)
    have HB1 := hid (HB0.out.trans (hb1.mono HB0.out.size))
    have HI1 := hid (HI.out.below HB1.out)
    have HI0 := HI
    clear hb1 HF HE0 HB0 HI
    obtain ⟨⟨z0, s0⟩, f0, s1, f1, s2, f2⟩ := HE1.out.wr
    go_wp2
    refine ret_ent Try.results22 _ _ w.heap.size (0, 0, 0) (.int .i64 7) ?_ (HE1.out.set 0 0 0) ?_ ?_ ?_
    · rfl
    · rfl
    · rfl
    have hb := (EntAt.kept 0 0 0).below' HB1.out
    exact ⟨rfl, HI0.out.below hb, BxTo.below hb⟩
  | true =>
    obtain ⟨⟨yu, yf, ym⟩, hy⟩ : ∃ y, Bv.at_ L u = y := ⟨_, rfl⟩
    have hlt := Bv.hit_lt hh
    have hat : L.getD (Bv.cnt L u) (0, 0, 0) = (yu, yf, ym) := hy
    by_cases hfl : (Bv.fl on && Bv.fl off) = true
    · have hE : Bv.setE L u on off = 0 := by unfold Bv.setE; rw [hh, hfl]; rfl
      have hR : Bv.setR L u on off = (yu, Bv.sf yf on off, ym) := by unfold Bv.setR; rw [hE, hy]; rfl
      have hL : Bv.setL L u on off = L.set (Bv.cnt L u) (yu, Bv.sf yf on off, ym) := by unfold Bv.setL; rw [hE, hR]; rfl
      rw [hL, hR, hE]
      rw [hh] at HF
      clear hh hR hy hE hL
      generalize Bv.cnt L u = ct at *
      generalize hsf : Bv.sf yf on off = sf at *
      have HSF := hid hsf
      clear hsf
      obtain ⟨ao, cap, rfl, hes⟩ := HI.out.own.es
      obtain ⟨g, rfl, _⟩ := hes ct hlt
      have hgl := HI.out.own.lt (k := g) rfl
      clear hes
      go_enter Try.func22, Try.ntmps22
      go_upto_region 1 with (fail)
      have HB0 := hid ((Below.refl w.heap.size w).alloc (Nat.le_refl _) (.cells #[.int .i64 0, .int .i64 0, .int .i64 0] 38))
      have HE0 := hid (show EntAt (w.alloc (.cells #[.int .i64 0, .int .i64 0, .int .i64 0] 38)) w.heap.size 38 (0, 0, 0) from heap_alloc_new _ _)
      generalize w.alloc _ = w0 at *
      go_wp2_with fail
      refine (HF.out w0 (HI.out.below HB0.out)).mono ?_
      rintro e w1 ⟨rfl, hb1⟩
      have HE1 := hid (HE0.out.below hb1)
      have HB1 := hid (HB0.out.trans (hb1.mono HB0.out.size))
      have HI1 := hid (HI.out.below HB1.out)
      have HI0 := HI
      clear hb1 HF HE0 HB0 HI
      have HB2 := hid ((Below.refl w1.heap.size w1).alloc (Nat.le_refl _) (.cells #[.int .i64 on, .int .i64 off] 3))
      have HF2 := hid (areFlags_any _ 2 _ _ (ints_two w1 on off 3) (by simp))
      rw [show ([on, off].all Bv.fl) = (Bv.fl on && Bv.fl off) from by simp, hfl] at HF2
      have HE2 := hid (HE1.out.below HB2.out)
      have HB3 := hid (HB1.out.trans (HB2.out.mono HB1.out.size))
      have HI2 := hid (HI0.out.below HB3.out)
      go_wp2_with fail
      refine HF2.out.mono ?_
      rintro e w2 ⟨rfl, rfl⟩
      generalize w1.alloc _ = w3 at *
      clear HF2 HB2 HE1 HB1 HI1
      have hes := HI2.out.own.es
      obtain ⟨ao, cap', he, hes⟩ := hes
      obtain ⟨rfl, rfl⟩ : some ⟨g, 0, none⟩ = ao ∧ cap = cap' := by injection he with e1 e2 e3; exact ⟨e1, e3⟩
      obtain ⟨g', hg', q0, q1, q2⟩ := hes ct hlt
      obtain rfl : g = g' := by injection hg' with h; injection h
      rw [hat] at q0 q1 q2
      dsimp only at q0 q1 q2
      have c2 := HI2.out.c2
      have HAT := hid hat
      clear hes he hg' hat
      have fg : w3.frozen? ⟨g, ct * 3 + 1, none⟩ = false := by obtain ⟨cs, hc⟩ := HI2.out.own.block (k := g) rfl; exact frozen_of_row _ _ _ _ _ hc
      go_upto_region 8 with (fail)
      rw [show bits BinOp.or IntKind.i64 (bits BinOp.andNot IntKind.i64 yf off) on = sf from HSF.out]
      have ho4 := HI2.out.own.setFlag ct yu yf ym hlt HAT.out sf
      generalize hW4 : w3.setCell _ _ = w4 at *
      have hk4 : KeptQ (fun k => k = g) w3 w4 := by rw [← hW4]; exact KeptQ.setCell _ _ _ rfl
      have hgb : b ≠ g := by intro e; exact HI2.out.ne (by rw [e]; rfl)
      have H4 : IsB w4 b (.slice (some ⟨g, 0, none⟩) L.length cap) V X (L.set ct (yu, sf, ym)) := ⟨(hk4.block b HI2.out.lt hgb).trans HI2.out.row, ho4⟩
      have HE4 : EntAt w4 w.heap.size 38 (0, 0, 0) := (hk4.block _ HE2.out.lt (by show ¬ w.heap.size = g; omega)).trans HE2.out
      have HK4 := hid ((KeptQ.of_below (p := fun k => k = g) HB3.out).trans hk4)
      have HS4 := hid (show w.heap.size ≤ w4.heap.size from Nat.le_trans HB3.out.size hk4.size)
      clear hW4 hk4 q0 q1 q2 fg c2 HE2 HB3 HI2
      have HI4 := hid H4
      have HX4 := hid HE4
      obtain ⟨ao, cap', he, hes⟩ := ho4.es
      obtain ⟨rfl, rfl⟩ : some ⟨g, 0, none⟩ = ao ∧ cap = cap' := by injection he with e1 e2 e3; exact ⟨e1, e3⟩
      obtain ⟨g', hg', q0, q1, q2⟩ := hes ct (by rw [List.length_set]; exact hlt)
      obtain rfl : g = g' := by injection hg' with h; injection h
      rw [show (L.set ct (yu, sf, ym)).getD ct (0, 0, 0) = (yu, sf, ym) from by rw [List.getD_eq_getElem?_getD, List.getElem?_set_self hlt]; rfl] at q0 q1 q2
      dsimp only at q0 q1 q2
      clear hes he hg' ho4 H4 HE4
      obtain ⟨⟨z0, s0⟩, f0, s1, f1, s2, f2⟩ := HX4.out.wr
      go_wp2
      refine ret_ent Try.results22 _ _ w.heap.size (yu, sf, ym) (.int .i64 0) ?_ (HX4.out.set yu sf ym) ?_ ?_ ?_
      · rfl
      · rfl
      · rfl
      have hk5 := EntAt.kept (w := w4) (B := w.heap.size) yu sf ym
      have hb5 : KeptQ (fun k => k = g) w (((w4.setCell ⟨w.heap.size, 0, none⟩ (.int .i64 yu)).setCell ⟨w.heap.size, 1, none⟩ (.int .i64 sf)).setCell ⟨w.heap.size, 2, none⟩ (.int .i64 ym)) :=
        ⟨hk5.os.trans HK4.out.os, hk5.tape.trans HK4.out.tape, hk5.output.trans HK4.out.output, Nat.le_trans HS4.out hk5.size, fun k hk hn => (hk5.block k (Nat.lt_of_lt_of_le hk HS4.out) (by show ¬ k = w.heap.size; omega)).trans (HK4.out.block k hk hn)⟩
      refine ⟨rfl, HI4.out.kept hk5 ?_, BxTo.of hb5 (fun k hk => Or.inr (by rw [hk]; rfl))⟩
      rintro k (rfl | hk)
      · have := HI0.out.lt; show ¬ k = w.heap.size; omega
      · injection hk with hk; have hk : k = g := hk; show ¬ k = w.heap.size; omega
    · have hE : Bv.setE L u on off = 4 := by unfold Bv.setE; rw [hh, if_neg hfl]; rfl
      have hR : Bv.setR L u on off = (0, 0, 0) ∧ Bv.setL L u on off = L := by unfold Bv.setL Bv.setR; rw [hE]; exact ⟨rfl, rfl⟩
      rw [hR.1, hR.2, hE]
      rw [hh] at HF
      rw [Bool.not_eq_true] at hfl
      clear hh hR hE hy
      generalize Bv.cnt L u = ct at *
      go_enter Try.func22, Try.ntmps22
      go_upto_region 1 with (fail)
      have HB0 := hid ((Below.refl w.heap.size w).alloc (Nat.le_refl _) (.cells #[.int .i64 0, .int .i64 0, .int .i64 0] 38))
      have HE0 := hid (show EntAt (w.alloc (.cells #[.int .i64 0, .int .i64 0, .int .i64 0] 38)) w.heap.size 38 (0, 0, 0) from heap_alloc_new _ _)
      generalize w.alloc _ = w0 at *
      go_wp2_with fail
      refine (HF.out w0 (HI.out.below HB0.out)).mono ?_
      rintro e w1 ⟨rfl, hb1⟩
      have HE1 := hid (HE0.out.below hb1)
      have HB1 := hid (HB0.out.trans (hb1.mono HB0.out.size))
      have HI1 := hid (HI.out.below HB1.out)
      have HI0 := HI
      clear hb1 HF HE0 HB0 HI
      have HB2 := hid ((Below.refl w1.heap.size w1).alloc (Nat.le_refl _) (.cells #[.int .i64 on, .int .i64 off] 3))
      have HF2 := hid (areFlags_any _ 2 _ _ (ints_two w1 on off 3) (by simp))
      rw [show ([on, off].all Bv.fl) = (Bv.fl on && Bv.fl off) from by simp, hfl] at HF2
      have HE2 := hid (HE1.out.below HB2.out)
      have HB3 := hid (HB1.out.trans (HB2.out.mono HB1.out.size))
      have HI2 := hid (HI0.out.below HB3.out)
      go_wp2_with fail
      refine HF2.out.mono ?_
      rintro e w2 ⟨rfl, rfl⟩
      generalize w1.alloc _ = w3 at *
      clear HF2 HB2 HE1 HB1 HI1
      obtain ⟨⟨z0, s0⟩, f0, s1, f1, s2, f2⟩ := HE2.out.wr
      go_wp2
      refine ret_ent Try.results22 _ _ w.heap.size (0, 0, 0) (.int .i64 4) ?_ (HE2.out.set 0 0 0) ?_ ?_ ?_
      · rfl
      · rfl
      · rfl
      have hb := (EntAt.kept 0 0 0).below' HB3.out
      exact ⟨rfl, HI0.out.below hb, BxTo.below hb⟩
end Go.Proofs.Ytlfjhpmachblkaa
