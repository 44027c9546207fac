/-
  Layer 9: what a disk is in memory; settle, has, refuses.
-/
import Derived.Test.YtkhkpcigjpibiaaBase
import Derived.Test.YtkhkpcigjpibiaaRg2
import Derived.Test.YtkhkpcigjpibiaaComm
import Derived.Lib.MinMax
namespace Go.Proofs.Ytkhkpcigjpibiaa
open Go.ChangeShapes Go.WideShapes Go.ChangeAt Go.RowKit
open Go.Conc
open Go.Lib (hid)

/-- The world but for some blocks, and for new ones. -/
structure KeptQ (p : Nat → Prop) (w w' : World) : Prop where
  os : w'.os = w.os
  tape : w'.tape = w.tape
  output : w'.output = w.output
  size : w.heap.size ≤ w'.heap.size
  block : ∀ k, k < w.heap.size → ¬ p k → w'.heap[k]? = w.heap[k]?
theorem KeptQ.refl (p : Nat → Prop) (w : World) : KeptQ p w w := ⟨rfl, rfl, rfl, Nat.le_refl _, fun _ _ _ => rfl⟩
theorem KeptQ.trans {p : Nat → Prop} {u v w : World} (h : KeptQ p u v) (k : KeptQ p v w) : KeptQ p u w :=
  ⟨k.os.trans h.os, k.tape.trans h.tape, k.output.trans h.output, Nat.le_trans h.size k.size, fun i hi hb => (k.block i (Nat.lt_of_lt_of_le hi h.size) hb).trans (h.block i hi hb)⟩
theorem KeptQ.mono {p q : Nat → Prop} {u v : World} (h : KeptQ p u v) (hpq : ∀ k, p k → q k) : KeptQ q u v := ⟨h.os, h.tape, h.output, h.size, fun i hi hb => h.block i hi (fun hp => hb (hpq i hp))⟩
theorem KeptQ.of_below {p : Nat → Prop} {w w' : World} (h : Below w.heap.size w w') : KeptQ p w w' := ⟨h.os, h.tape, h.output, h.size, fun k hk _ => h.block k hk⟩
theorem KeptQ.alloc {p : Nat → Prop} (w : World) (o : Obj) : KeptQ p w (w.alloc o) := KeptQ.of_below ((Below.refl _ _).alloc (Nat.le_refl _) _)
theorem KeptQ.drewN {p : Nat → Prop} (w : World) (m : Nat) : KeptQ p w (w.drewN m) := ⟨rfl, rfl, rfl, Nat.le_refl _, fun _ _ _ => rfl⟩
theorem KeptQ.setCell {p : Nat → Prop} (w : World) (a : Addr) (v : Value) (hp : p a.block) : KeptQ p w (w.setCell a v) :=
  ⟨rfl, rfl, rfl, by simp [World.setCell], fun k _ hk => Below.heap_setCell w a v k (fun e => hk (e ▸ hp))⟩
theorem KeptQ.setChan {p : Nat → Prop} (w : World) (c cap : Nat) (buf : Array Value) (cl : Bool) (s r : Nat) (tm : Bool) (hp : p c) : KeptQ p w (w.setChan c cap buf cl s r tm) :=
  ⟨rfl, rfl, rfl, by simp [World.setChan], fun k _ hk => by simp only [World.setChan]; rw [Array.getElem?_setIfInBounds_ne (fun e => hk (by rw [← e]; exact hp))]⟩
theorem KeptQ.below {p : Nat → Prop} {w w' : World} {B : Nat} (h : KeptQ p w w') (hp : ∀ k, p k → B ≤ k) (hB : B ≤ w.heap.size) : Below B w w' :=
  ⟨h.os, h.tape, h.output, h.size, fun k hk => h.block k (by omega) (fun hq => by have := hp k hq; omega)⟩

namespace Dv
/-- A step: its kind, a page, a text. -/
abbrev O := Nat × Nat × ByteArray
/-- A disk. -/
structure D where
  P : List ByteArray
  pc : Nat
  Q : List O
  cap : Nat
  crashed : Bool
  left : Int
  mask : Nat
  steps : Nat
  view : List O
  saved : Value
end Dv
def opC (o : Dv.O) : Array Value := #[.int .i64 (o.1 : Int), .int .i64 (o.2.1 : Int), .string o.2.2]
def opV (o : Dv.O) : Value := .agg (opC o)
def opsC (l : List Dv.O) : List Value := (l.map fun o => (opC o).toList).flatten
theorem opsC_length (l : List Dv.O) : (opsC l).length = l.length * 3 := by
  induction l with
  | nil => rfl
  | cons a l ih => simp only [opsC, List.map_cons, List.flatten_cons, List.length_append, List.length_cons] at ih ⊢; rw [ih]; simp [opC]; omega
def dkC (gs c : Nat) (vv : Value) (D : Dv.D) : Array Value := #[.slice (some ⟨gs, 0, none⟩) D.P.length D.pc, .chan (some c), .bool D.crashed, .int .i64 D.left, .int .u64 (D.mask : Int), .int .i64 (D.steps : Int), vv, D.saved]
/-- A block of texts, maybe with cells behind them. -/
def TRow (w : World) (g : Nat) (L : List ByteArray) : Prop := ∃ ex, w.heap[g]? = some (.cells (L.map Value.string ++ ex).toArray 9 (0, 0))
theorem TRow.cell {w : World} {g : Nat} {L : List ByteArray} (h : TRow w g L) (i : Nat) (hi : i < L.length) : w.cell? ⟨g, i, none⟩ = some (.string (L.getD i ByteArray.empty)) := by
  obtain ⟨ex, h⟩ := h
  rw [cell_of_row w g i _ _ _ h, List.getElem?_toArray, List.getElem?_append_left (by simpa using hi), List.getElem?_map, List.getElem?_eq_getElem hi, List.getD_eq_getElem?_getD, List.getElem?_eq_getElem hi]
  rfl
theorem TRow.free {w : World} {g : Nat} {L : List ByteArray} (h : TRow w g L) (i : Nat) : w.frozen? ⟨g, i, none⟩ = false := by
  obtain ⟨ex, h⟩ := h
  exact frozen_of_row w g i _ _ h
theorem TRow.lt {w : World} {g : Nat} {L : List ByteArray} (h : TRow w g L) : g < w.heap.size := by
  obtain ⟨ex, h⟩ := h
  exact (Array.getElem?_eq_some_iff.1 h).1
theorem TRow.at {w w' : World} {g : Nat} {L : List ByteArray} (h : TRow w g L) (hk : w'.heap[g]? = w.heap[g]?) : TRow w' g L := by
  obtain ⟨ex, h⟩ := h
  exact ⟨ex, hk.trans h⟩
theorem TRow.set {w : World} {g : Nat} {L : List ByteArray} (h : TRow w g L) (i : Nat) (hi : i < L.length) (s : ByteArray) : TRow (w.setCell ⟨g, i, none⟩ (.string s)) g (L.set i s) := by
  obtain ⟨ex, h⟩ := h
  refine ⟨ex, ?_⟩
  rw [heap_setCell_same w g i _ _ _ h]
  congr 2
  apply Array.toList_inj.1
  simp only [Array.toList_setIfInBounds]
  rw [List.set_append_left _ _ (by simpa using hi), List.map_set]
/-- Block d is a disk: its pages are block gs, its channel is block c, vv is the slice of its view. -/
structure IsD (w : World) (d gs c : Nat) (vv : Value) (D : Dv.D) : Prop where
  row : w.heap[d]? = some (.cells (dkC gs c vv D) 65 (0, 0))
  st : TRow w gs D.P
  ch : ∃ s r, w.heap[c]? = some (.chan D.cap (D.Q.map opV).toArray false s r false)
  vw : w.ownsRow 0 78 3 vv D.view.length (opsC D.view)
  room : D.Q.length ≤ D.cap
  capb : D.cap ≤ 256
  pages : D.P.length ≤ 4096
  okQ : ∀ o ∈ D.Q, o.2.1 < D.P.length
/-- The disk's own blocks. -/
def dkB (d gs c : Nat) (vv : Value) (k : Nat) : Prop := k = d ∨ k = gs ∨ k = c ∨ some k = vv.ownBlock
theorem dkC_cells {w : World} {d gs c : Nat} {vv : Value} {D : Dv.D} {t : TypeId} {fr : Nat × Nat} (h : w.heap[d]? = some (.cells (dkC gs c vv D) t fr)) :
    w.cell? ⟨d, 0, none⟩ = some (.slice (some ⟨gs, 0, none⟩) D.P.length D.pc) ∧ w.cell? ⟨d, 1, none⟩ = some (.chan (some c)) ∧ w.cell? ⟨d, 2, none⟩ = some (.bool D.crashed) ∧ w.cell? ⟨d, 3, none⟩ = some (.int .i64 D.left) ∧ w.cell? ⟨d, 4, none⟩ = some (.int .u64 (D.mask : Int)) ∧ w.cell? ⟨d, 5, none⟩ = some (.int .i64 (D.steps : Int)) ∧ w.cell? ⟨d, 6, none⟩ = some vv ∧ w.cell? ⟨d, 7, none⟩ = some D.saved := by
  refine ⟨?_, ?_, ?_, ?_, ?_, ?_, ?_, ?_⟩ <;> (rw [cell_of_row _ _ _ _ _ _ h]; rfl)
section
variable {w : World} {d gs c : Nat} {vv : Value} {D : Dv.D}
theorem IsD.ltd (h : IsD w d gs c vv D) : d < w.heap.size := (Array.getElem?_eq_some_iff.1 h.row).1
theorem IsD.ltc (h : IsD w d gs c vv D) : c < w.heap.size := by obtain ⟨_, _, h⟩ := h.ch; exact (Array.getElem?_eq_some_iff.1 h).1
/-- The view's block. -/
theorem IsD.vblock (h : IsD w d gs c vv D) {k : Nat} (hk : some k = vv.ownBlock) : ∃ cs, w.heap[k]? = some (.cells cs 78 (0, 0)) := by
  obtain ⟨_, ⟨rfl, _⟩ | ⟨g, cap, cur, rfl, _, hh, _⟩⟩ := h.vw
  · cases hk
  · simp only [Value.ownBlock, Option.some.injEq] at hk
    subst hk
    exact ⟨cur, hh⟩
theorem IsD.ne (h : IsD w d gs c vv D) : d ≠ gs ∧ d ≠ c ∧ gs ≠ c ∧ some d ≠ vv.ownBlock ∧ some gs ≠ vv.ownBlock ∧ some c ≠ vv.ownBlock := by
  obtain ⟨s, r, hc⟩ := h.ch
  obtain ⟨ex, hg⟩ := h.st
  refine ⟨?_, ?_, ?_, ?_, ?_, ?_⟩
  · rintro rfl; have := h.row; rw [hg] at this; injection this with e; injection e with _ e _; exact absurd e (by decide)
  · rintro rfl; have := h.row; rw [hc] at this; cases this
  · rintro rfl; rw [hc] at hg; cases hg
  · intro e; obtain ⟨cs, hv⟩ := h.vblock e; have := h.row; rw [hv] at this; injection this with e; injection e with _ e _; exact absurd e (by decide)
  · intro e; obtain ⟨cs, hv⟩ := h.vblock e; rw [hg] at hv; injection hv with e; injection e with _ e _; exact absurd e (by decide)
  · intro e; obtain ⟨cs, hv⟩ := h.vblock e; rw [hc] at hv; cases hv
theorem IsD.kept {w' : World} {p : Nat → Prop} (h : IsD w d gs c vv D) (hk : KeptQ p w w') (hp : ∀ k, dkB d gs c vv k → ¬ p k) : IsD w' d gs c vv D := by
  obtain ⟨s, r, hc⟩ := h.ch
  refine ⟨(hk.block d h.ltd (hp _ (Or.inl rfl))).trans h.row, h.st.at (hk.block gs h.st.lt (hp _ (Or.inr (Or.inl rfl)))), ⟨s, r, (hk.block c h.ltc (hp _ (Or.inr (Or.inr (Or.inl rfl))))).trans hc⟩, ?_, h.room, h.capb, h.pages, h.okQ⟩
  obtain ⟨h1, h2 | ⟨g, cap, cur, hv, hg, hh, rest⟩⟩ := h.vw
  · exact ⟨h1, Or.inl h2⟩
  · exact ⟨h1, Or.inr ⟨g, cap, cur, hv, hg, (hk.block g (Array.getElem?_eq_some_iff.1 hh).1 (hp _ (Or.inr (Or.inr (Or.inr (by rw [hv]; rfl)))))).trans hh, rest⟩⟩
theorem IsD.below {w' : World} (h : IsD w d gs c vv D) (hk : Below w.heap.size w w') : IsD w' d gs c vv D :=
  h.kept (p := fun _ => False) (KeptQ.of_below hk) (fun _ _ => id)
/-- Of its view nothing but its block counts. -/
theorem ownsRow_at {w' : World} {e : TypeId} {size n : Nat} {v : Value} {xs : List Value} (h : w.ownsRow 0 e size v n xs) (hk : ∀ g, some g = v.ownBlock → w'.heap[g]? = w.heap[g]?) : w'.ownsRow 0 e size v n xs := by
  obtain ⟨h1, h2 | ⟨g, cap, cur, hv, hg, hh, rest⟩⟩ := h
  · exact ⟨h1, Or.inl h2⟩
  · exact ⟨h1, Or.inr ⟨g, cap, cur, hv, hg, (hk g (by rw [hv]; rfl)).trans hh, rest⟩⟩
end

set_option maxHeartbeats 1000000 in
set_option maxRecDepth 100000 in
theorem settle_any (d gs c : Nat) (vv : Value) (D : Dv.D) (o : Dv.O) (ho : o.2.1 < D.P.length) (w : World) (h : IsD w d gs c vv D) :
    Calls Try.prog 51 #[.pointer (some ⟨d, 0, none⟩), opV o] w fun e w' => e = .returned (.tuple #[]) ∧ IsD w' d gs c vv { D with P := D.P.set o.2.1 o.2.2 } ∧ KeptQ (fun k => k = gs) w w' := by
  have HH := hid h
  have hne := hid h.ne
  clear h
  unfold opV opC
  go_enter Try.func51, Try.ntmps51
  go_upto_region 1 with (fail)
  have hk0 : KeptQ (fun k => k = gs) w (w.alloc (.cells #[.int .i64 (o.1 : Int), .int .i64 (o.2.1 : Int), .string o.2.2] 78)) := KeptQ.alloc _ _
  have HA0 := hid (heap_alloc_new w (.cells #[.int .i64 (o.1 : Int), .int .i64 (o.2.1 : Int), .string o.2.2] 78))
  have H0 := hid (HH.out.below ((Below.refl _ w).alloc (Nat.le_refl _) (.cells #[.int .i64 (o.1 : Int), .int .i64 (o.2.1 : Int), .string o.2.2] 78)))
  have hwg : w.heap.size ≠ gs := by have := HH.out.st.lt; omega
  generalize w.alloc _ = w0 at *
  have HK0 := hid hk0
  clear hk0
  obtain ⟨c0, _, _, _, _, _, _, _⟩ := dkC_cells H0.out.row
  have e1 : w0.cell? ⟨w.heap.size, 1, none⟩ = some (.int .i64 (o.2.1 : Int)) := by rw [cell_of_row _ _ _ _ _ _ HA0.out]; rfl
  have e2 : w0.cell? ⟨w.heap.size, 2, none⟩ = some (.string o.2.2) := by rw [cell_of_row _ _ _ _ _ _ HA0.out]; rfl
  have hg := H0.out.st.cell o.2.1 ho
  have hf := H0.out.st.free o.2.1
  have hlt : (o.2.1 : Int) < (D.P.length : Int) := by omega
  refine wp_region_noPanic ?_
  refine wp_region_hd1 9 1 rfl (by kernel_rfl) (by kernel_rfl) (fun _ _ _ _ _ h => h) ?_
  simp only [List.take_succ_cons, List.take_zero, List.drop_succ_cons, List.drop_zero]
  repeat (go_big_quiet_step (fail))
  refine wpQuiet_nil ?_
  intro m
  go_wp2
  refine NoPanic.normal ?_
  go_wp2
  refine bodyPost_end (results_none rfl _ _ _) rfl ?_
  have hk1 : KeptQ (fun k => k = gs) w0 ((w0.drewN m).setCell ⟨gs, o.2.1, none⟩ (.string o.2.2)) := (KeptQ.drewN w0 m).trans (KeptQ.setCell _ _ _ rfl)
  have hot := fun k (hk : k < w0.heap.size) (hg : k ≠ gs) => hk1.block k hk hg
  obtain ⟨n1, n2, n3, n4, n5, n6⟩ := hne.out
  obtain ⟨s, r, hc⟩ := H0.out.ch
  refine ⟨rfl, ⟨?_, ?_, ⟨s, r, (hot c H0.out.ltc (Ne.symm n3)).trans hc⟩, ownsRow_at H0.out.vw (fun g hg => ?_), H0.out.room, H0.out.capb, by rw [List.length_set]; exact H0.out.pages, fun o' ho' => by rw [List.length_set]; exact H0.out.okQ o' ho'⟩, HK0.out.trans hk1⟩
  · rw [hot d H0.out.ltd n1, H0.out.row]
    simp only [dkC, List.length_set]
  · have : TRow (w0.drewN m) gs D.P := H0.out.st.at rfl
    exact this.set o.2.1 ho o.2.2
  · obtain ⟨cs, hv⟩ := H0.out.vblock hg
    exact hot g (Array.getElem?_eq_some_iff.1 hv).1 (fun e => n5 (by rw [← e]; exact hg))
end Go.Proofs.Ytkhkpcigjpibiaa
