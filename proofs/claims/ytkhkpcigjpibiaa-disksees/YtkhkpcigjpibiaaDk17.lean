/-
  Layer 9: a row of acts, opened.
-/
import Derived.Test.YtkhkpcigjpibiaaDk16
import Derived.Deep.Slices
import Derived.Deep.Strs
namespace Go.Proofs.Ytkhkpcigjpibiaa
open Go.ChangeShapes Go.WideShapes Go.ChangeAt Go.RowKit
open Go.Lib (hid)

/-- An act: kind, page, number, mask, text. -/
structure Dv.A where
  k : Int
  p : Int
  n : Int
  m : Int
  t : ByteArray
deriving Inhabited
def Dv.A.z : Dv.A := ⟨0, 0, 0, 0, ByteArray.empty⟩
def actC (a : Dv.A) : Array Value := #[.int .i64 a.k, .int .i64 a.p, .int .i64 a.n, .int .u64 a.m, .string a.t]
/-- A slice's cells are these acts. -/
def ActsD (w : World) (ao : Option Addr) (L : List Dv.A) : Prop :=
  ∀ i, i < L.length → ∃ sb so, ao = some ⟨sb, so, none⟩ ∧ w.rangeAt sb (so + i * 5) (actC (L.getD i Dv.A.z)).toList
theorem rangeAt_below {w w' : World} {b o : Nat} {cs : List Value} (h : w.rangeAt b o cs) (hb : Below w.heap.size w w') (h0 : 0 < cs.length) : w'.rangeAt b o cs := by
  intro j v hj
  have h1 := h j v hj
  rw [hb.cell (block_lt_of_cell h1)]
  exact h1
theorem ActsD.below {w w' : World} {ao : Option Addr} {L : List Dv.A} (h : ActsD w ao L) (hb : Below w.heap.size w w') : ActsD w' ao L := by
  intro i hi
  obtain ⟨sb, so, ha, h0⟩ := h i hi
  exact ⟨sb, so, ha, rangeAt_below h0 hb (by simp [actC])⟩
theorem trod_struct5 {H : Type} {enc : TypeId × Value → H} {P : Program} {w : World} {base : Nat} {spare : Nat → Bool} {held : Bool} {t : TypeId} {f0 f1 f2 f3 f4 : Field} {fuel : Nat} {cs : List Value} {x : DataW H × List MemPlace} (ht : P.underlying t = some (.struct #[f0, f1, f2, f3, f4])) (h : DataW.trod enc P w base spare held fuel t cs = some x) :
    ∃ y0 y1 y2 y3 y4 n, DataW.trod enc P w base spare held n f0.type ((cs.drop f0.offset).take (P.cellsOf f0.type)) = some y0 ∧
      DataW.trod enc P w base spare held n f1.type ((cs.drop f1.offset).take (P.cellsOf f1.type)) = some y1 ∧ DataW.trod enc P w base spare held n f2.type ((cs.drop f2.offset).take (P.cellsOf f2.type)) = some y2 ∧
      DataW.trod enc P w base spare held n f3.type ((cs.drop f3.offset).take (P.cellsOf f3.type)) = some y3 ∧ DataW.trod enc P w base spare held n f4.type ((cs.drop f4.offset).take (P.cellsOf f4.type)) = some y4 := by
  obtain ⟨xs, n, _, rfl, hl, hlen, hf⟩ := DataW.trod_struct ht h
  match xs, hlen with
  | [y0, y1, y2, y3, y4], _ => exact ⟨y0, y1, y2, y3, y4, n, by simpa using hf 0 f0 rfl, by simpa using hf 1 f1 rfl, by simpa using hf 2 f2 rfl, by simpa using hf 3 f3 rfl, by simpa using hf 4 f4 rfl⟩
set_option maxRecDepth 100000 in
theorem open_acts9 {H : Type} {enc : TypeId × Value → H} {W : World} {r : Reach} {b0 : Nat} {v : Value} {d : DataW H} {p : List MemPlace}
    (hv : Value.okWide Try.prog W r b0 22 v) (h : DataW.Trod enc Try.prog W 0 (fun _ => true) true 22 v d p) :
    ∃ (ao : Option Addr) (L : List Dv.A) (cap : Nat), v = .slice ao L.length cap ∧ ActsD W ao L ∧ L.length ≤ maxLen ∧ ∀ i, i < L.length → (L.getD i Dv.A.z).t.size ≤ maxLen := by
  obtain ⟨a0, len, cap, rfl⟩ := okWide_slice Try.underlying22 hv
  obtain ⟨fuel, hf⟩ := h
  rcases Deep.open_slice Try.underlying22 hf with ⟨hcs, _⟩ | ⟨a, len', cap', m, n, D, Pl, hcs, _, hl, hm, hmm, _, hx⟩
  · simp only [Value.cells, List.cons.injEq, Value.slice.injEq, and_true] at hcs
    obtain ⟨rfl, rfl, rfl⟩ := hcs
    exact ⟨none, [], 0, rfl, fun i hi => absurd hi (by simp), by simp, fun i hi => absurd hi (by simp)⟩
  · simp only [Value.cells, List.cons.injEq, Value.slice.injEq, and_true] at hcs
    obtain ⟨rfl, rfl, rfl⟩ := hcs
    simp only [if_true] at hmm
    have each : ∀ i, i < m → ∃ q : Dv.A, (∀ j v, (actC q).toList[j]? = some v → W.cell? (a.add (i * 5 + j)) = some v) ∧ q.t.size ≤ maxLen := by
      intro i hi
      obtain ⟨cs', h1, h2⟩ := hx i hi
      rw [show Try.prog.cellsOf 36 = 5 from by kernel_rfl] at h1
      obtain ⟨_, hlen, hcell⟩ := World.cells?_some h1
      obtain ⟨y0, y1, y2, y3, y4, k, g0, g1, g2, g3, g4⟩ := trod_struct5 Try.underlying36 h2
      match cs', hlen with
      | [v0, v1, v2, v3, v4], _ =>
        change DataW.trod enc Try.prog W 0 (fun _ => true) true k 3 [v0] = some y0 at g0
        change DataW.trod enc Try.prog W 0 (fun _ => true) true k 3 [v1] = some y1 at g1
        change DataW.trod enc Try.prog W 0 (fun _ => true) true k 3 [v2] = some y2 at g2
        change DataW.trod enc Try.prog W 0 (fun _ => true) true k 28 [v3] = some y3 at g3
        change DataW.trod enc Try.prog W 0 (fun _ => true) true k 9 [v4] = some y4 at g4
        obtain ⟨z0, e0, _, w0⟩ := DataW.trod_int Try.underlying3 g0
        obtain ⟨z1, e1, _, w1⟩ := DataW.trod_int Try.underlying3 g1
        obtain ⟨z2, e2, _, w2⟩ := DataW.trod_int Try.underlying3 g2
        obtain ⟨z3, e3, _, w3⟩ := DataW.trod_int Try.underlying28 g3
        obtain ⟨s4, e4, _, w4⟩ := DataW.trod_string Try.underlying9 g4
        simp only [List.cons.injEq, and_true] at e0 e1 e2 e3 e4
        subst e0 e1 e2 e3 e4
        refine ⟨⟨z0, z1, z2, z3, s4⟩, fun j v hj => ?_, by simpa using w4⟩
        have hj5 : j < 5 := (List.getElem?_eq_some_iff.1 hj).1
        have c0 := hcell j (by simpa using hj5)
        rw [Deep.add_add] at c0
        rw [c0]
        exact hj
    obtain ⟨q, hq⟩ := Deep.choose_lt each
    have hget : ∀ i, i < len → ((List.range len).map q).getD i Dv.A.z = q i := by
      intro i hi
      simp [List.getD_eq_getElem?_getD, hi]
    refine ⟨some a, (List.range len).map q, cap, by simp, ?_, by simp; omega, ?_⟩
    · intro i hi
      rw [List.length_map, List.length_range] at hi
      rw [hget i hi]
      have h00 := (hq 0 (by omega)).1 0 _ rfl
      obtain ⟨b, off, spot⟩ := a
      have hspot : spot = none := by simpa [Addr.add] using World.cell?_spot h00
      subst hspot
      refine ⟨b, off, rfl, fun j v hj => ?_⟩
      have := (hq i (by omega)).1 j v hj
      rw [Addr.add_mid] at this
      rw [Nat.add_assoc]
      exact this
    · intro i hi
      rw [List.length_map, List.length_range] at hi
      rw [hget i hi]
      exact (hq i (by omega)).2
end Go.Proofs.Ytkhkpcigjpibiaa
