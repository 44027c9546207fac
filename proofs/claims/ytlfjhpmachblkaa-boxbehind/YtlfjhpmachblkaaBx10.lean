/-
  Layer 18: what stays good; a row of acts, opened.
-/
import Derived.Test.YtlfjhpmachblkaaBx9
import Derived.Deep.Slices
import Derived.Deep.Strs
namespace Go.Proofs.Ytlfjhpmachblkaa
open Go.ChangeShapes Go.WideShapes Go.ChangeAt Go.RowKit
open Go.Lib (hid)

namespace Bv
/-- An entry as it may be. -/
def okE (X : Int) (e : E) : Prop := 1 ≤ e.1 ∧ e.1 < X ∧ fl e.2.1 = true ∧ okc e.2.2 = true
theorem up_iff (L : List E) : Up L ↔ L.Pairwise fun a b => a.1 < b.1 := by
  rw [List.pairwise_iff_getElem]
  constructor
  · intro h i j hi hj hij
    have := h i j hij hj
    rwa [List.getD_eq_getElem?_getD, List.getElem?_eq_getElem hi, List.getD_eq_getElem?_getD, List.getElem?_eq_getElem hj] at this
  · intro h i j hij hj
    have := h i j (by omega) hj hij
    rwa [List.getD_eq_getElem?_getD, List.getElem?_eq_getElem (by omega), List.getD_eq_getElem?_getD, List.getElem?_eq_getElem hj]
theorem ent_iff (X : Int) (L : List E) : (∀ i, i < L.length → okE X (L.getD i (0, 0, 0))) ↔ ∀ e ∈ L, okE X e := by
  constructor
  · intro h e he
    obtain ⟨i, hi, rfl⟩ := List.getElem_of_mem he
    have := h i hi
    rwa [List.getD_eq_getElem?_getD, List.getElem?_eq_getElem hi] at this
  · intro h i hi
    rw [List.getD_eq_getElem?_getD, List.getElem?_eq_getElem hi]
    exact h _ (List.getElem_mem hi)
theorem Good.mem {V X : Int} {L : List E} (h : Good V X L) : ∀ e ∈ L, okE X e := (ent_iff X L).1 h.ent
theorem Good.sub {V X : Int} {L K : List E} (h : Good V X L) (hs : K.Sublist L) : Good V X K :=
  ⟨h.v, h.x, Nat.le_trans hs.length_le h.len, (up_iff K).2 (((up_iff L).1 h.up).sublist hs), (ent_iff X K).2 fun e he => h.mem e (hs.subset he)⟩
theorem Good.add {V X : Int} {L : List E} (h : Good V X L) {m f : Int} (hm : okc m = true) (hf : fl f = true) (hl : L.length < 256) (hX : X < 1099511627776) : Good V (X + 1) (L ++ [(X, f, m)]) := by
  have hx := okc_le h.x
  refine ⟨h.v, by unfold okc; simp; omega, by rw [List.length_append, List.length_singleton]; omega, (up_iff _).2 ?_, (ent_iff _ _).2 ?_⟩
  · rw [List.pairwise_append]
    refine ⟨(up_iff L).1 h.up, List.pairwise_singleton _ _, fun a ha b hb => ?_⟩
    rw [List.mem_singleton] at hb
    subst hb
    exact (h.mem a ha).2.1
  · intro e he
    rcases List.mem_append.1 he with he | he
    · obtain ⟨a, b, c, d⟩ := h.mem e he
      exact ⟨a, by omega, c, d⟩
    · rw [List.mem_singleton] at he
      subst he
      exact ⟨hx.1, by show X < X + 1; omega, hf, hm⟩
theorem Good.rem {V X : Int} {L : List E} (h : Good V X L) (u : Int) : Good V X (remL L u) := by
  unfold remL
  split
  · rw [← List.eraseIdx_eq_take_drop_succ]
    exact h.sub (List.eraseIdx_sublist _ _)
  · exact h
theorem Good.left {V X : Int} {L : List E} (h : Good V X L) : Good V X (left L) := h.sub List.filter_sublist
theorem rem_len (L : List E) (u : Int) : (remL L u).length ≤ L.length := by
  unfold remL
  split
  · rw [← List.eraseIdx_eq_take_drop_succ]
    exact (List.eraseIdx_sublist _ _).length_le
  · exact Nat.le_refl _
theorem Good.new {V : Int} (h : okc V = true) : Good V 1 [] := ⟨h, by decide, by simp, fun i j _ h => by simp at h, fun i h => by simp at h⟩
/-- An act: its kind, a UID, a mail, flags to set, flags to take away. -/
abbrev A := Int × Int × Int × Int × Int
def A.z : A := (0, 0, 0, 0, 0)
end Bv
/-- A slice's cells are these acts. -/
def ActsX (w : World) (ao : Option Addr) (L : List Bv.A) : Prop :=
  ∀ i, i < L.length → ∃ sb so, ao = some ⟨sb, so, none⟩ ∧ w.cell? ⟨sb, so + i * 5, none⟩ = some (.int .i64 (L.getD i Bv.A.z).1) ∧ w.cell? ⟨sb, so + i * 5 + 1, none⟩ = some (.int .i64 (L.getD i Bv.A.z).2.1) ∧ w.cell? ⟨sb, so + i * 5 + 2, none⟩ = some (.int .i64 (L.getD i Bv.A.z).2.2.1) ∧
    w.cell? ⟨sb, so + i * 5 + 3, none⟩ = some (.int .i64 (L.getD i Bv.A.z).2.2.2.1) ∧ w.cell? ⟨sb, so + i * 5 + 4, none⟩ = some (.int .i64 (L.getD i Bv.A.z).2.2.2.2)
theorem ActsX.below {w w' : World} {ao : Option Addr} {L : List Bv.A} (h : ActsX w ao L) (hb : Below w.heap.size w w') : ActsX w' ao L := by
  intro i hi
  obtain ⟨sb, so, ha, h0, h1, h2, h3, h4⟩ := h i hi
  exact ⟨sb, so, ha, (hb.cell (block_lt_of_cell h0)).trans h0, (hb.cell (block_lt_of_cell h1)).trans h1, (hb.cell (block_lt_of_cell h2)).trans h2, (hb.cell (block_lt_of_cell h3)).trans h3, (hb.cell (block_lt_of_cell h4)).trans h4⟩
theorem bx_struct5 {H : Type} {enc : TypeId × Value → H} {P : Program} {w : World} {base : Nat} {spare : Nat → Bool} {held : Bool} {t : TypeId} {f0 f1 f2 f3 f4 : Field} {fuel : Nat} {cs : List Value} {x : DataW H × List MemPlace} (ht : P.underlying t = some (.struct #[f0, f1, f2, f3, f4])) (h : DataW.trod enc P w base spare held fuel t cs = some x) :
    ∃ y0 y1 y2 y3 y4 n, DataW.trod enc P w base spare held n f0.type ((cs.drop f0.offset).take (P.cellsOf f0.type)) = some y0 ∧
      DataW.trod enc P w base spare held n f1.type ((cs.drop f1.offset).take (P.cellsOf f1.type)) = some y1 ∧ DataW.trod enc P w base spare held n f2.type ((cs.drop f2.offset).take (P.cellsOf f2.type)) = some y2 ∧
      DataW.trod enc P w base spare held n f3.type ((cs.drop f3.offset).take (P.cellsOf f3.type)) = some y3 ∧ DataW.trod enc P w base spare held n f4.type ((cs.drop f4.offset).take (P.cellsOf f4.type)) = some y4 := by
  obtain ⟨xs, n, _, rfl, hl, hlen, hf⟩ := DataW.trod_struct ht h
  match xs, hlen with
  | [y0, y1, y2, y3, y4], _ => exact ⟨y0, y1, y2, y3, y4, n, by simpa using hf 0 f0 rfl, by simpa using hf 1 f1 rfl, by simpa using hf 2 f2 rfl, by simpa using hf 3 f3 rfl, by simpa using hf 4 f4 rfl⟩
set_option maxRecDepth 100000 in
theorem open_acts18 {H : Type} {enc : TypeId × Value → H} {W : World} {r : Reach} {b0 : Nat} {v : Value} {d : DataW H} {p : List MemPlace}
    (hv : Value.okWide Try.prog W r b0 22 v) (h : DataW.Trod enc Try.prog W 0 (fun _ => true) true 22 v d p) :
    ∃ (ao : Option Addr) (L : List Bv.A) (cap : Nat), v = .slice ao L.length cap ∧ ActsX W ao L ∧ L.length ≤ maxLen := by
  obtain ⟨a0, len, cap, rfl⟩ := okWide_slice Try.underlying22 hv
  obtain ⟨fuel, hf⟩ := h
  rcases Deep.open_slice Try.underlying22 hf with ⟨hcs, _⟩ | ⟨a, len', cap', m, n, D, Pl, hcs, _, hl, hm, hmm, _, hx⟩
  · simp only [Value.cells, List.cons.injEq, Value.slice.injEq, and_true] at hcs
    obtain ⟨rfl, rfl, rfl⟩ := hcs
    exact ⟨none, [], 0, rfl, fun i hi => absurd hi (by simp), by simp⟩
  · simp only [Value.cells, List.cons.injEq, Value.slice.injEq, and_true] at hcs
    obtain ⟨rfl, rfl, rfl⟩ := hcs
    simp only [if_true] at hmm
    have each : ∀ i, i < m → ∃ q : Bv.A, W.cell? (a.add (i * 5)) = some (.int .i64 q.1) ∧ W.cell? (a.add (i * 5 + 1)) = some (.int .i64 q.2.1) ∧ W.cell? (a.add (i * 5 + 2)) = some (.int .i64 q.2.2.1) ∧ W.cell? (a.add (i * 5 + 3)) = some (.int .i64 q.2.2.2.1) ∧ W.cell? (a.add (i * 5 + 4)) = some (.int .i64 q.2.2.2.2) := by
      intro i hi
      obtain ⟨cs', h1, h2⟩ := hx i hi
      rw [show Try.prog.cellsOf 33 = 5 from by kernel_rfl] at h1
      obtain ⟨_, hlen, hcell⟩ := World.cells?_some h1
      obtain ⟨y0, y1, y2, y3, y4, k, g0, g1, g2, g3, g4⟩ := bx_struct5 Try.underlying33 h2
      match cs', hlen with
      | [v0, v1, v2, v3, v4], _ =>
        change DataW.trod enc Try.prog W 0 (fun _ => true) true k 3 [v0] = some y0 at g0
        change DataW.trod enc Try.prog W 0 (fun _ => true) true k 3 [v1] = some y1 at g1
        change DataW.trod enc Try.prog W 0 (fun _ => true) true k 3 [v2] = some y2 at g2
        change DataW.trod enc Try.prog W 0 (fun _ => true) true k 3 [v3] = some y3 at g3
        change DataW.trod enc Try.prog W 0 (fun _ => true) true k 3 [v4] = some y4 at g4
        obtain ⟨z0, e0, _, w0⟩ := DataW.trod_int Try.underlying3 g0
        obtain ⟨z1, e1, _, w1⟩ := DataW.trod_int Try.underlying3 g1
        obtain ⟨z2, e2, _, w2⟩ := DataW.trod_int Try.underlying3 g2
        obtain ⟨z3, e3, _, w3⟩ := DataW.trod_int Try.underlying3 g3
        obtain ⟨z4, e4, _, w4⟩ := DataW.trod_int Try.underlying3 g4
        have c0 := hcell 0 (by omega)
        have c1 := hcell 1 (by omega)
        have c2 := hcell 2 (by omega)
        have c3 := hcell 3 (by omega)
        have c4 := hcell 4 (by omega)
        rw [Deep.add_add] at c0 c1 c2 c3 c4
        simp only [List.cons.injEq, and_true] at e0 e1 e2 e3 e4
        subst e0 e1 e2 e3 e4
        exact ⟨(z0, z1, z2, z3, z4), by simpa using c0, by simpa using c1, by simpa using c2, by simpa using c3, by simpa using c4⟩
    obtain ⟨q, hq⟩ := Deep.choose_lt each
    have hget : ∀ i, i < len → ((List.range len).map q).getD i Bv.A.z = q i := by
      intro i hi
      simp [List.getD_eq_getElem?_getD, hi]
    refine ⟨some a, (List.range len).map q, cap, by simp, ?_, by simp; omega⟩
    intro i hi
    rw [List.length_map, List.length_range] at hi
    rw [hget i hi]
    obtain ⟨h0, h1, h2, h3, h4⟩ := hq i (by omega)
    have h00 := (hq 0 (by omega)).1
    obtain ⟨b, off, spot⟩ := a
    have hspot : spot = none := by simpa [Addr.add] using World.cell?_spot h00
    subst hspot
    rw [Addr.add_mid] at h0 h1 h2 h3 h4
    exact ⟨b, off, rfl, h0, by rw [Nat.add_assoc]; exact h1, by rw [Nat.add_assoc]; exact h2, by rw [Nat.add_assoc]; exact h3, by rw [Nat.add_assoc]; exact h4⟩
end Go.Proofs.Ytlfjhpmachblkaa
