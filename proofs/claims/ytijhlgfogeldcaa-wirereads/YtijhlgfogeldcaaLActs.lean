/-
  Layer 6: a row of acts, opened; numbers, opened with their bounds.
-/
import Derived.Test.YtijhlgfogeldcaaLWire
import Derived.Deep.Slices
import Derived.Deep.Strs
namespace Go.Proofs.Ytijhlgfogeldcaa
open Go.ChangeShapes Go.WideShapes Go.ChangeAt Go.RowKit
open Go.Lib (hid)

/-- A slice's cells are these acts. -/
def ActsB (w : World) (ao : Option Addr) (L : List (Int × Int × ByteArray)) : Prop :=
  ∀ i, i < L.length → ∃ sb so, ao = some ⟨sb, so, none⟩ ∧ w.cell? ⟨sb, so + i * 3, none⟩ = some (.int .i64 (L.getD i (0, 0, ByteArray.empty)).1) ∧ w.cell? ⟨sb, so + i * 3 + 1, none⟩ = some (.int .i64 (L.getD i (0, 0, ByteArray.empty)).2.1) ∧ w.cell? ⟨sb, so + i * 3 + 2, none⟩ = some (.string (L.getD i (0, 0, ByteArray.empty)).2.2)
theorem ActsB.below {w w' : World} {ao : Option Addr} {L : List (Int × Int × ByteArray)} (h : ActsB w ao L) (hb : Below w.heap.size w w') : ActsB w' ao L := by
  intro i hi
  obtain ⟨sb, so, ha, h0, h1, h2⟩ := h i hi
  exact ⟨sb, so, ha, by rw [hb.cell (block_lt_of_cell h0)]; exact h0, by rw [hb.cell (block_lt_of_cell h1)]; exact h1, by rw [hb.cell (block_lt_of_cell h2)]; exact h2⟩
theorem open_acts {H : Type} {enc : TypeId × Value → H} {W : World} {r : Reach} {b0 : Nat} {v : Value} {d : DataW H} {p : List MemPlace}
    (hv : Value.okWide Try.prog W r b0 22 v) (h : DataW.Trod enc Try.prog W 0 (fun _ => true) true 22 v d p) :
    ∃ (ao : Option Addr) (L : List (Int × Int × ByteArray)) (cap : Nat), v = .slice ao L.length cap ∧ ActsB W ao L ∧ L.length ≤ maxLen ∧ ∀ i, i < L.length → (L.getD i (0, 0, ByteArray.empty)).2.1 ≤ 9223372036854775807 ∧ (L.getD i (0, 0, ByteArray.empty)).2.2.size ≤ maxLen := by
  obtain ⟨a0, len, cap, rfl⟩ := okWide_slice Try.underlying22 hv
  obtain ⟨fuel, hf⟩ := h
  rcases Deep.open_slice Try.underlying22 hf with ⟨hcs, _⟩ | ⟨a, len', cap', m, n, D, Pl, hcs, _, hl, hm, hmm, _, hx⟩
  · simp only [Value.cells, List.cons.injEq, Value.slice.injEq, and_true] at hcs
    obtain ⟨rfl, rfl, rfl⟩ := hcs
    exact ⟨none, [], 0, rfl, fun i hi => absurd hi (by simp), by simp, fun i hi => absurd hi (by simp)⟩
  · simp only [Value.cells, List.cons.injEq, Value.slice.injEq, and_true] at hcs
    obtain ⟨rfl, rfl, rfl⟩ := hcs
    simp only [if_true] at hmm
    have each : ∀ i, i < m → ∃ q : Int × Int × ByteArray, W.cell? (a.add (i * 3)) = some (.int .i64 q.1) ∧ W.cell? (a.add (i * 3 + 1)) = some (.int .i64 q.2.1) ∧ W.cell? (a.add (i * 3 + 2)) = some (.string q.2.2) ∧ q.2.1 ≤ 9223372036854775807 ∧ q.2.2.size ≤ maxLen := by
      intro i hi
      obtain ⟨cs', h1, h2⟩ := hx i hi
      rw [show Try.prog.cellsOf 28 = 3 from by kernel_rfl] at h1
      obtain ⟨_, hlen, hcell⟩ := World.cells?_some h1
      obtain ⟨y0, y1, y2, k, _, _, g0, g1, g2⟩ := Deep.trod_struct3 Try.underlying28 h2
      match cs', hlen with
      | [v0, v1, v2], _ =>
        change DataW.trod enc Try.prog W 0 (fun _ => true) true k 3 [v0] = some y0 at g0
        change DataW.trod enc Try.prog W 0 (fun _ => true) true k 3 [v1] = some y1 at g1
        change DataW.trod enc Try.prog W 0 (fun _ => true) true k 9 [v2] = some y2 at g2
        obtain ⟨z0, e0, _, w0⟩ := DataW.trod_int Try.underlying3 g0
        obtain ⟨z1, e1, _, w1⟩ := DataW.trod_int Try.underlying3 g1
        obtain ⟨s2, e2, _, w2⟩ := DataW.trod_string Try.underlying9 g2
        have c0 := hcell 0 (by omega)
        have c1 := hcell 1 (by omega)
        have c2 := hcell 2 (by omega)
        rw [Deep.add_add] at c0 c1 c2
        simp only [List.cons.injEq, and_true] at e0 e1 e2
        subst e0 e1 e2
        have := bounds_i64 w1
        exact ⟨(z0, z1, s2), by simpa using c0, by simpa using c1, by simpa using c2, by simp only; omega, by simpa using w2⟩
    obtain ⟨q, hq⟩ := Deep.choose_lt each
    have hget : ∀ i, i < len → ((List.range len).map q).getD i (0, 0, ByteArray.empty) = q i := by
      intro i hi
      simp [List.getD_eq_getElem?_getD, hi]
    refine ⟨some a, (List.range len).map q, cap, by simp, ?_, by simp; omega, ?_⟩
    · intro i hi
      rw [List.length_map, List.length_range] at hi
      rw [hget i hi]
      obtain ⟨h0, h1, h2, _⟩ := hq i (by omega)
      have h00 := (hq 0 (by omega)).1
      obtain ⟨b, off, spot⟩ := a
      have hspot : spot = none := by simpa [Addr.add] using World.cell?_spot h00
      subst hspot
      rw [Addr.add_mid] at h0 h1 h2
      exact ⟨b, off, rfl, h0, by rw [Nat.add_assoc]; exact h1, by rw [Nat.add_assoc]; exact h2⟩
    · intro i hi
      rw [List.length_map, List.length_range] at hi
      rw [hget i hi]
      exact (hq i (by omega)).2.2.2
theorem open_is2 {H : Type} {enc : TypeId × Value → H} {W : World} {r : Reach} {b0 : Nat} {v : Value} {d : DataW H} {p : List MemPlace}
    (hv : Value.okWide Try.prog W r b0 53 v) (h : DataW.Trod enc Try.prog W 0 (fun _ => true) true 53 v d p) :
    ∃ (ao : Option Addr) (L : List Int) (cap : Nat), v = .slice ao L.length cap ∧ IntsB W ao L ∧ L.length ≤ cap ∧ cap ≤ maxLen ∧ ∀ n ∈ L, n ≤ 9223372036854775807 := by
  obtain ⟨a0, len, cap, rfl⟩ := okWide_slice Try.underlying53 hv
  obtain ⟨fuel, hf⟩ := h
  rcases open_ints Try.underlying53 Try.underlying3 (by kernel_rfl) hf with ⟨hcs, _⟩ | ⟨a, len', cap', ss, hcs, _, hl, hm, hz, _, hcell, hw⟩
  · simp only [Value.cells, List.cons.injEq, Value.slice.injEq, and_true] at hcs
    obtain ⟨rfl, rfl, rfl⟩ := hcs
    exact ⟨none, [], 0, rfl, fun i hi => absurd hi (by simp), by simp, by simp, by simp⟩
  · simp only [Value.cells, List.cons.injEq, Value.slice.injEq, and_true] at hcs
    obtain ⟨rfl, rfl, rfl⟩ := hcs
    simp only [if_true] at hz
    have htl : (ss.take len).length = len := by simp; omega
    refine ⟨some a, ss.take len, cap, by rw [htl], ?_, by omega, by omega, fun n hn => (bounds_i64 (hw n (List.mem_of_mem_take hn))).2⟩
    intro i hi
    rw [htl] at hi
    have h1 := hcell i (by omega)
    have h00 := hcell 0 (by omega)
    obtain ⟨b, off, spot⟩ := a
    have hspot : spot = none := by simpa [Addr.add] using World.cell?_spot h00
    subst hspot
    refine ⟨b, off, rfl, ?_⟩
    rw [Addr.add_mid] at h1
    rw [h1]
    simp [hi]
end Go.Proofs.Ytijhlgfogeldcaa
