/-
  Layer 6: a row of acts, opened; numbers, opened with their bounds.
-/
import Derived.Test.YtlifdngnhbcdiaaDoorLWire
import Derived.Deep.Slices
import Derived.Deep.Strs
namespace Go.Proofs.YtlifdngnhbcdiaaDoor
open Go.ChangeShapes Go.WideShapes Go.ChangeAt Go.RowKit
open Go.Lib (hid)

/-- A slice's cells are these acts. -/
def ActsB (w : World) (ao : Option Addr) (L : List (Int × Int × ByteArray)) : Prop :=
  ∀ i, i < L.length → ∃ sb so, ao = some ⟨sb, so, none⟩ ∧ w.cell? ⟨sb, so + i * 3, none⟩ = some (.int .i64 (L.getD i (0, 0, ByteArray.empty)).1) ∧ w.cell? ⟨sb, so + i * 3 + 1, none⟩ = some (.int .i64 (L.getD i (0, 0, ByteArray.empty)).2.1) ∧ w.cell? ⟨sb, so + i * 3 + 2, none⟩ = some (.string (L.getD i (0, 0, ByteArray.empty)).2.2)
theorem ActsB.below {w w' : World} {ao : Option Addr} {L : List (Int × Int × ByteArray)} (h : ActsB w ao L) (hb : Below w.heap.size w w') : ActsB w' ao L := by
  intro i hi
  obtain ⟨sb, so, ha, h0, h1, h2⟩ := h i hi
  exact ⟨sb, so, ha, by rw [hb.cell (block_lt_of_cell h0)]; exact h0, by rw [hb.cell (block_lt_of_cell h1)]; exact h1, by rw [hb.cell (block_lt_of_cell h2)]; exact h2⟩
set_option maxRecDepth 100000 in
theorem open_is2 {H : Type} {enc : TypeId × Value → H} {W : World} {r : Reach} {b0 : Nat} {v : Value} {d : DataW H} {p : List MemPlace}
    (hv : Value.okWide Tryd.prog W r b0 22 v) (h : DataW.Trod enc Tryd.prog W 0 (fun _ => true) true 22 v d p) :
    ∃ (ao : Option Addr) (L : List Int) (cap : Nat), v = .slice ao L.length cap ∧ IntsB W ao L ∧ L.length ≤ cap ∧ cap ≤ maxLen ∧ ∀ n ∈ L, n ≤ 9223372036854775807 := by
  obtain ⟨a0, len, cap, rfl⟩ := okWide_slice Tryd.underlying22 hv
  obtain ⟨fuel, hf⟩ := h
  rcases open_ints Tryd.underlying22 Tryd.underlying3 (by kernel_rfl) hf with ⟨hcs, _⟩ | ⟨a, len', cap', ss, hcs, _, hl, hm, hz, _, hcell, hw⟩
  · simp only [Value.cells, List.cons.injEq, Value.slice.injEq, and_true] at hcs
    obtain ⟨rfl, rfl, rfl⟩ := hcs
    exact ⟨none, [], 0, rfl, fun i hi => absurd hi (by simp), by simp, by simp, by simp⟩
  · simp only [Value.cells, List.cons.injEq, Value.slice.injEq, and_true] at hcs
    obtain ⟨rfl, rfl, rfl⟩ := hcs
    simp only [if_true] at hz
    have htl : (ss.take len).length = len := by simp; omega
    refine ⟨some a, ss.take len, cap, by rw [htl], ?_, by omega, by omega, fun n hn => (bounds_i64 (hw n (List.mem_of_mem_take hn))).2⟩
    intro i hi
    rw [htl] at hi
    have h1 := hcell i (by omega)
    have h00 := hcell 0 (by omega)
    obtain ⟨b, off, spot⟩ := a
    have hspot : spot = none := by simpa [Addr.add] using World.cell?_spot h00
    subst hspot
    refine ⟨b, off, rfl, ?_⟩
    rw [Addr.add_mid] at h1
    rw [h1]
    simp [hi]
end Go.Proofs.YtlifdngnhbcdiaaDoor
