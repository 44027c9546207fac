/-
  For every depth and every list of texts: a tree of one depth more has the old root, and that of a tree without texts, below its own (law TreeGrows); without conditions.
-/
import Derived.Test.YtnhecallffkedabDoorBase
import Derived.Test.YtnhecallffkedabDoorLTree
namespace Go.Proofs.YtnhecallffkedabDoor
open Go.ChangeShapes Go.WideShapes Go.ChangeAt Go.RowKit
open Go.Lib (hid)

theorem few_each (L : List ByteArray) (n most : Nat) : ∀ l ∈ few L n most, l.length ≤ most := by
  intro l hl
  simp only [few, List.mem_map] at hl
  obtain ⟨s, _, rfl⟩ := hl
  simp; omega
theorem limit_of (d : Nat) (h : d ≤ 16) : Tx.limit (d : Int) = d := by unfold Tx.limit; omega
theorem OwnS.capd {w : World} {base : Nat} {v : Value} {L : List (List Nat)} (h : OwnS w base v L) : ∃ ao cap, v = .slice ao L.length cap ∧ Strs w ao L ∧ L.length ≤ cap ∧ (ao = none → cap = 0) := by
  obtain ⟨ao, cap, hv, hs⟩ := h.strs
  obtain ⟨h1, ⟨hv', h0⟩ | ⟨g, cap', cur, hv', hg, hh, hn, _⟩⟩ := h
  · rw [hv'] at hv
    injection hv with e1 e2 e3
    exact ⟨ao, cap, by rw [hv', ← e1, ← e2, ← e3], hs, by omega, fun _ => e3.symm⟩
  · rw [hv'] at hv
    injection hv with e1 e2 e3
    exact ⟨ao, cap, by rw [hv', e1, e3], hs, by omega, fun hn' => by rw [hn'] at e1; cases e1⟩
/-- While the three roots are compared. -/
structure Gs (w : World) (q : Nat) (DA DB : List Nat) (ao : Option Addr) (F : List (List Nat)) (u : World) : Prop where
  ra : Row u q .u8 27 DA
  rb : Row u (q + 1) .u8 27 DB
  strs : Strs u ao F
  tab : Tabs u
  bel : Below w.heap.size w u
theorem Gs.keep {w : World} {q : Nat} {DA DB : List Nat} {ao : Option Addr} {F : List (List Nat)} {u u' : World} (h : Gs w q DA DB ao F u) (hb : Below u.heap.size u u') : Gs w q DA DB ao F u' :=
  ⟨h.ra.below hb h.ra.lt, h.rb.below hb h.rb.lt, h.strs.below hb, h.tab.below hb (Nat.le_refl _), h.bel.trans (hb.mono h.bel.size)⟩

namespace TreeGrows
end TreeGrows
end Go.Proofs.YtnhecallffkedabDoor
