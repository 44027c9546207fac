/-
  The laws of layer 6: the fixed fact that each begins with, and the way from a walk to a law.
-/
import Derived.Test.YtlifdngnhbcdiaaDoorWireA
namespace Go.Proofs.YtlifdngnhbcdiaaDoor
open Go.ChangeShapes Go.WideShapes Go.ChangeAt Go.RowKit
open Go.Lib (hid)

theorem InAt.keptB {w w' : World} {b o : Nat} {r : List Nat × Int} (h : InAt w b r) (hk : KeptB o w w') (hne : b ≠ o) : InAt w' b r := by
  unfold InAt; rw [hk.block b h.lt hne]; exact h
theorem InAt.new (w : World) (s : List Nat) : InAt (w.alloc (.cells #[.string (str s), .int .i64 0] 74)) w.heap.size (s, 0) := heap_alloc_new _ _

/-- A world for the witnesses: the settled one. -/
noncomputable def laidWorldW (os : Os) : World := World.holding Tryd.prog os ⟨#[], #[], []⟩
end Go.Proofs.YtlifdngnhbcdiaaDoor
