/-
  Layer 7: the law's fixed fact; a slice of one text, of three.
-/
import Derived.Test.YtnhecallffkedabDoorBase
import Derived.Test.YtnhecallffkedabDoorTreeM
namespace Go.Proofs.YtnhecallffkedabDoor
open Go.RowKit
open Go.Lib (hid)

theorem of_three (x y z : List Nat) (hx : ∀ u ∈ x, u < 256) (hy : ∀ u ∈ y, u < 256) (hz : ∀ u ∈ z, u < 256) (hl : x.length + y.length + z.length ≤ 100000000000) (w : World) (hT : Tabs w) (t : TypeId) :
    Calls Tryd.prog 7 #[.slice (some ⟨w.heap.size, 0, none⟩) 3 3] (w.alloc (.cells #[.string (str x), .string (str y), .string (str z)] t)) fun e w' => e = .returned (.agg (ints .u8 (Sx.digest (x ++ (y ++ z))))) ∧ Below w.heap.size w w' := by
  have h := of_any [x, y, z] (some ⟨w.heap.size, 0, none⟩) 3 (by
    simp only [List.flatten_cons, List.flatten_nil, List.append_nil, List.mem_append]
    rintro u (hu | hu | hu)
    · exact hx u hu
    · exact hy u hu
    · exact hz u hu) (w.alloc (.cells #[.string (str x), .string (str y), .string (str z)] t)) (hT.below ((Below.refl _ _).alloc (Nat.le_refl _) _) (Nat.le_refl _)) (strs_three w x y z t) (by simp; omega) (by simp)
  simp only [List.flatten_cons, List.flatten_nil, List.append_nil] at h
  exact h.mono fun e w' ⟨he, hb⟩ => ⟨he, ((Below.refl _ _).alloc (Nat.le_refl _) _).trans (hb.mono (by simp))⟩
theorem root_one (d : Int) (x : List Nat) (hx : ∀ y ∈ x, y < 256) (hl : x.length ≤ 1000000) (w : World) (hT : Tabs w) (t : TypeId) :
    Calls Tryd.prog 6 #[.int .i64 d, .slice (some ⟨w.heap.size, 0, none⟩) 1 1] (w.alloc (.cells #[.string (str x)] t)) fun e w' => e = .returned (.agg (ints .u8 (Tx.root (Tx.limit d) [x]))) ∧ Below w.heap.size w w' := by
  have h := root_any d (some ⟨w.heap.size, 0, none⟩) [x] 1 (by simp) (by simp) (by simp) (by simpa using hx) (by simpa using hl) (w.alloc (.cells #[.string (str x)] t)) (hT.below ((Below.refl _ _).alloc (Nat.le_refl _) _) (Nat.le_refl _)) (strs_one w x t)
  exact h.mono fun e w' ⟨he, hb⟩ => ⟨he, ((Below.refl _ _).alloc (Nat.le_refl _) _).trans (hb.mono (by simp))⟩
theorem Tx.root0 (x : List Nat) : Tx.root (Tx.limit 0) [x] = Sx.digest (Tx.leaf x) := rfl
theorem Tx.root1 (x : List Nat) : Tx.root (Tx.limit 1) [x] = Sx.digest ([78] ++ (Sx.digest (Tx.leaf x) ++ Sx.digest (Tx.leaf []))) := by
  show Tx.sumAt 1 [x] 1 0 = _
  rw [Tx.sumAt_succ, Tx.sumAt_leaf 1 [x] _ (by decide), Tx.sumAt_leaf 1 [x] _ (by decide)]
  rfl

end Go.Proofs.YtnhecallffkedabDoor
