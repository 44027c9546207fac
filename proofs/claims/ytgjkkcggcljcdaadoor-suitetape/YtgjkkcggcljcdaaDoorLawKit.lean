/-
  From a walk to a law's statement: the arguments opened, the result shut, the listed tables.
-/
import Derived.Test.YtgjkkcggcljcdaaDoorBase
import Derived.Test.YtgjkkcggcljcdaaDoorCards
import Derived.Test.YtgjkkcggcljcdaaDoorTie
import Derived.WalkKit
import Derived.ProofKit
import Derived.OpenShut
import Derived.Deep.DeepHandedRow
import Derived.Lib.LaidTab
import Derived.Stop.LaidErr
import Derived.Test.YtgjkkcggcljcdaaDoorShaState
namespace Go.Proofs.YtgjkkcggcljcdaaDoor
open Go.ChangeShapes Go.WideShapes Go.ChangeAt Go.RowKit

set_option maxRecDepth 100000 in
theorem open_sum {H : Type} {enc : TypeId × Value → H} {W : World} {base : Nat} {sp : Nat → Bool} {held : Bool} {r : Reach} {b0 : Nat} {v : Value} {d : DataW H} {p : List MemPlace}
    (hv : Value.okWide Tryd.prog W r b0 37 v) (h : DataW.Trod enc Tryd.prog W base sp held 37 v d p) :
    ∃ xs : List Nat, v = .agg (ints .u8 xs) ∧ xs.length = 32 ∧ ∀ x ∈ xs, x < 256 := by
  obtain ⟨zs, rfl, hl, hw⟩ := open_arr Tryd.underlying37 Tryd.underlying5 (by kernel_rfl) (by kernel_rfl) hv h
  have hb : ∀ z ∈ zs, 0 ≤ z ∧ z ≤ 255 := fun z hz => bounds_u8 (hw z hz)
  refine ⟨zs.map Int.toNat, by rw [ints_of (fun z hz => (hb z hz).1)], by rw [List.length_map]; exact hl, ?_⟩
  intro x hx
  simp only [List.mem_map] at hx
  obtain ⟨z, hz, rfl⟩ := hx
  have := hb z hz
  omega

theorem gK : Tryd.prog.globalNamed "sealwax/sha.constants" = some 2 := by kernel_rfl
theorem gKType : (Tryd.prog.globals[2]?).map (·.type) = some 162 := by kernel_rfl
theorem gH : Tryd.prog.globalNamed "sealwax/sha.first" = some 3 := by kernel_rfl
theorem gHType : (Tryd.prog.globals[3]?).map (·.type) = some 98 := by kernel_rfl
theorem cells67 : Tryd.prog.cellsOf 162 = 64 := by kernel_rfl
theorem cells35 : Tryd.prog.cellsOf 98 = 8 := by kernel_rfl
theorem cells34 : Tryd.prog.cellsOf 88 = 1 := by kernel_rfl

theorem dataH : (Rows.laid_sealwax_sha_first : DataW Unit) = Lib.tabData .u32 (Sx.H0.map fun n : Nat => (n : Int)) := by kernel_rfl
theorem dataK : (Rows.laid_sealwax_sha_constants : DataW Unit) = Lib.tabData .u32 (Sx.K.map fun n : Nat => (n : Int)) := by kernel_rfl
/-- The row's list gives the tables. -/
theorem tabs_of {W : World} (h : laidMetH Tryd.prog [("sealwax/sha.first", Rows.laid_sealwax_sha_first), ("sealwax/sha.constants", Rows.laid_sealwax_sha_constants)] W) : Tabs W := by
  have h' : laidMet Tryd.prog [("sealwax/sha.first", Rows.laid_sealwax_sha_first), ("sealwax/sha.constants", Rows.laid_sealwax_sha_constants)] W := h
  have h2 := laidMet.tail h'
  rw [dataH] at h'
  rw [dataK] at h2
  have t1 := Lib.tabIs_of_head gH gHType Tryd.underlying98 Tryd.underlying88 cells34 cells35 h'
  have t2 := Lib.tabIs_of_head gK gKType Tryd.underlying162 Tryd.underlying88 cells34 cells67 h2
  refine ⟨fun i hi => ?_, fun i hi => ?_⟩
  · rw [t2.cell gK i (by rw [List.length_map]; exact hi), getD_cast]
  · rw [t1.cell gH i (by rw [List.length_map]; exact hi), getD_cast]

/-- A world for the witnesses: the settled one, the tables holding what their initialisers lay. -/
noncomputable def laidWorld (os : Os) : World :=
  { World.holding Tryd.prog os ⟨#[], #[], []⟩ with heap := ((World.holding Tryd.prog os ⟨#[], #[], []⟩).heap.modify 2 (relaid (ints .u32 Sx.K))).modify 3 (relaid (ints .u32 Sx.H0)) }
end Go.Proofs.YtgjkkcggcljcdaaDoor
