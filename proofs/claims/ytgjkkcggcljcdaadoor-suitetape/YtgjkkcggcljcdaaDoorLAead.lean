/-
  The laws of layer 5: the fixed fact that each begins with, and the listed tables.
-/
import Derived.Test.YtgjkkcggcljcdaaDoorAead3
import Derived.Test.YtgjkkcggcljcdaaDoorLPoly
namespace Go.Proofs.YtgjkkcggcljcdaaDoor
open Go.ChangeShapes Go.WideShapes Go.ChangeAt Go.RowKit
open Go.Lib (hid)

/-- The row's list gives both tables. -/
theorem tabs5_of {W : World} (h : laidMetH Tryd.prog [("sealwax/poly.kept", Rows.laid_sealwax_poly_kept), ("sealwax/stream.quarters", Rows.laid_sealwax_stream_quarters)] W) : TabK W ∧ TabQ W := by
  have h' : laidMet Tryd.prog [("sealwax/poly.kept", Rows.laid_sealwax_poly_kept), ("sealwax/stream.quarters", Rows.laid_sealwax_stream_quarters)] W := h
  have h2 := laidMet.tail h'
  refine ⟨?_, tabq_of h2⟩
  rw [dataKp] at h'
  have t1 := Lib.tabIs_of_head gKp gKpType Tryd.underlying44 Tryd.underlying5 (by kernel_rfl) (by kernel_rfl) h'
  intro j v hj
  have hlt : j < Px.kept.length := by have := (List.getElem?_eq_some_iff.1 hj).1; rwa [ints_llen] at this
  rw [Nat.zero_add, t1.cell gKp j (by rw [List.length_map]; exact hlt), getD_cast, ← hj, Array.getElem?_toList, ints_get _ _ _ hlt]
/-- A world for the witnesses: the settled one, the tables holding what their initialisers lay. -/
noncomputable def laidWorld5 (os : Os) : World :=
  { World.holding Tryd.prog os ⟨#[], #[], []⟩ with heap := ((World.holding Tryd.prog os ⟨#[], #[], []⟩).heap.modify 0 (relaid (ints .i64 Cx.flat))).modify 1 (relaid (ints .u8 Px.kept)) }

namespace Ax
def wK : List Nat := (List.range 32).map (128 + ·)
def wN : List Nat := [7, 0, 0, 0, 64, 65, 66, 67, 68, 69, 70, 71]
def wA : List Nat := [80, 81, 82, 83, 192, 193, 194, 195, 196, 197, 198, 199]
def wP : List Nat := [76, 97, 100, 105, 101, 115, 32, 97, 110, 100, 32, 71, 101, 110, 116, 108, 101, 109, 101, 110, 32, 111, 102, 32, 116, 104, 101, 32, 99, 108, 97, 115, 115, 32, 111, 102, 32, 39, 57, 57, 58, 32, 73, 102, 32, 73, 32, 99, 111, 117, 108, 100, 32, 111, 102, 102, 101].append [114, 32, 121, 111, 117, 32, 111, 110, 108, 121, 32, 111, 110, 101, 32, 116, 105, 112, 32, 102, 111, 114, 32, 116, 104, 101, 32, 102, 117, 116, 117, 114, 101, 44, 32, 115, 117, 110, 115, 99, 114, 101, 101, 110, 32, 119, 111, 117, 108, 100, 32, 98, 101, 32, 105, 116, 46]
def wB0 : List Nat := [123, 172, 43, 37, 45, 180, 71, 175, 9, 182, 122, 85, 164, 233, 85, 132, 10, 225, 214, 115, 16, 117, 217, 235, 42, 147, 117, 120, 62, 213, 83, 255, 162, 126, 204, 222, 173, 219, 77, 180, 209, 23, 156, 228, 201, 11, 67, 216, 188, 183, 148, 140, 75, 75, 125, 139, 125, 246, 39, 57, 50, 164, 105, 22]
def wB1 : List Nat := [159, 123, 233, 93, 1, 253, 64, 186, 21, 226, 143, 251, 54, 129, 10, 174, 193, 192, 136, 63, 9, 1, 110, 222, 221, 138, 208, 135, 85, 130, 3, 165, 78, 158, 203, 56, 172, 142, 94, 43, 184, 218, 178, 15, 250, 219, 82, 232, 117, 4, 178, 110, 190, 105, 109, 79, 96, 164, 133, 207, 17, 184, 27, 89]
def wB2 : List Nat := [252, 177, 196, 95, 66, 25, 238, 172, 236, 106, 222, 195, 78, 102, 105, 120, 142, 219, 65, 196, 156, 163, 1, 225, 39, 224, 172, 171, 59, 68, 185, 207, 92, 134, 187, 149, 224, 107, 13, 242, 144, 26, 182, 69, 228, 171, 230, 34, 21, 56, 12, 3, 206, 53, 108, 215, 166, 118, 99, 251, 221, 239, 255, 100]
def wH : List Nat := [211, 26, 141, 52, 100, 142, 96, 219, 123, 134, 175, 188, 83, 239, 126, 194, 164, 173, 237, 81, 41, 110, 8, 254, 169, 226, 181, 167, 54, 238, 98, 214, 61, 190, 164, 94, 140, 169, 103, 18, 130, 250, 251, 105, 218, 146, 114, 139, 26, 113, 222, 10, 158, 6, 11, 41, 5, 214, 165, 182, 126, 205, 59, 54, 146, 221, 189, 127, 45, 119, 139, 140, 152, 3, 174, 227, 40, 9, 27, 88, 250, 179, 36, 228, 250, 214, 117, 148, 85, 133, 128, 139, 72, 49, 215, 188, 63, 244, 222, 240, 142, 75, 122, 157, 229, 118, 210, 101, 134, 206, 198, 75, 97, 22]
def wT : List Nat := [26, 225, 11, 89, 79, 9, 226, 106, 126, 144, 46, 203, 208, 96, 6, 145]
set_option maxRecDepth 100000 in
theorem wake_b0 : Cx.block wK 0 wN = wB0 := by decide +kernel
set_option maxRecDepth 100000 in
theorem wake_b1 : Cx.block wK 1 wN = wB1 := by decide +kernel
set_option maxRecDepth 100000 in
theorem wake_b2 : Cx.block wK 2 wN = wB2 := by decide +kernel
theorem xors_two (key nonce s : List Nat) (hs : s.length ≤ 128) : Cx.xors key 1 nonce s = (List.range s.length).map fun i => s.getD i 0 ^^^ (if i < 64 then (Cx.block key 1 nonce).getD i 0 else (Cx.block key 2 nonce).getD (i - 64) 0) := by
  apply getD_ext'
  · rw [Cx.xors_length]; simp
  · intro i hi
    rw [Cx.xors_length] at hi
    rw [Cx.xors_get _ _ _ _ _ hi]
    rw [List.getD_eq_getElem?_getD (l := List.map _ _), List.getElem?_map, List.getElem?_range hi]
    simp only [Option.map_some, Option.getD_some]
    have hx : Cx.xorB key 1 nonce i = (if i < 64 then (Cx.block key 1 nonce).getD i 0 else (Cx.block key 2 nonce).getD (i - 64) 0) := by
      unfold Cx.xorB
      by_cases h : i < 64
      · rw [if_pos h, show i / 64 = 0 from by omega, show i % 64 = i from by omega, show (1 + 0) % Sx.M = 1 from by decide]
      · rw [if_neg h, show i / 64 = 1 from by omega, show i % 64 = i - 64 from by omega, show (1 + 1) % Sx.M = 2 from by decide]
    rw [hx]
set_option maxRecDepth 100000 in
theorem wake_h : hidden wK wN wP = wH := by
  unfold hidden
  rw [xors_two _ _ _ (by decide), wake_b1, wake_b2]
  decide +kernel
set_option maxRecDepth 100000 in
theorem wake_t : tag wK wN wA wH = wT := by
  unfold tag once
  rw [wake_b0]
  decide +kernel
theorem wake_s : sealed wK wN wA wP = wH ++ wT := by unfold sealed; rw [wake_h, wake_t]
theorem wK_get (k : Nat) (h : k < 32) : wK.getD k 0 = 128 + k := by simp [wK, List.getD_eq_getElem?_getD, h]
end Ax

end Go.Proofs.YtgjkkcggcljcdaaDoor
