/-
  The laws of layer 4: the fixed fact that each begins with, and the listed table.
-/
import Derived.Test.YtiolflofkoeffaaDoorPoly12
import Derived.Lib.LaidTab
import Derived.Lib.SlBytesConst
import Derived.Stop.LaidErr
namespace Go.Proofs.YtiolflofkoeffaaDoor
open Go.ChangeShapes Go.WideShapes Go.ChangeAt Go.RowKit
open Go.Lib (hid)

theorem gKp : Tryd.prog.globalNamed "sealwax/poly.kept" = some 1 := by kernel_rfl
theorem gKpType : (Tryd.prog.globals[1]?).map (·.type) = some 36 := by kernel_rfl
theorem dataKp : (Rows.laid_sealwax_poly_kept : DataW Unit) = Lib.tabData .u8 (Px.kept.map fun n : Nat => (n : Int)) := by kernel_rfl
/-- The row's list gives the table. -/
theorem tabk_of {W : World} (h : laidMetH Tryd.prog [("sealwax/poly.kept", Rows.laid_sealwax_poly_kept)] W) : TabK W := by
  have h' : laidMet Tryd.prog [("sealwax/poly.kept", Rows.laid_sealwax_poly_kept)] W := h
  rw [dataKp] at h'
  have t1 := Lib.tabIs_of_head gKp gKpType Tryd.underlying36 Tryd.underlying5 (by kernel_rfl) (by kernel_rfl) h'
  intro j v hj
  have hlt : j < Px.kept.length := by have := (List.getElem?_eq_some_iff.1 hj).1; rwa [ints_llen] at this
  rw [Nat.zero_add, t1.cell gKp j (by rw [List.length_map]; exact hlt), getD_cast, ← hj, Array.getElem?_toList, ints_get _ _ _ hlt]

namespace Px
def wakeKey : List Nat := [133, 214, 190, 120, 87, 85, 109, 51, 127, 68, 82, 254, 66, 213, 6, 168, 1, 3, 128, 138, 251, 13, 178, 253, 74, 191, 246, 175, 65, 73, 245, 27]
def wakeA : List Nat := [67, 114, 121, 112, 116, 111, 103, 114, 97, 112, 104, 105, 99, 32, 70, 111, 114, 117, 109, 32]
def wakeB : List Nat := [82, 101, 115, 101, 97, 114, 99, 104, 32, 71, 114, 111, 117, 112]
theorem wake : of wakeKey [wakeA, wakeB].flatten = [168, 6, 29, 193, 48, 81, 54, 198, 194, 43, 139, 175, 12, 1, 39, 169] := by decide +kernel
/-- The first k bytes laid. -/
def wakeN (k : Nat) : List Nat := wakeKey.take k ++ List.replicate (32 - k) 0
theorem wakeN_succ : ∀ k, k < 32 → (wakeN k).set k (wakeKey.getD k 0) = wakeN (k + 1) := by decide +kernel
theorem wakeN_length (k : Nat) (h : k ≤ 32) : (wakeN k).length = 32 := by
  have : wakeKey.length = 32 := rfl
  rw [wakeN, List.length_append, List.length_take, List.length_replicate]; omega
end Px

theorem conv_same (w : World) (A : Obj) (C : Array Value) (n c : Nat) : (convert 44 44 (.slice (some ⟨w.heap.size + 1, 0, none⟩) n c)).run Tryd.prog ((w.alloc A).alloc (.cells C 5)) = .ok (.slice (some ⟨w.heap.size + 1, 0, none⟩) n c) ((w.alloc A).alloc (.cells C 5 (C.size, C.size + 1))) := by
  have h := Lib.run_convert_bytes_const (P := Tryd.prog) (w.alloc A) 44 5 C n c Tryd.underlying44 Tryd.underlying5
  rwa [show (w.alloc A).heap.size = w.heap.size + 1 from by simp] at h

set_option maxHeartbeats 2000000 in
set_option maxRecDepth 100000 in
theorem awake4_any (w : World) (hT : TabK w) :
    Calls Tryd.prog 13 #[] w fun e w' => e = .returned (.bool true) ∧ Below w.heap.size w w' := by
  have HT := hid hT
  clear hT
  go_enter Tryd.func13, Tryd.ntmps13
  have hcv := fun A C => conv_same w A C 32 32
  go_upto_region 3 with (fail)
  clear hcv
  generalize hw0 : (w.alloc _).alloc _ = w0
  have HRK := hid (show Row w0 w.heap.size .u8 22 (Px.wakeN 0) from by rw [← hw0]; unfold Row; rw [heap_alloc2_old]; rfl)
  have HRS := hid (show w0.rangeAt (w.heap.size + 1) 0 (ints .u8 Px.wakeKey).toList from by rw [← hw0]; exact range_mid (heap_alloc2_new _ _ _) (A := []) (C := []) (by simp; rfl) rfl)
  have HB0 := hid (show Below w.heap.size w w0 from by rw [← hw0]; exact ((Below.refl _ _).alloc (Nat.le_refl _) _).alloc (by simp) _)
  clear hw0
  go_loopw [2, 3, 7] (fun _ _ i wr => ∃ k : Nat, k ≤ 32 ∧ i = .int .i64 k ∧ Row wr w.heap.size .u8 22 (Px.wakeN k) ∧ wr.rangeAt (w.heap.size + 1) 0 (ints .u8 Px.wakeKey).toList ∧ Below w.heap.size w wr)
    (fun _ _ i _ => 32 - (intOf i).toNat)
  case atStart => exact ⟨0, by omega, rfl, HRK.out, HRS.out, HB0.out⟩
  case round =>
    clear HRK HRS HB0
    obtain ⟨k, hk, rfl, rk, rs, hbel⟩ := hrel
    by_cases hlt : k < 32
    · have c0 := rs k _ (by rw [Array.getElem?_toList, ints_get _ _ _ hlt])
      rw [Nat.zero_add] at c0
      have hl := Px.wakeN_length k hk
      have d0 := rk.cell k (by omega)
      have f0 := rk.free k
      have r1 := rk.set k (Px.wakeKey.getD k 0)
      rw [Px.wakeN_succ k hlt] at r1
      have s1 : (wr.setCell ⟨w.heap.size, k, none⟩ (.int .u8 (Px.wakeKey.getD k 0 : Nat))).rangeAt (w.heap.size + 1) 0 (ints .u8 Px.wakeKey).toList := by
        intro j v hj
        rw [← rs j v hj]
        simp only [World.cell?, heap_setCell_other _ (⟨w.heap.size, k, none⟩ : Addr) (w.heap.size + 1) _ (by simp)]
      have b1 := hbel.setCell (p := ⟨w.heap.size, k, none⟩) (Nat.le_refl _) (.int .u8 (Px.wakeKey.getD k 0 : Nat))
      have HR := hid r1
      have HS := hid s1
      have HB := hid b1
      clear r1 s1 b1 rk rs hbel hl
      generalize (Px.wakeN k).getD k 0 = y0 at *
      generalize Px.wakeKey.getD k 0 = x0 at *
      go_wp2
      go_roundw
      case rel =>
        first
          | exact ⟨k + 1, by omega, by go_num, HR.out, HS.out, HB.out⟩
          | ((repeat apply Exists.intro); refine ⟨?_, rfl⟩; exact ⟨k + 1, by omega, by go_num, HR.out, HS.out, HB.out⟩)
      case measure => simp [intOf]; omega
    · obtain rfl : k = 32 := by omega
      rw [show Px.wakeN 32 = Px.wakeKey from by decide +kernel] at rk
      have hks : (ints .u8 Px.wakeKey).size = 32 := by rw [ints_size]; rfl
      have HT1 := hid (HT.out.below hbel (Nat.le_refl _))
      have HOF := hid (fun wb wx hx hy => pof_any Px.wakeKey (by decide) rfl (some ⟨wb, 0, none⟩) [Px.wakeA, Px.wakeB] 2 (by decide) (by decide) wx hx hy)
      rw [Px.wake, show [Px.wakeA, Px.wakeB].length = 2 from rfl] at HOF
      have HTX := hid (fun wx => ttext_any [168, 6, 29, 193, 48, 81, 54, 198, 194, 43, 139, 175, 12, 1, 39, 169] rfl wx)
      rw [show str [168, 6, 29, 193, 48, 81, 54, 198, 194, 43, 139, 175, 12, 1, 39, 169] = ⟨#[168, 6, 29, 193, 48, 81, 54, 198, 194, 43, 139, 175, 12, 1, 39, 169]⟩ from rfl] at HTX
      have HSS := hid (fun wx => strs_two wx Px.wakeA Px.wakeB 9)
      rw [show str Px.wakeA = ⟨#[67, 114, 121, 112, 116, 111, 103, 114, 97, 112, 104, 105, 99, 32, 70, 111, 114, 117, 109, 32]⟩ from rfl, show str Px.wakeB = ⟨#[82, 101, 115, 101, 97, 114, 99, 104, 32, 71, 114, 111, 117, 112]⟩ from rfl] at HSS
      have HBL := hid hbel
      clear rs hbel
      rw [show ((32 : Nat) : Int) = 32 from rfl]
      generalize Px.wakeKey = WK at *
      generalize hT16 : ([168, 6, 29, 193, 48, 81, 54, 198, 194, 43, 139, 175, 12, 1, 39, 169] : List Nat) = T16 at HOF HTX
      clear hT16
      go_wp2_with (first
        | (refine wpList_load_row rfl _ _ rfl w.heap.size rfl _ _ _ _ rk Tryd.underlying22 rfl (by rw [hks]; exact info22) ?_)
        | (go_at_call 15; refine (HOF.out _ _ (HT1.out.below ((Below.refl _ _).alloc (Nat.le_refl _) _) (Nat.le_refl _)) (HSS.out wr)).mono ?_; rintro e w1 ⟨rfl, k1⟩)
        | (go_at_call 16; refine (HTX.out _).mono ?_; rintro e w2 ⟨rfl, k2⟩))
      go_ret
      have b1 := (HBL.out.alloc HBL.out.size (.cells #[.string ⟨#[67, 114, 121, 112, 116, 111, 103, 114, 97, 112, 104, 105, 99, 32, 70, 111, 114, 117, 109, 32]⟩, .string ⟨#[82, 101, 115, 101, 97, 114, 99, 104, 32, 71, 114, 111, 117, 112]⟩] 9))
      have b2 := b1.trans (k1.mono b1.size)
      exact ⟨rfl, b2.trans (k2.mono b2.size)⟩
end Go.Proofs.YtiolflofkoeffaaDoor
