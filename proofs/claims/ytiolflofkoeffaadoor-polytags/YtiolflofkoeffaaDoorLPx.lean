/-
  The laws of layer 4: a key that is an argument, and its bytes (law04.text).
-/
import Derived.Test.YtiolflofkoeffaaDoorLPoly
import Derived.Test.YtiolflofkoeffaaDoorPxV
namespace Go.Proofs.YtiolflofkoeffaaDoor
open Go.ChangeShapes Go.WideShapes Go.ChangeAt Go.RowKit
open Go.Lib (hid)

set_option maxRecDepth 100000 in
theorem open_k32 {H : Type} {enc : TypeId × Value → H} {W : World} {base : Nat} {sp : Nat → Bool} {held : Bool} {r : Reach} {b0 : Nat} {v : Value} {d : DataW H} {p : List MemPlace}
    (hv : Value.okWide Tryd.prog W r b0 22 v) (h : DataW.Trod enc Tryd.prog W base sp held 22 v d p) :
    ∃ xs : List Nat, v = .agg (ints .u8 xs) ∧ xs.length = 32 ∧ ∀ x ∈ xs, x < 256 := by
  obtain ⟨zs, rfl, hl, hw⟩ := open_arr Tryd.underlying22 Tryd.underlying5 (by kernel_rfl) (by kernel_rfl) hv h
  have hb : ∀ z ∈ zs, 0 ≤ z ∧ z ≤ 255 := fun z hz => bounds_u8 (hw z hz)
  refine ⟨zs.map Int.toNat, by rw [ints_of (fun z hz => (hb z hz).1)], by rw [List.length_map]; exact hl, ?_⟩
  intro x hx
  simp only [List.mem_map] at hx
  obtain ⟨z, hz, rfl⟩ := hx
  have := hb z hz
  omega

set_option maxHeartbeats 1000000 in
theorem ltext4_any (xs : List Nat) (hl : xs.length = 32) (w : World) :
    Calls Tryd.prog 18 #[.agg (ints .u8 xs)] w fun e w' => e = .returned (.string (str xs)) ∧ Below w.heap.size w w' := by
  have hs : (ints .u8 xs).size = 32 := by rw [ints_size, hl]
  go_enter Tryd.func18, Tryd.ntmps18
  go_upto_region 2 with (fail)
  have hrow : Row (w.alloc (.cells (ints .u8 xs) 22)) w.heap.size .u8 22 xs := heap_alloc_new _ _
  have hb0 : Below w.heap.size w (w.alloc (.cells (ints .u8 xs) 22)) := (Below.refl _ _).alloc (Nat.le_refl _) _
  generalize hw0 : w.alloc _ = w0 at *
  have hs0 : w.heap.size ≤ w0.heap.size := hb0.size
  clear hw0
  have HB0 := hid hb0
  clear hb0
  go_wp2_with (refine wpList_load_row rfl _ _ rfl w.heap.size rfl _ _ _ _ hrow Tryd.underlying22 rfl (by rw [hs]; exact info22) ?_)
  clear hrow
  go_loopw [3, 7] (fun v i wr => ∃ k : Nat, k ≤ 32 ∧ i = .int .i64 k ∧ Own wr w.heap.size v (xs.take k) ∧ Below w.heap.size w wr)
    (fun _ i _ => 32 - (intOf i).toNat)
  case atStart => exact ⟨0, by omega, rfl, Own.nil _ _, HB0.out⟩
  case round =>
    obtain ⟨k, hk, rfl, hown, hbel⟩ := hrel
    by_cases hlt : k < 32
    · have hi := fun wx => run_index_ints (P := Tryd.prog) wx 22 5 32 .u8 xs Tryd.underlying22 Tryd.underlying5 (by kernel_rfl) hl k hlt
      have hsz := hbel.size
      have HTL := hid (show (xs.take k).length = k from by simp; omega)
      have HTS := hid (take_getD_succ xs k (by omega))
      have HOWN := hid hown
      have HBEL := hid hbel
      clear hown hbel
      generalize xs.getD k 0 = x at *
      go_wp2_with (refine wpList_app rfl _ _ rfl w.heap.size _ (xs.take k) rfl (HOWN.out.below ((Below.refl _ _).alloc (Nat.le_refl _) _)) _ 1 1 [x] rfl rfl (cells_one wr x _) (by rw [HTL.out]; omega) (by simp; omega) ?_; intro v' w' hown' hbel')
      go_roundw
      case rel =>
        rw [HTS.out] at hown'
        first
          | exact ⟨k + 1, by omega, by go_num, hown', (HBEL.out.alloc hsz _).trans hbel'⟩
          | ((repeat apply Exists.intro); refine ⟨?_, rfl⟩; exact ⟨k + 1, by omega, by go_num, hown', (HBEL.out.alloc hsz _).trans hbel'⟩)
      case measure => simp [intOf]; omega
    · obtain rfl : k = 32 := by omega
      have hc := run_ownstr hown
      rw [List.take_of_length_le (by omega)] at hc
      clear hown
      go_wp2
      go_ret
      exact ⟨rfl, hbel⟩

end Go.Proofs.YtiolflofkoeffaaDoor
