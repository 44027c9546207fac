/-
  The laws of layer 6: the fixed fact that each begins with, and the way from a walk to a law.
-/
import Derived.Test.YtijhlgfogeldcaaWire4
import Derived.Test.YtijhlgfogeldcaaWire6
namespace Go.Proofs.Ytijhlgfogeldcaa
open Go.ChangeShapes Go.WideShapes Go.ChangeAt Go.RowKit
open Go.Lib (hid)

theorem InAt.keptB {w w' : World} {b o : Nat} {r : List Nat × Int} (h : InAt w b r) (hk : KeptB o w w') (hne : b ≠ o) : InAt w' b r := by
  unfold InAt; rw [hk.block b h.lt hne]; exact h
theorem InAt.new (w : World) (s : List Nat) : InAt (w.alloc (.cells #[.string (str s), .int .i64 0] 66)) w.heap.size (s, 0) := heap_alloc_new _ _

set_option maxHeartbeats 1000000 in
set_option maxRecDepth 100000 in
theorem awake6_any (w : World) :
    Calls Try.prog 9 #[] w fun e w' => e = .returned (.bool true) ∧ Below w.heap.size w w' := by
  go_enter Try.func9, Try.ntmps9
  go_upto_region 3 with (go_at_call 19; refine (of_any _ _).mono ?_; rintro e w1 ⟨rfl, rfl⟩)
  have HO0 := hid ((OutAt.zero w).below ((Below.refl _ (w.alloc (.cells #[.pointer none, .int .i64 0] 26))).alloc (Nat.le_refl _) (.cells #[.string ⟨#[0, 0, 0, 0, 0, 0, 1, 2]⟩, .int .i64 0] 66)))
  have hi := InAt.new (w.alloc (.cells #[.pointer none, .int .i64 0] 26)) [0, 0, 0, 0, 0, 0, 1, 2]
  rw [show str [0, 0, 0, 0, 0, 0, 1, 2] = ⟨#[0, 0, 0, 0, 0, 0, 1, 2]⟩ from rfl, show (w.alloc (.cells #[.pointer none, .int .i64 0] 26)).heap.size = w.heap.size + 1 from by simp] at hi
  have HI0 := hid hi
  clear hi
  have HB0 := hid (((Below.refl w.heap.size w).alloc (Nat.le_refl _) (.cells #[.pointer none, .int .i64 0] 26)).alloc (by simp) (.cells #[.string ⟨#[0, 0, 0, 0, 0, 0, 1, 2]⟩, .int .i64 0] 66))
  generalize (w.alloc _).alloc _ = w0 at *
  have HNU := hid (fun wx hx hy => onum_any w.heap.size [] (some ⟨w0.heap.size, 0, none⟩) 1 [258] wx hx hy (by simp) (by simp) (by simp))
  rw [show [(258 : Int)].length = 1 from rfl, show [] ++ Wx.nums8 [258] = [0, 0, 0, 0, 0, 0, 1, 2] from by decide +kernel] at HNU
  have HFX := hid (fun wx hx => ofixed_any w.heap.size [0, 0, 0, 0, 0, 0, 1, 2] [97, 98, 99] 2 2 wx hx (by decide) (by decide) (by decide) (by decide))
  rw [show str [97, 98, 99] = ⟨#[97, 98, 99]⟩ from rfl, show [0, 0, 0, 0, 0, 0, 1, 2] ++ Wx.fix [97, 98, 99] 2 = [0, 0, 0, 0, 0, 0, 1, 2, 97, 98] from by decide +kernel] at HFX
  have HBY := hid (fun wx hx => obytes_any w.heap.size [0, 0, 0, 0, 0, 0, 1, 2, 97, 98] wx hx (by decide) (by decide))
  rw [show str [0, 0, 0, 0, 0, 0, 1, 2, 97, 98] = ⟨#[0, 0, 0, 0, 0, 0, 1, 2, 97, 98]⟩ from rfl] at HBY
  have HIN := hid (fun wx hx => inum_any (w.heap.size + 1) [0, 0, 0, 0, 0, 0, 1, 2] 0 wx hx (by decide))
  rw [show Wx.inum [0, 0, 0, 0, 0, 0, 1, 2] 0 = (([], 0), 258) from by decide +kernel] at HIN
  have HEN := hid (fun wx hx => iend_any (w.heap.size + 1) [] 0 wx hx)
  rw [if_pos rfl] at HEN
  go_wp2_with (first
    | (go_at_call 11; refine (HNU.out _ (HO0.out.below ((Below.refl _ _).alloc (Nat.le_refl _) _)) (ints_one_at w0 _ _)).mono ?_; rintro e w1 ⟨rfl, ho1, hk1⟩)
    | (go_at_call 16; refine (HFX.out _ ho1).mono ?_; rintro e w2 ⟨rfl, ho2, hk2⟩)
    | (go_at_call 18; refine (HBY.out _ ho2).mono ?_; rintro e w3 ⟨rfl, hb3⟩)
    | (go_at_call 20; refine (HIN.out _ ((((HI0.out.below ((Below.refl _ _).alloc (Nat.le_refl _) _)).keptB hk1 (by omega)).keptB hk2 (by omega)).below hb3)).mono ?_; rintro e w4 ⟨rfl, hi4, hk4⟩)
    | (go_at_call 29; refine (HEN.out _ hi4).mono ?_; rintro e w5 ⟨rfl, rfl⟩))
  go_ret
  have s0 := HB0.out.size
  have b1 := HB0.out.trans (((Below.refl _ w0).alloc (Nat.le_refl _) (.cells #[.int .i64 258] 3)).mono s0)
  have b2 := b1.trans (hk1.below (Nat.le_refl _) b1.size)
  have b3 := b2.trans (hk2.below (Nat.le_refl _) b2.size)
  have b4 := b3.trans (hb3.mono b3.size)
  exact ⟨rfl, b4.trans (hk4.below (by omega) b4.size)⟩

/-- A world for the witnesses: the settled one. -/
noncomputable def laidWorld (os : Os) : World := World.holding Try.prog os ⟨#[], #[], []⟩
end Go.Proofs.Ytijhlgfogeldcaa
