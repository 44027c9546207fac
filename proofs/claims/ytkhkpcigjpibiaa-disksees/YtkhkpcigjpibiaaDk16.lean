/-
  Layer 9: awake.
-/
import Derived.Test.YtkhkpcigjpibiaaDk15
namespace Go.Proofs.Ytkhkpcigjpibiaa
open Go.ChangeShapes Go.WideShapes Go.ChangeAt Go.RowKit Go.Shelf
open Go.Conc
open Go.Lib (hid)

attribute [local go_sem] Oper.semAt_some

theorem Dv.fit_new (np nc pc : Nat) : Dv.Fit (Dv.new np nc pc) := ⟨by simp [Dv.new], by simp [Dv.new], by simp [Dv.new], by simp [Dv.new]⟩
section
variable (pc : Nat) (pa : ByteArray) (hpa : pa.size = 256)
def Dv.aw1 : Dv.D := { Dv.new 3 4 pc with Q := [(1, 1, pa)], view := [(1, 1, pa)], steps := 1 }
include hpa in
theorem Dv.aw1_eq : Dv.write (Dv.new 3 4 pc) 1 pa = (Dv.aw1 pc pa, 0) := by
  have h0 : Dv.refuses (Dv.new 3 4 pc) 1 = 0 := by simp [Dv.refuses, Dv.new]
  unfold Dv.write
  rw [h0, if_neg (by simp), if_neg (by simp [hpa])]
  simp [Dv.step, Dv.new, Dv.add, Dv.aw1]
def Dv.aw2 : Dv.D := { Dv.aw1 pc pa with left := max (-1) 0, mask := 1 }
def Dv.aw3 : Dv.D := { Dv.aw2 pc pa with P := [Dv.zs, pa, Dv.zs], Q := [], crashed := true }
theorem Dv.aw3_eq : Dv.flush (Dv.aw2 pc pa) = (Dv.aw3 pc pa, 11) := by
  have hs : Dv.step (Dv.aw2 pc pa) (2, 0, ⟨#[]⟩) = (Dv.crash (Dv.aw2 pc pa), false) := if_pos (show max (-1 : Int) 0 = 0 from by omega)
  unfold Dv.flush
  rw [hs, if_neg (by simp [Dv.aw2, Dv.aw1, Dv.new]), if_pos rfl]
  simp [Dv.crash, Dv.aw2, Dv.aw3, Dv.aw1, Dv.new, Dv.keep, Dv.settle, List.replicate]
theorem Dv.aw3_read : Dv.read (Dv.aw3 pc pa) 1 = (⟨#[]⟩, 11) := by simp [Dv.read, Dv.refuses, Dv.aw3]
def Dv.aw4 : Dv.D := { (Dv.aw3 pc pa).Q.foldl Dv.lose (Dv.aw3 pc pa) with crashed := false, left := -1 }
theorem Dv.aw4_read : Dv.read (Dv.aw4 pc pa) 1 = (pa, 0) := by simp [Dv.read, Dv.refuses, Dv.aw4, Dv.aw3]
end
set_option maxHeartbeats 1000000 in
set_option maxRecDepth 100000 in
theorem awake_any (w : World) : Calls Try.prog 9 #[] w fun e w' => e = .returned (.bool true) ∧ Below w.heap.size w w' := by
  have hnew := new_any 3 4 3 4 rfl rfl w
  go_enter Try.func9, Try.ntmps9
  have HPS := hid (Dv.page_size ⟨#[97]⟩)
  have HPG := hid (fun (wx : World) => page_any ⟨#[97]⟩ (by decide) wx)
  generalize Dv.page ⟨#[97]⟩ = pa at *
  have haw1 := fun pc => Dv.aw1_eq pc pa HPS.out
  have HAW1 := hid haw1
  have HAW3 := hid (fun pc => Dv.aw3_eq pc pa)
  have HAR3 := hid (fun pc => Dv.aw3_read pc pa)
  have HAR4 := hid (fun pc => Dv.aw4_read pc pa)
  clear haw1
  go_upto_region 4 with (go_at_call 10; refine hnew.mono ?_; rintro e w1 ⟨d, gs, c, pc, rfl, hd1, hb1, hld, hlg, hlc⟩)
  have HD1 := hid hd1
  have HB1 := hid hb1
  clear hnew hd1 hb1
  go_upto_region 5 with (first
    | (go_at_call 15; refine (HPG.out _).mono ?_; rintro e w2 ⟨rfl, hw2⟩; subst hw2)
    | (go_at_call 17; refine (write_any (Dv.fit_new 3 4 pc) (by simp [Dv.new]) 1 pa _ HD1.out).mono ?_; rintro e w3 ⟨vv3, rfl, hd3, hk3⟩; rw [HAW1.out pc] at hd3 ⊢))
  have HD3 := hid hd3
  have HK3 := hid hk3
  clear hd3 hk3
  go_upto_region 6 with (go_at_call 19; refine (arm_any 0 1 HD3.out).mono ?_; rintro e w4 ⟨rfl, hd4, hk4⟩)
  have HD4 := hid (show IsD w4 d gs c vv3 (Dv.aw2 pc pa) from hd4)
  have HK4 := hid hk4
  clear hd4 hk4
  have hF4 : Dv.Fit (Dv.aw2 pc pa) := ⟨by simp [Dv.aw2], by simp only [Dv.aw2]; omega, by simp [Dv.aw2, Dv.aw1], by simp [Dv.aw2, Dv.aw1]⟩
  go_upto_region 7 with (go_at_call 18; refine (flush_any hF4 w4 HD4.out).mono ?_; rintro e w5 ⟨vv5, rfl, hd5, hk5⟩; rw [HAW3.out pc] at hd5 ⊢)
  have HD5 := hid hd5
  have HK5 := hid hk5
  clear hd5 hk5 hF4
  go_upto_region 8 with (go_at_call 23; refine (read_any 1 w5 HD5.out).mono ?_; rintro e w6 ⟨rfl, hd6, hk6⟩; rw [HAR3.out pc])
  have HD6 := hid hd6
  have HK6 := hid hk6
  clear hd6 hk6
  go_upto_region 9 with (go_at_call 31; refine (start_any d gs c vv5 _ w6 HD6.out).mono ?_; rintro e w7 ⟨rfl, hd7, hk7⟩)
  have HD7 := hid (show IsD w7 d gs c vv5 (Dv.aw4 pc pa) from hd7)
  have HK7 := hid hk7
  clear hd7 hk7
  go_upto_region 10 with (go_at_call 23; refine (read_any 1 w7 HD7.out).mono ?_; rintro e w8 ⟨rfl, hd8, hk8⟩; rw [HAR4.out pc])
  have HD8 := hid hd8
  have HK8 := hid hk8
  clear hd8 hk8
  go_wp2_with (first
    | (go_at_call 15; refine (HPG.out _).mono ?_; rintro e w9 ⟨rfl, hw9⟩; subst hw9)
    | (go_at_call 30; refine (pages_any HD8.out).mono ?_; rintro e w9 ⟨rfl, hw9⟩; subst hw9))
  have hl4 : ((Dv.aw4 pc pa).P.length : Int) = 3 := rfl
  have t1 := HK3.out
  have t2 : DkTo w3 d gs c vv3 w4 vv3 := DkTo.of HK4.out (fun k hk => Or.inl hk)
  have t3 := HK5.out
  have t4 : DkTo w5 d gs c vv5 w6 vv5 := DkTo.of HK6.out (fun k hk => Or.inr (Or.inr (Or.inl hk)))
  have t5 : DkTo w6 d gs c vv5 w7 vv5 := DkTo.of HK7.out (fun k hk => by rcases hk with hk | hk; exact Or.inl hk; exact Or.inr (Or.inr (Or.inl hk)))
  have t6 : DkTo w7 d gs c vv5 w9 vv5 := DkTo.of HK8.out (fun k hk => Or.inr (Or.inr (Or.inl hk)))
  have tt := ((((t1.trans t2).trans t3).trans t4).trans t5).trans t6
  refine bodyPost_ret (results_tmp rfl _ _ _) rfl ⟨?_, HB1.out.trans (tt.1.below (fun k hk => ?_) HB1.out.size)⟩
  · show Ending.returned (Value.bool (((Dv.aw4 pc pa).P.length : Int) == 3)) = _
    rw [hl4]
    rfl
  · rcases hk with rfl | rfl | rfl | hk
    · exact hld
    · exact hlg
    · exact hlc
    · cases hk
end Go.Proofs.Ytkhkpcigjpibiaa
