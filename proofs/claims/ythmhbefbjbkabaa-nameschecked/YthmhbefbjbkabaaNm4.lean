/-
  Layer 17: the fixed fact.
-/
import Derived.Test.YthmhbefbjbkabaaNm3
namespace Go.Proofs.Ythmhbefbjbkabaa
open Go.ChangeShapes Go.WideShapes Go.ChangeAt Go.RowKit Go.Shelf
open Go.Lib (hid)

attribute [local go_sem] Oper.semAt_some

namespace Nx
theorem aw1 : create ⟨[], 1⟩ [97] = (⟨[(str [97], 1)], 2⟩, 1, 0) := by rfl
theorem aw2 : rename ⟨[(str [97], 1)], 2⟩ [97] [98] = (⟨[(str [98], 1)], 2⟩, 1, 0) := by rfl
theorem aw3 : create ⟨[(str [98], 1)], 2⟩ [97] = (⟨[(str [98], 1), (str [97], 2)], 3⟩, 2, 0) := by rfl
theorem aw4 : chk [120, 47, 121] = true := by rfl
theorem aw5 : chk [47, 120] = false := by rfl
end Nx
theorem lt97 : ∀ x ∈ ([97] : List Nat), x < 256 := by decide
theorem lt98 : ∀ x ∈ ([98] : List Nat), x < 256 := by decide
theorem lt1 : (⟨[], 1⟩ : Nx.V).n < 4611686018427387904 := by simp only []; omega
theorem lt2 : (⟨[(str [98], 1)], 2⟩ : Nx.V).n < 4611686018427387904 := by simp only []; omega
theorem le0 : (⟨[], 1⟩ : Nx.V).M.length ≤ 1000000 := by simp
theorem le1 : (⟨[(str [98], 1)], 2⟩ : Nx.V).M.length ≤ 1000000 := by simp
theorem s97 : str [97] = ⟨#[97]⟩ := rfl
theorem s98 : str [98] = ⟨#[98]⟩ := rfl
set_option maxRecDepth 100000 in
set_option maxHeartbeats 1000000 in
theorem awake17_any (w : World) (hm : MxL w) : Calls Try.prog 6 #[] w fun e w' => e = .returned (.bool true) ∧ Below w.heap.size w w' := by
  have HM := hid hm
  have H1 := hid (fun b m wx (h : IsN wx b m ⟨[], 1⟩) (hm : MxL wx) => create_any b m ⟨[], 1⟩ [97] lt97 (by simp) lt1 le0 wx h hm)
  have H2 := hid (fun b m wx (h : IsN wx b m ⟨[(str [97], 1)], 2⟩) (hm : MxL wx) => rename_any b m ⟨[(str [97], 1)], 2⟩ [97] [98] (by simp) lt98 (by simp) wx h hm)
  have H3 := hid (fun b m wx (h : IsN wx b m ⟨[(str [98], 1)], 2⟩) (hm : MxL wx) => create_any b m ⟨[(str [98], 1)], 2⟩ [97] lt97 (by simp) lt2 le1 wx h hm)
  have h4 := fun wx (hm : MxL wx) => check_any [120, 47, 121] (by decide) (by simp) wx hm
  have h5 := fun wx (hm : MxL wx) => check_any [47, 120] (by decide) (by simp) wx hm
  rw [Nx.aw1] at H1
  rw [Nx.aw2] at H2
  rw [Nx.aw3] at H3
  simp only [Nx.aw4, show str [120, 47, 121] = ⟨#[120, 47, 121]⟩ from rfl] at h4
  have H4 := hid h4
  clear h4
  simp only [Nx.aw5, show str [47, 120] = ⟨#[47, 120]⟩ from rfl] at h5
  have H5 := hid h5
  clear h5
  go_enter Try.func6, Try.ntmps6
  go_upto_region 4 with (go_at_call 7; refine (new_any _).mono ?_; rintro e w1 ⟨b, m, rfl, hN1, hb, hmm, hb1⟩)
  have HN1 := hid hN1
  have HB1 := hid hb1
  have HM1 := hid (HM.out.next hb1)
  have hbx := HM.out.lt
  clear hN1 hb1
  go_upto_region 5 with (go_at_call 15; refine (H1.out b m _ HN1.out HM1.out).mono ?_; rintro e w2 ⟨rfl, hN2, hk2⟩)
  have HN2 := hid hN2
  have HM2 := hid (HM1.out.kept hk2 (by omega))
  have HB2 := hid (HB1.out.trans (hk2.below (B := w.heap.size) (fun k hk => by rcases hk with rfl | rfl <;> assumption) HB1.out.size))
  clear hN2 hk2 HN1 HM1 HB1
  go_upto_region 6 with (go_at_call 17; refine (H2.out b m _ HN2.out HM2.out).mono ?_; rintro e w3 ⟨rfl, hN3, hk3⟩)
  have HN3 := hid hN3
  have HM3 := hid (HM2.out.kept hk3 (by omega))
  have HB3 := hid (HB2.out.trans (hk3.below (B := w.heap.size) (fun k hk => by rcases hk with rfl | rfl <;> assumption) HB2.out.size))
  clear hN3 hk3 HN2 HM2 HB2
  go_upto_region 7 with (go_at_call 15; refine (H3.out b m _ HN3.out HM3.out).mono ?_; rintro e w4 ⟨rfl, hN4, hk4⟩)
  have HM4 := hid (HM3.out.kept hk4 (by omega))
  have HB4 := hid (HB3.out.trans (hk4.below (B := w.heap.size) (fun k hk => by rcases hk with rfl | rfl <;> assumption) HB3.out.size))
  clear hN4 hk4 HN3 HM3 HB3
  go_wp2_with (first
    | (go_at_call 11; refine (Calls.mono (by with_reducible exact H4.out _ HM4.out) ?_); rintro e wz ⟨rfl, hwz⟩; subst hwz)
    | (go_at_call 11; refine (Calls.mono (by with_reducible exact H5.out _ HM4.out) ?_); rintro e wz ⟨rfl, hwz⟩; subst hwz))
  exact bodyPost_ret (results_tmp rfl _ _ _) rfl ⟨rfl, HB4.out⟩
end Go.Proofs.Ythmhbefbjbkabaa
