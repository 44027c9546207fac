/-
  Bytes of numbers rise as the numbers do (law WireRises); for every input.
-/
import Derived.Test.YtijhlgfogeldcaaLWire
import Derived.Test.YtijhlgfogeldcaaWire7
namespace Go.Proofs.Ytijhlgfogeldcaa
open Go.ChangeShapes Go.WideShapes Go.ChangeAt Go.RowKit
open Go.Lib (hid)

namespace WireRises
set_option maxHeartbeats 1000000 in
set_option maxRecDepth 100000 in
theorem walk (a b : Int) (ha : a ≤ 9223372036854775807) (hb : b ≤ 9223372036854775807) (w : World) :
    Calls Try.prog 7 #[.int .i64 a, .int .i64 b] w fun e w' => e = .returned (.bool true) ∧ Below w.heap.size w w' := by
  obtain ⟨x, hx⟩ : ∃ x : Nat, max 0 a = (x : Int) := ⟨a.toNat, by omega⟩
  obtain ⟨y, hy⟩ : ∃ y : Nat, max 0 b = (y : Int) := ⟨b.toNat, by omega⟩
  have hx4 : (if (0 : Int) < a then a else 0) = (x : Int) := by split <;> omega
  have hy4 : (if (0 : Int) < b then b else 0) = (y : Int) := by split <;> omega
  have hxt : a.toNat = x := by omega
  have hyt : b.toNat = y := by omega
  have h1 : Wx.nums8 [a] = Wx.num8 x := by simp [Wx.nums8, hxt]
  have h2 : Wx.nums8 [b] = Wx.num8 y := by simp [Wx.nums8, hyt]
  have z1 : (str (Wx.num8 x)).size = 8 := by rw [str_size, Wx.num8_length]
  have z2 : (str (Wx.num8 y)).size = 8 := by rw [str_size, Wx.num8_length]
  have N1 := hid (fun o ab wx hx1 hy1 => onum_any o [] (some ⟨ab, 0, none⟩) 1 [a] wx hx1 hy1 (by simp) (by simpa using ha) (by simp))
  have N2 := hid (fun o ab wx hx1 hy1 => onum_any o [] (some ⟨ab, 0, none⟩) 1 [b] wx hx1 hy1 (by simp) (by simpa using hb) (by simp))
  rw [show [a].length = 1 from rfl, List.nil_append, h1] at N1
  rw [show [b].length = 1 from rfl, List.nil_append, h2] at N2
  have B1 := hid (fun o wx hx1 => obytes_any o (Wx.num8 x) wx hx1 (Wx.num8_lt x) (by rw [Wx.num8_length]; omega))
  have B2 := hid (fun o wx hx1 => obytes_any o (Wx.num8 y) wx hx1 (Wx.num8_lt y) (by rw [Wx.num8_length]; omega))
  have hx9 : x ≤ 9223372036854775807 := by omega
  have hy9 : y ≤ 9223372036854775807 := by omega
  clear h1 h2 ha hb hxt hyt
  go_enter Try.func7, Try.ntmps7
  go_upto_region 4 with (go_at_call 9; refine (awake6_any _).mono ?_; rintro e w0 ⟨rfl, hb0⟩)
  have HO1 := hid ((OutAt.zero w0).below ((Below.refl _ (w0.alloc (.cells #[.pointer none, .int .i64 0] 26))).alloc (Nat.le_refl _) (.cells #[.pointer none, .int .i64 0] 26)))
  have ho2 := OutAt.zero (w0.alloc (.cells #[.pointer none, .int .i64 0] 26))
  rw [show (w0.alloc (.cells #[.pointer none, .int .i64 0] 26)).heap.size = w0.heap.size + 1 from by simp] at ho2
  have HO2 := hid ho2
  have HB0 := hid ((hb0.alloc hb0.size (.cells #[.pointer none, .int .i64 0] 26)).alloc (Nat.le_trans hb0.size (by simp)) (.cells #[.pointer none, .int .i64 0] 26))
  have hs0 := hb0.size
  clear ho2 hb0
  generalize (w0.alloc _).alloc _ = w1 at *
  have hles : Op.bytesLess (str (Wx.num8 x)).toList (str (Wx.num8 y)).toList = decide (x < y) := by
    rw [str_toList, str_toList, less_val _ _ (by rw [Wx.num8_length, Wx.num8_length]) (Wx.num8_lt x) (Wx.num8_lt y), Wx.num8_val x (by omega), Wx.num8_val y (by omega)]
  have heql : ((str (Wx.num8 x)).toList == (str (Wx.num8 y)).toList) = ((x : Int) == (y : Int)) := by
    rw [str_beq _ _ (Wx.num8_lt x) (Wx.num8_lt y)]
    by_cases h : x = y
    · subst h; simp
    · rw [show ((x : Int) == (y : Int)) = false from by simp; omega]
      simp only [beq_eq_false_iff_ne, ne_eq]
      intro hc
      have := congrArg Wx.beval hc
      rw [Wx.num8_val x (by omega), Wx.num8_val y (by omega)] at this
      exact h this
  generalize hS1 : str (Wx.num8 x) = S1 at *
  generalize hS2 : str (Wx.num8 y) = S2 at *
  have HS1 := hid hS1
  have HS2 := hid hS2
  clear hS1 hS2
  go_wp2_with fail
  refine (N1.out w0.heap.size _ _ (HO1.out.below ((Below.refl _ _).alloc (Nat.le_refl _) _)) (ints_one_at w1 _ _)).mono ?_
  rintro e w2 ⟨rfl, ho2, hk2⟩
  go_wp2_with fail
  refine (B1.out _ _ ho2).mono ?_
  rintro e w3 ⟨rfl, hb3⟩
  have HO4 := hid ((((HO2.out.below ((Below.refl _ _).alloc (Nat.le_refl _) _)).keptB (HO1.out.below ((Below.refl _ _).alloc (Nat.le_refl _) _)) hk2 (by omega)).below hb3).below ((Below.refl _ _).alloc (Nat.le_refl _) (.cells #[.int .i64 b] 3)))
  have HK2 := hid hk2
  have HB3 := hid hb3
  clear ho2 hk2 hb3
  go_wp2_with fail
  refine (N2.out (w0.heap.size + 1) _ _ HO4.out (ints_one_at w3 _ _)).mono ?_
  rintro e w4 ⟨rfl, ho4, hk4⟩
  go_wp2_with fail
  refine (B2.out _ _ ho4).mono ?_
  rintro e w5 ⟨rfl, hb5⟩
  have HBB := hid (show Below w.heap.size w w5 from by
    have b1 := HB0.out.trans (((Below.refl _ w1).alloc (Nat.le_refl _) (.cells #[.int .i64 a] 3)).mono HB0.out.size)
    have b2 := b1.trans (HK2.out.below hs0 b1.size)
    have b3 := b2.trans (HB3.out.mono b2.size)
    have b4 := b3.trans (((Below.refl _ w3).alloc (Nat.le_refl _) (.cells #[.int .i64 b] 3)).mono b3.size)
    have b5 := b4.trans (hk4.below (Nat.le_trans hs0 (by omega)) b4.size)
    exact b5.trans (hb5.mono b5.size))
  clear ho4 hk4 hb5 HO4 HK2 HB3 N1 N2 B1 B2 HO1 HO2 HB0 hs0
  go_wp2
  go_ret
  exact ⟨rfl, HBB.out⟩


set_option maxRecDepth 100000 in
theorem contract (H : Type) (enc : TypeId × Value → H) (W : World) (base : Nat) (args : Array Value) (ds gs : List (DataW H)) (before : List MemPlace)
    (hval : ∀ (j : Nat) t v, Try.f7.params[j]? = some t → args[j]? = some v → Value.okWide Try.prog W .any base t v)
    (hW : DataW.Whole enc Try.prog Try.f7.params.toList Rows.wireRisesSpec.vars false W args.toList ds gs before) (hL : laidMetH Try.prog Rows.wireRisesRow.laid W) :
    Calls Try.prog 7 args W fun e W' => ∃ v, e = .returned v ∧ Rows.wireRisesSpec.post enc Try.prog Try.f7 false true false false W args v W' := by
  have hW' := hW
  obtain ⟨p, q, hA0, hV, rfl, hfz, hnd⟩ := hW
  have hA : DataW.TrodAll enc Try.prog W 0 (fun _ => true) true Try.f7.params.toList args.toList ds p := hA0
  rw [Try.params7] at hA hval
  obtain ⟨v0, vs0, d0, ds0, p0, q0, hargs, rfl, rfl, h0, r0⟩ := trodAll_cons hA
  obtain ⟨v1, vs1, d1, ds1, p1, q1, rfl, rfl, rfl, h1, r1⟩ := trodAll_cons r0
  obtain ⟨rfl, rfl, rfl⟩ := trodAll_nil r1
  obtain rfl : args = #[v0, v1] := by cases args; simp_all
  obtain ⟨n0, rfl, rfl, rfl, wn0⟩ := open_int Try.underlying3 (hval 0 3 v0 rfl rfl) h0
  obtain ⟨n1, rfl, rfl, rfl, wn1⟩ := open_int Try.underlying3 (hval 1 3 v1 rfl rfl) h1
  refine (walk n0 n1 (by have := bounds_i64 wn0; omega) (by have := bounds_i64 wn1; omega) W).mono fun e W' ⟨he, hb⟩ => ?_
  subst he
  exact ⟨_, rfl, law_post rfl rfl (by rw [Try.params7]; decide +kernel) hW' rfl hb⟩

theorem laid_met (os : Os) : laidMet Try.prog Rows.wireRisesRow.laid ((laidWorld os).forCall (fun _ _ => 0) ⟨#[], #[.int .i64 0, .int .i64 0], []⟩).memory :=
  laidMet_of_run' 8 (by kernel_rfl) (by kernel_rfl)
theorem reads (os : Os) {H : Type} (enc : TypeId × Value → H) : ∃ places, DataW.whole enc Try.prog ((laidWorld os).forCall (fun _ _ => 0) ⟨#[], #[.int .i64 0, .int .i64 0], []⟩).memory Try.f7.params.toList Rows.wireRisesSpec.vars false (#[.int .i64 0, .int .i64 0] : Array Value).toList 8
    = some ([.lit (.int .i64 0), .lit (.int .i64 0)], [], places) :=
  ⟨[], by kernel_rfl⟩

set_option maxRecDepth 100000 in
theorem lifted (os : Os) (started : os.Started) (H : Type) (enc : TypeId × Value → H) (F : Stop.Interp) :
    ReturnsInHanded {} Try.checked os 7 .any ((OpenSpec.ofChange Rows.wireRisesSpec).preRow enc Try.prog Try.f7 Rows.wireRisesRow.domain false Rows.wireRisesRow.laid) (((OpenSpec.ofChange Rows.wireRisesSpec).at F).post enc Try.prog Try.f7 false true false false) := by
  obtain ⟨places, hx⟩ := reads os enc
  refine returnsInHanded_of_row (C := Try.checked) (s := OpenSpec.ofChange Rows.wireRisesSpec) own started (by kernel_rfl) Try.func7
    (witness_row_at (enc := enc) (C := Try.checked) false (laidWorld os) #[.int .i64 0, .int .i64 0] rfl (by kernel_rfl) (by kernel_rfl) (by kernel_rfl)
      (OpenSpec.preRow_of_cond 8 hx (by kernel_rfl) (fun k hk => by cases hk) (by kernel_rfl) (laid_met os))) ?_
  intro W base args ds gs before hval hW _ _ _ hL _ _
  exact contract H enc W base args ds gs before hval hW hL

theorem said : Rows.WireRisesSaid :=
  OpenClaim.holds_of_cond 7 Try.f7 rfl rfl rfl rfl rfl rfl rfl ⟨rfl, rfl, rfl, rfl, rfl⟩ rfl rfl rfl rfl rfl (by kernel_rfl) Try.func7 (by kernel_rfl)
    (of_decide_eq_true (by kernel_rfl)) (by unfold Func.isWrapper; first | (rw [if_pos (by decide +kernel)]; kernel_rfl) | (rw [if_neg (by decide +kernel)]; exact ⟨rfl, rfl⟩))
    (fun os started H enc _ F => by rw [OpenClaim.pre_eq_preRow]; exact lifted os started H enc F)


end WireRises
theorem wireRises_said : Rows.WireRisesSaid := WireRises.said
end Go.Proofs.Ytijhlgfogeldcaa
