/-
  Behind the first error nothing is taken, and it stays the error (law WireStops); for every input.
-/
import Derived.Test.YtijhlgfogeldcaaLActs
namespace Go.Proofs.Ytijhlgfogeldcaa
open Go.ChangeShapes Go.WideShapes Go.ChangeAt Go.RowKit
open Go.Lib (hid)

namespace Wx
theorem ifail_nil (E q : Int) (h : E ≠ 0) : ifail [] E q = ([], E) := by simp [ifail, h]
theorem iraw_nil (E n : Int) (h : E ≠ 0) : iraw [] E n = (([], E), []) := by
  unfold iraw
  rw [ifail_nil E 2 h]
  split <;> simp
theorem inum_nil (E : Int) (h : E ≠ 0) : inum [] E = (([], E), 0) := by
  unfold inum
  rw [iraw_nil E 8 h]
  simp
theorem itext_nil (E : Int) (h : E ≠ 0) : itext [] E = (([], E), []) := by
  unfold itext
  rw [inum_nil E h]
  exact iraw_nil E _ h
end Wx

namespace WireStops
set_option maxHeartbeats 2000000 in
set_option maxRecDepth 100000 in
theorem walk (s : ByteArray) (hs : s.size ≤ maxLen) (ao : Option Addr) (L : List (Int × Int × ByteArray)) (cap : Nat) (e : Int) (w : World) (hA : ActsB w ao L) (hL : L.length ≤ maxLen) :
    Calls Try.prog 8 #[.string s, .slice ao L.length cap, .int .i64 e] w fun e w' => e = .returned (.bool true) ∧ Below w.heap.size w w' := by
  have HCUT := hid (fun wx => cut_any s 60 wx hs (by omega))
  obtain ⟨t, ht⟩ : ∃ t, t = (nums s).take 60 := ⟨_, rfl⟩
  have tb : ∀ x ∈ t, x < 256 := by rw [ht]; exact fun x hx => nums_lt s x (List.mem_of_mem_take hx)
  rw [← ht] at HCUT
  have HA := hid hA
  have hLm : L.length ≤ 9223372036854775807 := hL
  obtain ⟨j, hj, hand0⟩ := and_le e 7 (by decide)
  have hand : bits .and .i64 e 7 = (j : Int) := hand0
  obtain ⟨E, hE⟩ : ∃ E : Int, E = 1 + (j : Int) := ⟨_, rfl⟩
  have hE1 : 1 + (j : Int) = E := hE.symm
  have hE0 : E ≠ 0 := by omega
  have HF := hid (fun b wx hx => ifail_any b t 0 E wx hx)
  rw [show Wx.ifail t 0 E = ([], E) from by simp [Wx.ifail, hE0]] at HF
  have hFe := fun b q wx hx => ifail_any b [] E q wx hx
  have hNu := fun b wx hx => inum_any b [] E wx hx (by simp)
  have hTe := fun b wx hx => itext_any b [] E wx hx (by simp)
  have hRa := fun b q wx hx => iraw_any b [] E q wx hx (by simp)
  have hEn := fun b wx hx => iend_any b [] E wx hx
  simp only [Wx.ifail_nil _ _ hE0] at hFe
  simp only [Wx.iraw_nil _ _ hE0] at hRa
  rw [Wx.inum_nil _ hE0] at hNu
  rw [Wx.itext_nil _ hE0] at hTe
  rw [if_pos rfl] at hEn
  rw [show str [] = ⟨#[]⟩ from rfl] at hRa hTe
  have HFE := hid hFe
  have HTE := hid hTe
  have HRA := hid hRa
  have HEN := hid hEn
  have hLe := fun b wx hx => ileft_any b ([], E) wx hx
  have hEr := fun b wx hx => ierr_any b ([], E) wx hx
  simp only [List.length_nil, Int.natCast_zero] at hLe
  rw [show ((0 : Nat) : Int) = 0 from rfl] at hNu
  simp only at hEr hNu
  have HNU := hid hNu
  have HLE := hid hLe
  have HER := hid hEr
  have hEE : (E == E) = true := by simp
  clear hLe hEr hFe hNu hTe hRa hEn hA hL ht hE hand0
  go_enter Try.func8, Try.ntmps8
  go_upto_region 3 with (go_at_call 9; refine (awake6_any _).mono ?_; rintro e w0 ⟨rfl, hb0⟩)
  have HB0 := hid hb0
  have hs0 := hb0.size
  clear hb0
  go_upto_region 4 with (first
    | (go_at_call 10; refine (HCUT.out _).mono ?_; rintro e w2 ⟨rfl, hw2⟩; obtain rfl : w0 = w2 := hw2)
    | (go_at_call 19; refine (of_any _ _).mono ?_; rintro e w1 ⟨rfl, rfl⟩))
  have HI1 := hid (InAt.new w0 t)
  have HB1 := hid (HB0.out.alloc hs0 (.cells #[.string (str t), .int .i64 0] 66))
  generalize w0.alloc _ = w1 at *
  generalize w0.heap.size = b at *
  clear HB0
  go_upto_region 9 with (go_at_call 26; refine (HF.out _ _ HI1.out).mono ?_; rintro e w2 ⟨rfl, hi2, hk2⟩)
  have HI2 := hid hi2
  have HB2 := hid (HB1.out.trans (hk2.below hs0 HB1.out.size))
  clear hi2 hk2 HI1 HB1 HF HCUT tb
  go_loopw [8] (fun i wr => ∃ k : Nat, k ≤ L.length ∧ i = .int .i64 k ∧ InAt wr b ([], E) ∧ Below w.heap.size w wr)
    (fun i _ => L.length - (intOf i).toNat)
  case atStart => exact ⟨0, by omega, rfl, HI2.out, HB2.out⟩
  case round =>
    clear HI2 HB2
    obtain ⟨k, hk, rfl, hin, hbel⟩ := hrel
    by_cases hlt : k < L.length
    · by_cases hten : k < 10
      · obtain ⟨sb, so, hao, c0, c1, c2⟩ := HA.out.below hbel k hlt
        subst hao
        have HIN := hid hin
        have HBL := hid hbel
        clear hin hbel c2
        generalize L.getD k (0, 0, ByteArray.empty) = q at *
        obtain ⟨K, N, T⟩ := q
        simp only at c0 c1
        by_cases h0 : K = 0
        · subst h0
          go_wp2_with (first
            | (go_at_call 20; refine (HNU.out _ _ HIN.out).mono ?_; rintro r w3 ⟨rfl, hi3, hk3⟩)
            | (go_at_call 28; refine (HER.out _ _ hi3).mono ?_; rintro r w4 ⟨rfl, rfl⟩)
            | (go_at_call 27; refine (HLE.out _ _ hi3).mono ?_; rintro r w4 ⟨rfl, rfl⟩)
            | (go_at_call 29; refine (HEN.out _ _ hi3).mono ?_; rintro r w4 ⟨rfl, rfl⟩))
          go_roundw
          case rel =>
            first
              | exact ⟨k + 1, by omega, by go_num, hi3, HBL.out.trans (hk3.below hs0 HBL.out.size)⟩
              | ((repeat apply Exists.intro); refine ⟨?_, rfl⟩; exact ⟨k + 1, by omega, by go_num, hi3, HBL.out.trans (hk3.below hs0 HBL.out.size)⟩)
          case measure => simp [intOf]; omega
        have h0b : (K == 0) = false := by simp [h0]
        by_cases h1 : K = 1
        · subst h1
          go_wp2_with (first
            | (go_at_call 22; refine (HTE.out _ _ HIN.out).mono ?_; rintro r w3 ⟨rfl, hi3, hk3⟩)
            | (go_at_call 28; refine (HER.out _ _ hi3).mono ?_; rintro r w4 ⟨rfl, rfl⟩)
            | (go_at_call 27; refine (HLE.out _ _ hi3).mono ?_; rintro r w4 ⟨rfl, rfl⟩)
            | (go_at_call 29; refine (HEN.out _ _ hi3).mono ?_; rintro r w4 ⟨rfl, rfl⟩))
          go_roundw
          case rel =>
            first
              | exact ⟨k + 1, by omega, by go_num, hi3, HBL.out.trans (hk3.below hs0 HBL.out.size)⟩
              | ((repeat apply Exists.intro); refine ⟨?_, rfl⟩; exact ⟨k + 1, by omega, by go_num, hi3, HBL.out.trans (hk3.below hs0 HBL.out.size)⟩)
          case measure => simp [intOf]; omega
        have h1b : (K == 1) = false := by simp [h1]
        by_cases h2 : K = 2
        · subst h2
          go_wp2_with (first
            | (go_at_call 24; refine (HRA.out _ _ _ HIN.out).mono ?_; rintro r w3 ⟨rfl, hi3, hk3⟩)
            | (go_at_call 28; refine (HER.out _ _ hi3).mono ?_; rintro r w4 ⟨rfl, rfl⟩)
            | (go_at_call 27; refine (HLE.out _ _ hi3).mono ?_; rintro r w4 ⟨rfl, rfl⟩)
            | (go_at_call 29; refine (HEN.out _ _ hi3).mono ?_; rintro r w4 ⟨rfl, rfl⟩))
          go_roundw
          case rel =>
            first
              | exact ⟨k + 1, by omega, by go_num, hi3, HBL.out.trans (hk3.below hs0 HBL.out.size)⟩
              | ((repeat apply Exists.intro); refine ⟨?_, rfl⟩; exact ⟨k + 1, by omega, by go_num, hi3, HBL.out.trans (hk3.below hs0 HBL.out.size)⟩)
          case measure => simp [intOf]; omega
        have h2b : (K == 2) = false := by simp [h2]
        · clear h0 h1 h2
          go_wp2_with (first
            | (go_at_call 26; refine (HFE.out _ _ _ HIN.out).mono ?_; rintro r w3 ⟨rfl, hi3, hk3⟩)
            | (go_at_call 28; refine (HER.out _ _ hi3).mono ?_; rintro r w4 ⟨rfl, rfl⟩)
            | (go_at_call 27; refine (HLE.out _ _ hi3).mono ?_; rintro r w4 ⟨rfl, rfl⟩)
            | (go_at_call 29; refine (HEN.out _ _ hi3).mono ?_; rintro r w4 ⟨rfl, rfl⟩))
          go_roundw
          case rel =>
            first
              | exact ⟨k + 1, by omega, by go_num, hi3, HBL.out.trans (hk3.below hs0 HBL.out.size)⟩
              | ((repeat apply Exists.intro); refine ⟨?_, rfl⟩; exact ⟨k + 1, by omega, by go_num, hi3, HBL.out.trans (hk3.below hs0 HBL.out.size)⟩)
          case measure => simp [intOf]; omega
      · have HBL := hid hbel
        clear hin hbel
        go_wp2
        go_ret
        exact ⟨rfl, HBL.out⟩
    · have HBL := hid hbel
      clear hin hbel
      go_wp2
      go_ret
      exact ⟨rfl, HBL.out⟩

set_option maxRecDepth 100000 in
theorem contract (H : Type) (enc : TypeId × Value → H) (W : World) (base : Nat) (args : Array Value) (ds gs : List (DataW H)) (before : List MemPlace)
    (hval : ∀ (j : Nat) t v, Try.f8.params[j]? = some t → args[j]? = some v → Value.okWide Try.prog W .any base t v)
    (hW : DataW.Whole enc Try.prog Try.f8.params.toList Rows.wireStopsSpec.vars false W args.toList ds gs before) (hL : laidMetH Try.prog Rows.wireStopsRow.laid W) :
    Calls Try.prog 8 args W fun e W' => ∃ v, e = .returned v ∧ Rows.wireStopsSpec.post enc Try.prog Try.f8 false true false false W args v W' := by
  have hW' := hW
  obtain ⟨p, q, hA0, hV, rfl, hfz, hnd⟩ := hW
  have hA : DataW.TrodAll enc Try.prog W 0 (fun _ => true) true Try.f8.params.toList args.toList ds p := hA0
  rw [Try.params8] at hA hval
  obtain ⟨v0, vs0, d0, ds0, p0, q0, hargs, rfl, rfl, h0, r0⟩ := trodAll_cons hA
  obtain ⟨v1, vs1, d1, ds1, p1, q1, rfl, rfl, rfl, h1, r1⟩ := trodAll_cons r0
  obtain ⟨v2, vs2, d2, ds2, p2, q2, rfl, rfl, rfl, h2, r2⟩ := trodAll_cons r1
  obtain ⟨rfl, rfl, rfl⟩ := trodAll_nil r2
  obtain rfl : args = #[v0, v1, v2] := by cases args; simp_all
  obtain ⟨s0, rfl, rfl, rfl, hs0⟩ := Go.ChangeMaps.open_string Try.underlying9 (hval 0 9 v0 rfl rfl) h0
  obtain ⟨ao1, L1, cap1, rfl, hR1, hL1, hb1⟩ := open_acts (hval 1 22 v1 rfl rfl) h1
  obtain ⟨n2, rfl, rfl, rfl, wn2⟩ := open_int Try.underlying3 (hval 2 3 v2 rfl rfl) h2
  refine (walk s0 hs0 ao1 L1 cap1 n2 W hR1 hL1).mono fun e W' ⟨he, hb⟩ => ?_
  subst he
  exact ⟨_, rfl, law_post rfl rfl (by rw [Try.params8]; decide +kernel) hW' rfl hb⟩

theorem laid_met (os : Os) : laidMet Try.prog Rows.wireStopsRow.laid ((laidWorld os).forCall (fun _ _ => 0) ⟨#[], #[.string ByteArray.empty, .slice none 0 0, .int .i64 0], []⟩).memory :=
  laidMet_of_run' 8 (by kernel_rfl) (by kernel_rfl)
theorem reads (os : Os) {H : Type} (enc : TypeId × Value → H) : ∃ places, DataW.whole enc Try.prog ((laidWorld os).forCall (fun _ _ => 0) ⟨#[], #[.string ByteArray.empty, .slice none 0 0, .int .i64 0], []⟩).memory Try.f8.params.toList Rows.wireStopsSpec.vars false (#[.string ByteArray.empty, .slice none 0 0, .int .i64 0] : Array Value).toList 8
    = some ([.lit (.string []), .nil, .lit (.int .i64 0)], [], places) :=
  ⟨[], by kernel_rfl⟩

set_option maxRecDepth 100000 in
theorem lifted (os : Os) (started : os.Started) (H : Type) (enc : TypeId × Value → H) (F : Stop.Interp) :
    ReturnsInHanded {} Try.checked os 8 .any ((OpenSpec.ofChange Rows.wireStopsSpec).preRow enc Try.prog Try.f8 Rows.wireStopsRow.domain false Rows.wireStopsRow.laid) (((OpenSpec.ofChange Rows.wireStopsSpec).at F).post enc Try.prog Try.f8 false true false false) := by
  obtain ⟨places, hx⟩ := reads os enc
  refine returnsInHanded_of_row (C := Try.checked) (s := OpenSpec.ofChange Rows.wireStopsSpec) own started (by kernel_rfl) Try.func8
    (witness_row_at (enc := enc) (C := Try.checked) false (laidWorld os) #[.string ByteArray.empty, .slice none 0 0, .int .i64 0] rfl (by kernel_rfl) (by kernel_rfl) (by kernel_rfl)
      (OpenSpec.preRow_of_cond 8 hx (by kernel_rfl) (fun k hk => by cases hk) (by kernel_rfl) (laid_met os))) ?_
  intro W base args ds gs before hval hW _ _ _ hL _ _
  exact contract H enc W base args ds gs before hval hW hL

theorem said : Rows.WireStopsSaid :=
  OpenClaim.holds_of_cond 8 Try.f8 rfl rfl rfl rfl rfl rfl rfl ⟨rfl, rfl, rfl, rfl, rfl⟩ rfl rfl rfl rfl rfl (by kernel_rfl) Try.func8 (by kernel_rfl)
    (of_decide_eq_true (by kernel_rfl)) (by unfold Func.isWrapper; first | (rw [if_pos (by decide +kernel)]; kernel_rfl) | (rw [if_neg (by decide +kernel)]; exact ⟨rfl, rfl⟩))
    (fun os started H enc _ F => by rw [OpenClaim.pre_eq_preRow]; exact lifted os started H enc F)


end WireStops
theorem wireStops_said : Rows.WireStopsSaid := WireStops.said
end Go.Proofs.Ytijhlgfogeldcaa
