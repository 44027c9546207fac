/-
  A text has just the document's pages, and is unpacked from them (law PadPacks); for every input.
-/
import Derived.Test.YtlehhalakjjnkaaLPad
namespace Go.Proofs.Ytlehhalakjjnkaa
open Go.ChangeShapes Go.WideShapes Go.ChangeAt Go.RowKit
open Go.Lib (hid)

namespace PadPacks
set_option maxHeartbeats 2000000 in
set_option maxRecDepth 100000 in
theorem walk (s : ByteArray) (hs : s.size ≤ maxLen) (n : Int) (w : World) :
    Calls Try.prog 3 #[.string s, .int .i64 n] w fun e w' => e = .returned (.bool true) ∧ Below w.heap.size w w' := by
  have HCUT := hid (fun wx => cut_any s 900 wx hs (by omega))
  obtain ⟨t, ht⟩ : ∃ t, t = (nums s).take 900 := ⟨_, rfl⟩
  have tb : ∀ x ∈ t, x < 256 := by rw [ht]; exact fun x hx => nums_lt s x (List.mem_of_mem_take hx)
  have tl : t.length ≤ 900 := by rw [ht, List.length_take]; omega
  rw [← ht] at HCUT
  have hc : 0 < Pd.cls t.length := Pd.cls_some t.length (by omega)
  have hP1 := Pd.pages_length t
  have hP2 := Pd.cls_le t.length
  have HPK := hid (fun wx => pack_any t tb (by omega) wx)
  rw [decide_eq_true hc] at HPK
  have HRP := hid (fun wx => rpack_any t tb (by omega) wx)
  have HPB := hid (Pd.pages_lt t tb)
  have HUN := hid (fun a c wx hx hcap => unpack_any a (Pd.pages t) c wx hx hcap (by omega) (Pd.pages_lt t tb) (Nat.le_trans (Pd.pages_flat_le t) (by omega)))
  rw [Pd.out_pages t hc, Pd.uok_pages t hc] at HUN
  have HCL := hid (fun wx => class_any n wx)
  have HRC := hid (fun wx => rclass_any n wx)
  have hpl : (Pd.pages t).length ≤ 32 := by omega
  have hst : ((str t).toList == (str t).toList) = true := beq_self_eq_true _
  clear ht tb hs hc hP1 hP2
  generalize Pd.pages t = B at *
  generalize str t = S at *
  generalize Pd.cls n = c at *
  go_enter Try.func3, Try.ntmps3
  go_upto_region 3 with (go_at_call 7; refine (awake12_any _).mono ?_; rintro e w0 ⟨rfl, hb0⟩)
  go_wp2_with fail
  refine (HCUT.out _).mono ?_
  rintro e w1 ⟨rfl, hw1⟩
  obtain rfl : w0 = w1 := hw1
  go_wp2_with fail
  refine (HPK.out _).mono ?_
  rintro e w2 ⟨v2, rfl, hown2, hb2⟩
  have HB2 := hid (hb0.trans (hb2.mono hb0.size))
  obtain ⟨a2, c2, rfl, hs2, hcap2, _⟩ := hown2.capP
  have HS2 := hid hs2
  clear hb0 hb2 hown2 hs2 HPK HCUT
  go_wp2_with fail
  refine (HRP.out _).mono ?_
  rintro e w3 ⟨v3, rfl, hown3, hb3⟩
  have HB3 := hid (HB2.out.trans (hb3.mono HB2.out.size))
  have HS23 := hid (HS2.out.below hb3)
  obtain ⟨a3, c3, rfl, hs3, _, _⟩ := hown3.capP
  have HS3 := hid hs3
  clear hb3 hown3 hs3 HRP HS2 HB2
  go_upto_region 9 with (fail)
  go_loopw [8, 35] (fun x i wr => ∃ k : Nat, k ≤ B.length ∧ i = .int .i64 k ∧ Strs wr a2 B ∧ Strs wr a3 B ∧ Below w.heap.size w wr)
    (fun _ i _ => B.length - (intOf i).toNat)
  case atStart => exact ⟨0, by omega, rfl, HS23.out, HS3.out, HB3.out⟩
  case round =>
    clear HS23 HS3 HB3
    obtain ⟨k, hk, rfl, h2, h3, hbel⟩ := hrel
    have H2 := hid h2
    have H3 := hid h3
    have HBEL := hid hbel
    clear hbel
    by_cases hlt : k < B.length
    · obtain ⟨sb, so, hao, hc⟩ := h2 k hlt
      obtain ⟨tb, tq, hbo, hd⟩ := h3 k hlt
      subst hao hbo
      clear h2 h3
      have hq : ((str (B.getD k [])).toList == (str (B.getD k [])).toList) = true := beq_self_eq_true _
      generalize str (B.getD k []) = x at *
      go_upto_region 11 with (fail)
      go_quiet (fail)
      go_wp2
      exact ⟨⟨k + 1, by omega, by go_num, H2.out.below ⟨rfl, rfl, rfl, Nat.le_refl _, fun _ _ => rfl⟩, H3.out.below ⟨rfl, rfl, rfl, Nat.le_refl _, fun _ _ => rfl⟩, HBEL.out.trans ⟨rfl, rfl, rfl, Nat.le_refl _, fun _ _ => rfl⟩⟩, by simp [intOf]; omega⟩
    · obtain rfl : k = B.length := by omega
      clear h2 h3 H3
      go_wp2_with fail
      refine (HCL.out _).mono ?_
      rintro e w4 ⟨rfl, hw4⟩
      obtain rfl : wr = w4 := hw4.symm
      go_wp2_with fail
      refine (HUN.out _ _ _ H2.out hcap2).mono ?_
      rintro e w5 ⟨rfl, hb5⟩
      have HB5 := hid (HBEL.out.trans (hb5.mono HBEL.out.size))
      clear hb5 H2 HBEL
      go_wp2_with fail
      refine (HRC.out _).mono ?_
      rintro e w6 ⟨rfl, hb6⟩
      have HB6 := hid (HB5.out.trans (hb6.mono HB5.out.size))
      clear hb6 HB5
      have hcc : ((c : Int) == (c : Int)) = true := beq_self_eq_true _
      rcases Nat.eq_zero_or_pos c with h0 | h0
      · subst h0
        go_wp2
        go_ret
        exact ⟨by rfl, HB6.out⟩
      · have hd0 : decide (0 < c) = true := decide_eq_true h0
        have hd1 : (0 : Int) < (c : Int) := by omega
        go_wp2
        go_ret
        exact ⟨by rfl, HB6.out⟩

set_option maxRecDepth 100000 in
theorem contract (H : Type) (enc : TypeId × Value → H) (W : World) (base : Nat) (args : Array Value) (ds gs : List (DataW H)) (before : List MemPlace)
    (hval : ∀ (j : Nat) t v, Try.f3.params[j]? = some t → args[j]? = some v → Value.okWide Try.prog W .any base t v)
    (hW : DataW.Whole enc Try.prog Try.f3.params.toList Rows.padPacksSpec.vars false W args.toList ds gs before) (hL : laidMetH Try.prog Rows.padPacksRow.laid W) :
    Calls Try.prog 3 args W fun e W' => ∃ v, e = .returned v ∧ Rows.padPacksSpec.post enc Try.prog Try.f3 false true false false W args v W' := by
  have hW' := hW
  obtain ⟨p, q, hA0, hV, rfl, hfz, hnd⟩ := hW
  have hA : DataW.TrodAll enc Try.prog W 0 (fun _ => true) true Try.f3.params.toList args.toList ds p := hA0
  rw [Try.params3] at hA hval
  obtain ⟨v0, vs0, d0, ds0, p0, q0, hargs, rfl, rfl, h0, r0⟩ := trodAll_cons hA
  obtain ⟨v1, vs1, d1, ds1, p1, q1, rfl, rfl, rfl, h1, r1⟩ := trodAll_cons r0
  obtain ⟨rfl, rfl, rfl⟩ := trodAll_nil r1
  obtain rfl : args = #[v0, v1] := by cases args; simp_all
  obtain ⟨s0, rfl, rfl, rfl, hs0⟩ := Go.ChangeMaps.open_string Try.underlying9 (hval 0 9 v0 rfl rfl) h0
  obtain ⟨n1, rfl, rfl, rfl, wn1⟩ := open_int Try.underlying3 (hval 1 3 v1 rfl rfl) h1
  refine (walk s0 hs0 n1 W).mono fun e W' ⟨he, hb⟩ => ?_
  subst he
  exact ⟨_, rfl, law_post rfl rfl (by rw [Try.params3]; decide +kernel) hW' rfl hb⟩

theorem laid_met (os : Os) : laidMet Try.prog Rows.padPacksRow.laid ((laidWorld os).forCall (fun _ _ => 0) ⟨#[], #[.string ByteArray.empty, .int .i64 0], []⟩).memory :=
  laidMet_of_run' 8 (by kernel_rfl) (by kernel_rfl)
theorem reads (os : Os) {H : Type} (enc : TypeId × Value → H) : ∃ places, DataW.whole enc Try.prog ((laidWorld os).forCall (fun _ _ => 0) ⟨#[], #[.string ByteArray.empty, .int .i64 0], []⟩).memory Try.f3.params.toList Rows.padPacksSpec.vars false (#[.string ByteArray.empty, .int .i64 0] : Array Value).toList 8
    = some ([.lit (.string []), .lit (.int .i64 0)], [], places) :=
  ⟨[], by kernel_rfl⟩

set_option maxRecDepth 100000 in
theorem lifted (os : Os) (started : os.Started) (H : Type) (enc : TypeId × Value → H) (F : Stop.Interp) :
    ReturnsInHanded {} Try.checked os 3 .any ((OpenSpec.ofChange Rows.padPacksSpec).preRow enc Try.prog Try.f3 Rows.padPacksRow.domain false Rows.padPacksRow.laid) (((OpenSpec.ofChange Rows.padPacksSpec).at F).post enc Try.prog Try.f3 false true false false) := by
  obtain ⟨places, hx⟩ := reads os enc
  refine returnsInHanded_of_row (C := Try.checked) (s := OpenSpec.ofChange Rows.padPacksSpec) own started (by kernel_rfl) Try.func3
    (witness_row_at (enc := enc) (C := Try.checked) false (laidWorld os) #[.string ByteArray.empty, .int .i64 0] rfl (by kernel_rfl) (by kernel_rfl) (by kernel_rfl)
      (OpenSpec.preRow_of_cond 8 hx (by kernel_rfl) (fun k hk => by cases hk) (by kernel_rfl) (laid_met os))) ?_
  intro W base args ds gs before hval hW _ _ _ hL _ _
  exact contract H enc W base args ds gs before hval hW hL

theorem said : Rows.PadPacksSaid :=
  OpenClaim.holds_of_cond 3 Try.f3 rfl rfl rfl rfl rfl rfl rfl ⟨rfl, rfl, rfl, rfl, rfl⟩ rfl rfl rfl rfl rfl (by kernel_rfl) Try.func3 (by kernel_rfl)
    (of_decide_eq_true (by kernel_rfl)) (by unfold Func.isWrapper; first | (rw [if_pos (by decide +kernel)]; kernel_rfl) | (rw [if_neg (by decide +kernel)]; exact ⟨rfl, rfl⟩))
    (fun os started H enc _ F => by rw [OpenClaim.pre_eq_preRow]; exact lifted os started H enc F)


end PadPacks
theorem padPacks_said : Rows.PadPacksSaid := PadPacks.said
end Go.Proofs.Ytlehhalakjjnkaa
