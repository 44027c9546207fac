/-
  Of any pages there is just the document's text, if there is one (law PadUnpacks); for every input.
-/
import Derived.Test.YtlehhalakjjnkaaLPad
namespace Go.Proofs.Ytlehhalakjjnkaa
open Go.ChangeShapes Go.WideShapes Go.ChangeAt Go.RowKit
open Go.Lib (hid)

theorem bool_self (b : Bool) : (b == b) = true := by cases b <;> rfl
namespace PadUnpacks
set_option maxHeartbeats 1000000 in
set_option maxRecDepth 100000 in
theorem walk (ao : Option Addr) (L : List ByteArray) (cap : Nat) (w : World) (hA : StrsB w ao L) (hL : L.length ≤ maxLen) (hs : ∀ s ∈ L, s.size ≤ maxLen) :
    Calls Try.prog 4 #[.slice ao L.length cap] w fun e w' => e = .returned (.bool true) ∧ Below w.heap.size w w' := by
  have HA := hid hA
  have HFW := hid (fun wx hx => few_any ao L cap 6 245 wx hx hL hs (by omega) (by omega))
  obtain ⟨F, hF⟩ : ∃ F, F = few L 6 245 := ⟨_, rfl⟩
  have hFl : F.length ≤ 6 := by rw [hF, few_length]; omega
  have HFB := hid (show ∀ x ∈ F.flatten, x < 256 from by rw [hF]; exact few_lt L 6 245)
  have hFF : F.flatten.length ≤ 1470 := by rw [hF]; exact few_flatten_le L 6 245
  rw [← hF] at HFW
  clear hA hL hs hF
  go_enter Try.func4, Try.ntmps4
  go_upto_region 3 with (go_at_call 7; refine (awake12_any _).mono ?_; rintro e w0 ⟨rfl, hb0⟩)
  have HA0 := hid (HA.out.below hb0)
  go_wp2_with fail
  refine (HFW.out _ HA0.out).mono ?_
  rintro e w1 ⟨v, rfl, hown, hb1⟩
  have HB1 := hid (hb0.trans (hb1.mono hb0.size))
  obtain ⟨a, c, rfl, hst, hcap, _⟩ := hown.capP
  have HU := hid (fun wx hx => unpack_any a F c wx hx hcap (by omega) HFB.out (by omega))
  have HR := hid (fun wx hx => runpack_any a F c wx hx (by omega) HFB.out (by omega))
  have HST := hid hst
  clear hown hst hb1 hb0 HFW HA HA0 hcap
  go_wp2_with fail
  refine (HU.out _ HST.out).mono ?_
  rintro e w2 ⟨rfl, hb2⟩
  have HB2 := hid (HB1.out.trans (hb2.mono HB1.out.size))
  have HST2 := hid (HST.out.below hb2)
  clear hb2 HB1 HST HU
  go_wp2_with fail
  refine (HR.out _ HST2.out).mono ?_
  rintro e w3 ⟨rfl, hb3⟩
  have HB3 := hid (HB2.out.trans (hb3.mono HB2.out.size))
  clear hb3 HB2 HST2 HR
  have hq := bool_self (Pd.uok F)
  generalize str (Pd.out F) = S at *
  generalize Pd.uok F = q at *
  go_wp2
  go_ret
  exact ⟨by rfl, HB3.out⟩

set_option maxRecDepth 100000 in
theorem contract (H : Type) (enc : TypeId × Value → H) (W : World) (base : Nat) (args : Array Value) (ds gs : List (DataW H)) (before : List MemPlace)
    (hval : ∀ (j : Nat) t v, Try.f4.params[j]? = some t → args[j]? = some v → Value.okWide Try.prog W .any base t v)
    (hW : DataW.Whole enc Try.prog Try.f4.params.toList Rows.padUnpacksSpec.vars false W args.toList ds gs before) (hL : laidMetH Try.prog Rows.padUnpacksRow.laid W) :
    Calls Try.prog 4 args W fun e W' => ∃ v, e = .returned v ∧ Rows.padUnpacksSpec.post enc Try.prog Try.f4 false true false false W args v W' := by
  have hW' := hW
  obtain ⟨p, q, hA0, hV, rfl, hfz, hnd⟩ := hW
  have hA : DataW.TrodAll enc Try.prog W 0 (fun _ => true) true Try.f4.params.toList args.toList ds p := hA0
  rw [Try.params4] at hA hval
  obtain ⟨v0, vs0, d0, ds0, p0, q0, hargs, rfl, rfl, h0, r0⟩ := trodAll_cons hA
  obtain ⟨rfl, rfl, rfl⟩ := trodAll_nil r0
  obtain rfl : args = #[v0] := by cases args; simp_all
  obtain ⟨ao0, L0, cap0, rfl, hL0, hb0⟩ := open_strs (hval 0 24 v0 rfl rfl) h0
  refine (walk ao0 L0 cap0 W hL0 hb0.1 hb0.2).mono fun e W' ⟨he, hb⟩ => ?_
  subst he
  exact ⟨_, rfl, law_post rfl rfl (by rw [Try.params4]; decide +kernel) hW' rfl hb⟩

theorem laid_met (os : Os) : laidMet Try.prog Rows.padUnpacksRow.laid ((laidWorld os).forCall (fun _ _ => 0) ⟨#[], #[.slice none 0 0], []⟩).memory :=
  laidMet_of_run' 8 (by kernel_rfl) (by kernel_rfl)
theorem reads (os : Os) {H : Type} (enc : TypeId × Value → H) : ∃ places, DataW.whole enc Try.prog ((laidWorld os).forCall (fun _ _ => 0) ⟨#[], #[.slice none 0 0], []⟩).memory Try.f4.params.toList Rows.padUnpacksSpec.vars false (#[.slice none 0 0] : Array Value).toList 8
    = some ([.nil], [], places) :=
  ⟨[], by kernel_rfl⟩

set_option maxRecDepth 100000 in
theorem lifted (os : Os) (started : os.Started) (H : Type) (enc : TypeId × Value → H) (F : Stop.Interp) :
    ReturnsInHanded {} Try.checked os 4 .any ((OpenSpec.ofChange Rows.padUnpacksSpec).preRow enc Try.prog Try.f4 Rows.padUnpacksRow.domain false Rows.padUnpacksRow.laid) (((OpenSpec.ofChange Rows.padUnpacksSpec).at F).post enc Try.prog Try.f4 false true false false) := by
  obtain ⟨places, hx⟩ := reads os enc
  refine returnsInHanded_of_row (C := Try.checked) (s := OpenSpec.ofChange Rows.padUnpacksSpec) own started (by kernel_rfl) Try.func4
    (witness_row_at (enc := enc) (C := Try.checked) false (laidWorld os) #[.slice none 0 0] rfl (by kernel_rfl) (by kernel_rfl) (by kernel_rfl)
      (OpenSpec.preRow_of_cond 8 hx (by kernel_rfl) (fun k hk => by cases hk) (by kernel_rfl) (laid_met os))) ?_
  intro W base args ds gs before hval hW _ _ _ hL _ _
  exact contract H enc W base args ds gs before hval hW hL

theorem said : Rows.PadUnpacksSaid :=
  OpenClaim.holds_of_cond 4 Try.f4 rfl rfl rfl rfl rfl rfl rfl ⟨rfl, rfl, rfl, rfl, rfl⟩ rfl rfl rfl rfl rfl (by kernel_rfl) Try.func4 (by kernel_rfl)
    (of_decide_eq_true (by kernel_rfl)) (by unfold Func.isWrapper; first | (rw [if_pos (by decide +kernel)]; kernel_rfl) | (rw [if_neg (by decide +kernel)]; exact ⟨rfl, rfl⟩))
    (fun os started H enc _ F => by rw [OpenClaim.pre_eq_preRow]; exact lifted os started H enc F)


end PadUnpacks
theorem padUnpacks_said : Rows.PadUnpacksSaid := PadUnpacks.said
end Go.Proofs.Ytlehhalakjjnkaa
