/-
  The sum with a key of any texts is the document's (law MacSums); for every input.
-/
import Derived.Test.YtnhebfafiikilaaDoorLMacKeys
namespace Go.Proofs.YtnhebfafiikilaaDoor
open Go.ChangeShapes Go.WideShapes Go.ChangeAt Go.RowKit
open Go.Lib (hid)

/-- mac.Of at a slice of one text. -/
theorem mac_at (k x : List Nat) (hk : ∀ z ∈ k, z < 256) (hkl : k.length ≤ 1000000) (hx : ∀ z ∈ x, z < 256) (hl : x.length ≤ 100000000) (w : World) (hT : Tabs w) (t : TypeId) :
    Calls Tryd.prog 26 #[.string (str k), .slice (some ⟨w.heap.size, 0, none⟩) 1 1] (w.alloc (.cells #[.string (str x)] t)) fun e w' => e = .returned (.agg (ints .u8 (Sx.hmac k x))) ∧ Below w.heap.size w w' := by
  have h := mac_any k hk hkl [x] (some ⟨w.heap.size, 0, none⟩) 1 (by simpa using hx) (w.alloc (.cells #[.string (str x)] t)) (hT.below ((Below.refl _ _).alloc (Nat.le_refl _) _) (Nat.le_refl _)) (strs_one w x t) (by simp; omega) (by simp)
  simp only [List.flatten_cons, List.flatten_nil, List.append_nil] at h
  exact h.mono fun e w' ⟨he, hb⟩ => ⟨he, ((Below.refl _ _).alloc (Nat.le_refl _) _).trans (hb.mono (by simp))⟩

namespace MacSums
set_option maxHeartbeats 4000000 in
set_option maxRecDepth 100000 in
theorem walk (s0 : ByteArray) (ao : Option Addr) (L : List ByteArray) (cap : Nat) (hs0 : s0.size ≤ maxLen) (w : World) (hT : Tabs w) (hA : StrsB w ao L) (hL : L.length ≤ maxLen) (hs : ∀ s ∈ L, s.size ≤ maxLen) :
    Calls Tryd.prog 8 #[.string s0, .slice ao L.length cap] w fun e w' => e = .returned (.bool true) ∧ Below w.heap.size w w' := by
  have HT := hid hT
  have HA := hid hA
  have HLL := hid hL
  have HSS := hid hs
  have HC0 := hid (fun wx => cut_any s0 150 wx hs0 (by omega))
  have a0 := cut_lt s0 150
  have l0 := cut_le s0 150
  generalize (nums s0).take 150 = k at *
  have HK := hid a0
  clear hT hA hL hs a0
  go_enter Tryd.func8, Tryd.ntmps8
  go_wp2_with fail
  refine (awake2_any _ HT.out).mono ?_
  rintro e w1 ⟨rfl, hb1⟩
  go_wp2_with fail
  refine (HC0.out _).mono ?_
  rintro e w1' ⟨rfl, rfl⟩
  go_wp2_with fail
  refine (few_any ao L cap 5 80 _ (HA.out.below hb1) HLL.out HSS.out (by omega) (by omega)).mono ?_
  rintro e w2 ⟨v, rfl, hown, hb2⟩
  obtain ⟨ao', cap', rfl, hstr⟩ := hown.strs
  have hfl := few_flatten_le L 5 80
  have hflt := few_lt L 5 80
  have hfn : (few L 5 80).length ≤ 5 := by rw [few_length]; omega
  generalize few L 5 80 = F at *
  have HB2 := hid (hb1.next (Nat.le_refl _) hb2)
  have HT2 := hid (HT.out.below HB2.out (Nat.le_refl _))
  have HFLT := hid hflt
  have HSTR := hid hstr
  clear hflt hstr hown hb1 hb2 HA HLL HSS HC0
  go_upto_region 6 with (fail)
  go_loopw [5, 16] (fun al i wr => w2 = wr ∧ ∃ k : Nat, k ≤ F.length ∧ i = .int .i64 k ∧ al = .string (str (F.take k).flatten))
    (fun _ i _ => F.length - (intOf i).toNat)
  case atStart => exact ⟨rfl, 0, Nat.zero_le _, rfl, rfl⟩
  case round =>
    obtain ⟨hw, j, hk, rfl, rfl⟩ := hrel
    subst hw
    by_cases hlt : j < F.length
    · obtain ⟨sb, so, rfl, hc⟩ := HSTR.out j hlt
      have hfs := flatten_take_succ F j hlt
      have hle := flatten_take_le F (j + 1)
      rw [hfs] at hle
      simp only [List.length_append] at hle
      have z1 : (str (F.take j).flatten).size ≤ 1000 := by rw [str_size]; omega
      have z2 : (str (F.getD j [])).size ≤ 1000 := by rw [str_size]; omega
      have HAP := hid (str_append (F.take j).flatten (F.getD j []))
      rw [← hfs] at HAP
      clear hfs hle
      generalize str (F.getD j []) = X at *
      generalize str (F.take j).flatten = Y at *
      go_wp2_with fail
      go_roundw
      case rel =>
        first
          | exact ⟨by trivial, j + 1, by omega, by go_num, by rw [HAP.out]⟩
          | ((repeat apply Exists.intro); refine ⟨?_, rfl⟩; exact ⟨by trivial, j + 1, by omega, by go_num, by rw [HAP.out]⟩)
      case measure => simp [intOf]; omega
    · obtain rfl : j = F.length := by omega
      rw [List.take_length]
      have HOF := hid (fun wx hx hS => mac_any k HK.out (by omega) F ao' cap' HFLT.out wx hx hS (by omega) (by omega))
      have HDL := hid (show ∀ x ∈ Sx.hmac k F.flatten, x < 256 from digest_lt _)
      have HDN := hid (show (Sx.hmac k F.flatten).length = 32 from digest_length _)
      have HRF := hid (fun wx => refmac_any k F.flatten HK.out (by omega) HFLT.out (by omega) wx)
      have HO1 := hid (fun wx hx => mac_at k F.flatten HK.out (by omega) HFLT.out (by omega) wx hx 9)
      have heq := fun wx => eql_sums wx (Sx.hmac k F.flatten) (Sx.hmac k F.flatten) HDL.out HDL.out HDN.out HDN.out
      have hDD : (Sx.hmac k F.flatten == Sx.hmac k F.flatten) = true := beq_self_eq_true _
      rw [hDD] at heq
      clear hDD
      have z1 : (str F.flatten).size ≤ 1000 := by rw [str_size]; omega
      generalize str F.flatten = Y at *
      generalize Sx.hmac k F.flatten = D at *
      generalize str k = K at *
      go_wp2_with fail
      refine (HOF.out _ HT2.out HSTR.out).mono ?_
      rintro e w3 ⟨rfl, hb3⟩
      go_wp2_with fail
      refine (text_any D HDN.out _).mono ?_
      rintro e w5 ⟨rfl, hb5⟩
      go_wp2_with fail
      refine (HRF.out _).mono ?_
      rintro e w6 ⟨rfl, hb6⟩
      have HB6 := hid ((hb3.next (Nat.le_refl _) hb5).next (Nat.le_refl _) hb6)
      clear hb3 hb5 hb6
      go_wp2_with fail
      refine (HO1.out _ (HT2.out.below HB6.out (Nat.le_refl _))).mono ?_
      rintro e w7 ⟨rfl, hb7⟩
      have HB7 := hid (HB6.out.next (Nat.le_refl _) hb7)
      clear hb7
      go_wp2_with fail
      refine (HOF.out _ (HT2.out.below HB7.out (Nat.le_refl _)) (HSTR.out.below HB7.out)).mono ?_
      rintro e w8 ⟨rfl, hb8⟩
      go_wp2_with fail
      go_ret
      exact ⟨rfl, (HB2.out.next (Nat.le_refl _) HB7.out).next (Nat.le_refl _) hb8⟩


theorem contract (H : Type) (enc : TypeId × Value → H) (W : World) (base : Nat) (args : Array Value) (ds gs : List (DataW H)) (before : List MemPlace)
    (hval : ∀ (j : Nat) t v, Tryd.f8.params[j]? = some t → args[j]? = some v → Value.okWide Tryd.prog W .any base t v)
    (hW : DataW.Whole enc Tryd.prog Tryd.f8.params.toList Rows.macSumsSpec.vars false W args.toList ds gs before) (hL : laidMetH Tryd.prog Rows.macSumsRow.laid W) :
    Calls Tryd.prog 8 args W fun e W' => ∃ v, e = .returned v ∧ Rows.macSumsSpec.post enc Tryd.prog Tryd.f8 false true false false W args v W' := by
  have hW' := hW
  obtain ⟨p, q, hA0, hV, rfl, hfz, hnd⟩ := hW
  have hA : DataW.TrodAll enc Tryd.prog W 0 (fun _ => true) true Tryd.f8.params.toList args.toList ds p := hA0
  rw [Tryd.params8] at hA hval
  obtain ⟨v0, vs0, d0, ds0, p0, q0, hargs, rfl, rfl, h0, r0⟩ := trodAll_cons hA
  obtain ⟨v1, vs1, d1, ds1, p1, q1, rfl, rfl, rfl, h1, r1⟩ := trodAll_cons r0
  obtain ⟨rfl, rfl, rfl⟩ := trodAll_nil r1
  obtain rfl : args = #[v0, v1] := by cases args; simp_all
  obtain ⟨s0, rfl, rfl, rfl, hs0⟩ := Go.ChangeMaps.open_string Tryd.underlying9 (hval 0 9 v0 rfl rfl) h0
  obtain ⟨ao1, L1, cap1, rfl, hL1, hb1⟩ := open_strs (hval 1 22 v1 rfl rfl) h1
  refine (walk s0 ao1 L1 cap1 hs0 W (tabs_of hL) hL1 hb1.1 hb1.2).mono fun e W' ⟨he, hb⟩ => ?_
  subst he
  exact ⟨_, rfl, law_post rfl rfl (by rw [Tryd.params8]; decide +kernel) hW' rfl hb⟩

theorem laid_met (os : Os) : laidMet Tryd.prog Rows.macSumsRow.laid ((laidWorld os).forCall (fun _ _ => 0) ⟨#[], #[.string ByteArray.empty, .slice none 0 0], []⟩).memory :=
  laidMet_of_run' 8 (by kernel_rfl) (by kernel_rfl)
theorem reads (os : Os) {H : Type} (enc : TypeId × Value → H) : ∃ places, DataW.whole enc Tryd.prog ((laidWorld os).forCall (fun _ _ => 0) ⟨#[], #[.string ByteArray.empty, .slice none 0 0], []⟩).memory Tryd.f8.params.toList Rows.macSumsSpec.vars false (#[.string ByteArray.empty, .slice none 0 0] : Array Value).toList 8
    = some ([.lit (.string []), .nil], [], places) :=
  ⟨[], by kernel_rfl⟩

set_option maxRecDepth 100000 in
theorem lifted (os : Os) (started : os.Started) (H : Type) (enc : TypeId × Value → H) (F : Stop.Interp) :
    ReturnsInHanded {} Tryd.checked os 8 .any ((OpenSpec.ofChange Rows.macSumsSpec).preRow enc Tryd.prog Tryd.f8 Rows.macSumsRow.domain false Rows.macSumsRow.laid) (((OpenSpec.ofChange Rows.macSumsSpec).at F).post enc Tryd.prog Tryd.f8 false true false false) := by
  obtain ⟨places, hx⟩ := reads os enc
  refine returnsInHanded_of_row (C := Tryd.checked) (s := OpenSpec.ofChange Rows.macSumsSpec) own started (by kernel_rfl) Tryd.func8
    (witness_row_at (enc := enc) (C := Tryd.checked) false (laidWorld os) #[.string ByteArray.empty, .slice none 0 0] rfl (by kernel_rfl) (by kernel_rfl) (by kernel_rfl)
      (OpenSpec.preRow_of_cond 8 hx (by kernel_rfl) (fun k hk => by cases hk) (by kernel_rfl) (laid_met os))) ?_
  intro W base args ds gs before hval hW _ _ _ hL _ _
  exact contract H enc W base args ds gs before hval hW hL

theorem said : Rows.MacSumsSaid :=
  OpenClaim.holds_of_cond 8 Tryd.f8 rfl rfl rfl rfl rfl rfl rfl ⟨rfl, rfl, rfl, rfl, rfl⟩ rfl rfl rfl rfl rfl (by kernel_rfl) Tryd.func8 (by kernel_rfl)
    (of_decide_eq_true (by kernel_rfl)) (by unfold Func.isWrapper; first | (rw [if_pos (by decide +kernel)]; kernel_rfl) | (rw [if_neg (by decide +kernel)]; exact ⟨rfl, rfl⟩))
    (fun os started H enc _ F => by rw [OpenClaim.pre_eq_preRow]; exact lifted os started H enc F)

theorem plain (f : FuncId) (fn : Func) (hf : Tryd.pinned.checked.prog.funcNamed "sealwax/sealwaxlaw02.MacSums" = some f) (hfn : Tryd.pinned.checked.prog.funcs[f]? = some fn) :
    false = Tryd.pinned.checked.prog.looks [] ∧ ∀ (j : Nat) t, fn.params[j]? = some t → Tryd.pinned.checked.prog.wantsStandIn t = false := by
  obtain rfl : f = 8 := Option.some.inj ((show Tryd.prog.funcNamed "sealwax/sealwaxlaw02.MacSums" = some 8 by kernel_rfl).symm.trans hf) |>.symm
  obtain rfl : fn = Tryd.f8 := (Option.some.inj (Tryd.func8.symm.trans hfn)).symm
  refine ⟨by kernel_rfl, fun j t ht => ?_⟩
  rw [Tryd.params8] at ht
  have hmem := Array.mem_of_getElem? ht
  exact (show ∀ t ∈ (Tryd.f8.params), Tryd.prog.wantsStandIn t = false from by rw [Tryd.params8]; decide +kernel) t (by rw [Tryd.params8]; exact hmem)

theorem card : Rows.MacSumsCardSaid :=
  Claim7.holds_tied_plain_at .later [] _ _ _ _ said (fun _ h => by cases h) (by kernel_rfl) (fun _ h => by cases h) macSums_row_tie rfl ⟨rfl, rfl⟩ (by kernel_rfl) rfl plain (by kernel_rfl)

end MacSums
theorem macSums_card : Rows.MacSumsCardSaid := MacSums.card
end Go.Proofs.YtnhebfafiikilaaDoor
