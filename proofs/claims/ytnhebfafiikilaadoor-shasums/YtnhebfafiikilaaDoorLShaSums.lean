/-
  The sum of any texts is the document's, and so are its digits (law ShaSums); for every input.
-/
import Derived.Test.YtnhebfafiikilaaDoorRefOf
namespace Go.Proofs.YtnhebfafiikilaaDoor
open Go.ChangeShapes Go.WideShapes Go.ChangeAt Go.RowKit
open Go.Lib (hid)

namespace ShaSums
set_option maxHeartbeats 4000000 in
set_option maxRecDepth 100000 in
theorem walk (ao : Option Addr) (L : List ByteArray) (cap : Nat) (w : World) (hT : Tabs w) (hA : StrsB w ao L) (hL : L.length ≤ maxLen) (hs : ∀ s ∈ L, s.size ≤ maxLen) :
    Calls Tryd.prog 3 #[.slice ao L.length cap] w fun e w' => e = .returned (.bool true) ∧ Below w.heap.size w w' := by
  have HT := hid hT
  have HA := hid hA
  have HLL := hid hL
  have HSS := hid hs
  clear hT hA hL hs
  go_enter Tryd.func3, Tryd.ntmps3
  go_wp2_with fail
  refine (awake_any _ HT.out).mono ?_
  rintro e w1 ⟨rfl, hb1⟩
  go_wp2_with fail
  refine (few_any ao L cap 5 150 _ (HA.out.below hb1) HLL.out HSS.out (by omega) (by omega)).mono ?_
  rintro e w2 ⟨v, rfl, hown, hb2⟩
  obtain ⟨ao', cap', rfl, hstr⟩ := hown.strs
  have hfl := few_flatten_le L 5 150
  have hflt := few_lt L 5 150
  have hfn : (few L 5 150).length ≤ 5 := by rw [few_length]; omega
  generalize few L 5 150 = F at *
  have HB2 := hid (hb1.next (Nat.le_refl _) hb2)
  have HT2 := hid (HT.out.below HB2.out (Nat.le_refl _))
  have HFLT := hid hflt
  have HSTR := hid hstr
  clear hflt hstr hown hb1 hb2 HA HLL HSS
  go_upto_region 6 with (fail)
  go_loopw [3, 13] (fun al i wr => w2 = wr ∧ ∃ k : Nat, k ≤ F.length ∧ i = .int .i64 k ∧ al = .string (str (F.take k).flatten))
    (fun _ i _ => F.length - (intOf i).toNat)
  case atStart => exact ⟨rfl, 0, Nat.zero_le _, rfl, rfl⟩
  case round =>
    obtain ⟨hw, k, hk, rfl, rfl⟩ := hrel
    subst hw
    by_cases hlt : k < F.length
    · obtain ⟨sb, so, rfl, hc⟩ := HSTR.out k hlt
      have hfs := flatten_take_succ F k hlt
      have hle := flatten_take_le F (k + 1)
      rw [hfs] at hle
      simp only [List.length_append] at hle
      have z1 : (str (F.take k).flatten).size ≤ 1000 := by rw [str_size]; omega
      have z2 : (str (F.getD k [])).size ≤ 1000 := by rw [str_size]; omega
      have HAP := hid (str_append (F.take k).flatten (F.getD k []))
      rw [← hfs] at HAP
      clear hfs hle
      generalize str (F.getD k []) = X at *
      generalize str (F.take k).flatten = Y at *
      go_wp2_with fail
      go_roundw
      case rel =>
        first
          | exact ⟨by trivial, k + 1, by omega, by go_num, by rw [HAP.out]⟩
          | ((repeat apply Exists.intro); refine ⟨?_, rfl⟩; exact ⟨by trivial, k + 1, by omega, by go_num, by rw [HAP.out]⟩)
      case measure => simp [intOf]; omega
    · obtain rfl : k = F.length := by omega
      rw [List.take_length]
      have HOF := hid (of_any F ao' cap' HFLT.out w2 HT2.out HSTR.out (by omega) (by omega))
      have HDL := hid (digest_lt F.flatten)
      have HDN := hid (digest_length F.flatten)
      have HRF := hid (fun wx => refof_any F.flatten HFLT.out (by omega) wx)
      have z1 : (str F.flatten).size ≤ 1000 := by rw [str_size]; omega
      generalize str F.flatten = Y at *
      generalize Sx.digest F.flatten = D at *
      go_wp2_with fail
      refine HOF.out.mono ?_
      rintro e w3 ⟨rfl, hb3⟩
      go_upto_region 11 with (refine wpList_store_row rfl _ _ _ rfl _ _ rfl rfl _ _ (heap_alloc_new _ _) (by rw [ints_size, HDN.out]; exact info26) (by rw [ints_size, HDN.out]; rfl) (ints_one _ _) ?_)
      rw [World.setRow_alloc_new]
      have rd : Row (w3.alloc (.cells (ints .u8 D) 26)) w3.heap.size .u8 26 D := heap_alloc_new _ _
      have HB4 := hid ((HB2.out.next (Nat.le_refl _) hb3).next (Nat.le_refl _) ((Below.refl w3.heap.size w3).alloc (Nat.le_refl _) (.cells (ints .u8 D) 26)))
      generalize w3.alloc _ = w4 at *
      generalize w3.heap.size = bD at *
      have hsz : (ints .u8 D).size = 32 := by rw [ints_size, HDN.out]
      have HSZ := hid hsz
      clear hsz
      go_wp2_with (refine wpList_load_row rfl _ _ rfl bD rfl _ _ _ _ rd Tryd.underlying26 rfl (by rw [HSZ.out]; exact info26) ?_)
      refine (text_any D HDN.out _).mono ?_
      rintro e w5 ⟨rfl, hb5⟩
      go_wp2_with fail
      refine (HRF.out _).mono ?_
      rintro e w6 ⟨rfl, hb6⟩
      have rd6 := (rd.below hb5 rd.lt).below hb6 (rd.below hb5 rd.lt).lt
      have HB6 := hid ((HB4.out.next (Nat.le_refl _) hb5).next (Nat.le_refl _) hb6)
      clear rd hb5 hb6
      go_wp2_with (refine wpList_load_row_g rfl _ _ rfl bD rfl _ _ _ _ rd6 Tryd.underlying26 rfl (by rw [HSZ.out]; exact info26) ?_)
      refine (hex_any D HDN.out (getD_lt (by omega) HDL.out) _).mono ?_
      rintro e w7 ⟨rfl, hb7⟩
      go_wp2_with fail
      refine (HRF.out _).mono ?_
      rintro e w8 ⟨rfl, hb8⟩
      go_wp2_with fail
      refine (refhex_any D HDL.out (by rw [HDN.out]; omega) _).mono ?_
      rintro e w9 ⟨rfl, hb9⟩
      go_wp2_with fail
      go_ret
      exact ⟨rfl, ((HB6.out.next (Nat.le_refl _) hb7).next (Nat.le_refl _) hb8).next (Nat.le_refl _) hb9⟩


theorem contract (H : Type) (enc : TypeId × Value → H) (W : World) (base : Nat) (args : Array Value) (ds gs : List (DataW H)) (before : List MemPlace)
    (hval : ∀ (j : Nat) t v, Tryd.f3.params[j]? = some t → args[j]? = some v → Value.okWide Tryd.prog W .any base t v)
    (hW : DataW.Whole enc Tryd.prog Tryd.f3.params.toList Rows.shaSumsSpec.vars false W args.toList ds gs before) (hL : laidMetH Tryd.prog Rows.shaSumsRow.laid W) :
    Calls Tryd.prog 3 args W fun e W' => ∃ v, e = .returned v ∧ Rows.shaSumsSpec.post enc Tryd.prog Tryd.f3 false true false false W args v W' := by
  have hW' := hW
  obtain ⟨p, q, hA0, hV, rfl, hfz, hnd⟩ := hW
  have hA : DataW.TrodAll enc Tryd.prog W 0 (fun _ => true) true Tryd.f3.params.toList args.toList ds p := hA0
  rw [Tryd.params3] at hA hval
  obtain ⟨v0, vs0, d0, ds0, p0, q0, hargs, rfl, rfl, h0, r0⟩ := trodAll_cons hA
  obtain ⟨rfl, rfl, rfl⟩ := trodAll_nil r0
  obtain rfl : args = #[v0] := by cases args; simp_all
  obtain ⟨ao0, L0, cap0, rfl, hL0, hb0⟩ := open_strs (hval 0 22 v0 rfl rfl) h0
  refine (walk ao0 L0 cap0 W (tabs_of hL) hL0 hb0.1 hb0.2).mono fun e W' ⟨he, hb⟩ => ?_
  subst he
  exact ⟨_, rfl, law_post rfl rfl (by rw [Tryd.params3]; decide +kernel) hW' rfl hb⟩

theorem laid_met (os : Os) : laidMet Tryd.prog Rows.shaSumsRow.laid ((laidWorld os).forCall (fun _ _ => 0) ⟨#[], #[.slice none 0 0], []⟩).memory :=
  laidMet_of_run' 8 (by kernel_rfl) (by kernel_rfl)
theorem reads (os : Os) {H : Type} (enc : TypeId × Value → H) : ∃ places, DataW.whole enc Tryd.prog ((laidWorld os).forCall (fun _ _ => 0) ⟨#[], #[.slice none 0 0], []⟩).memory Tryd.f3.params.toList Rows.shaSumsSpec.vars false (#[.slice none 0 0] : Array Value).toList 8
    = some ([.nil], [], places) :=
  ⟨[], by kernel_rfl⟩

set_option maxRecDepth 100000 in
theorem lifted (os : Os) (started : os.Started) (H : Type) (enc : TypeId × Value → H) (F : Stop.Interp) :
    ReturnsInHanded {} Tryd.checked os 3 .any ((OpenSpec.ofChange Rows.shaSumsSpec).preRow enc Tryd.prog Tryd.f3 Rows.shaSumsRow.domain false Rows.shaSumsRow.laid) (((OpenSpec.ofChange Rows.shaSumsSpec).at F).post enc Tryd.prog Tryd.f3 false true false false) := by
  obtain ⟨places, hx⟩ := reads os enc
  refine returnsInHanded_of_row (C := Tryd.checked) (s := OpenSpec.ofChange Rows.shaSumsSpec) own started (by kernel_rfl) Tryd.func3
    (witness_row_at (enc := enc) (C := Tryd.checked) false (laidWorld os) #[.slice none 0 0] rfl (by kernel_rfl) (by kernel_rfl) (by kernel_rfl)
      (OpenSpec.preRow_of_cond 8 hx (by kernel_rfl) (fun k hk => by cases hk) (by kernel_rfl) (laid_met os))) ?_
  intro W base args ds gs before hval hW _ _ _ hL _ _
  exact contract H enc W base args ds gs before hval hW hL

theorem said : Rows.ShaSumsSaid :=
  OpenClaim.holds_of_cond 3 Tryd.f3 rfl rfl rfl rfl rfl rfl rfl ⟨rfl, rfl, rfl, rfl, rfl⟩ rfl rfl rfl rfl rfl (by kernel_rfl) Tryd.func3 (by kernel_rfl)
    (of_decide_eq_true (by kernel_rfl)) (by unfold Func.isWrapper; first | (rw [if_pos (by decide +kernel)]; kernel_rfl) | (rw [if_neg (by decide +kernel)]; exact ⟨rfl, rfl⟩))
    (fun os started H enc _ F => by rw [OpenClaim.pre_eq_preRow]; exact lifted os started H enc F)

theorem plain (f : FuncId) (fn : Func) (hf : Tryd.pinned.checked.prog.funcNamed "sealwax/sealwaxlaw01.ShaSums" = some f) (hfn : Tryd.pinned.checked.prog.funcs[f]? = some fn) :
    false = Tryd.pinned.checked.prog.looks [] ∧ ∀ (j : Nat) t, fn.params[j]? = some t → Tryd.pinned.checked.prog.wantsStandIn t = false := by
  obtain rfl : f = 3 := Option.some.inj ((show Tryd.prog.funcNamed "sealwax/sealwaxlaw01.ShaSums" = some 3 by kernel_rfl).symm.trans hf) |>.symm
  obtain rfl : fn = Tryd.f3 := (Option.some.inj (Tryd.func3.symm.trans hfn)).symm
  refine ⟨by kernel_rfl, fun j t ht => ?_⟩
  rw [Tryd.params3] at ht
  have hmem := Array.mem_of_getElem? ht
  exact (show ∀ t ∈ (Tryd.f3.params), Tryd.prog.wantsStandIn t = false from by rw [Tryd.params3]; decide +kernel) t (by rw [Tryd.params3]; exact hmem)

theorem card : Rows.ShaSumsCardSaid :=
  Claim7.holds_tied_plain_at .later [] _ _ _ _ said (fun _ h => by cases h) (by kernel_rfl) (fun _ h => by cases h) shaSums_row_tie rfl ⟨rfl, rfl⟩ (by kernel_rfl) rfl plain (by kernel_rfl)

end ShaSums
theorem shaSums_card : Rows.ShaSumsCardSaid := ShaSums.card
end Go.Proofs.YtnhebfafiikilaaDoor
