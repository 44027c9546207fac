/-
  Bytes out of a key are the document's; more of them begin with fewer (law MacExpands); for every input.
-/
import Derived.Test.YtnhebfafiikilaaDoorLMacKeys
namespace Go.Proofs.YtnhebfafiikilaaDoor
open Go.ChangeShapes Go.WideShapes Go.ChangeAt Go.RowKit
open Go.Lib (hid)

namespace MacExpands
theorem clamp_max (n : Int) (h : n ≤ 300) : (if (0 : Int) < n then n else 0) = ((Sx.clamp n : Nat) : Int) := by
  have e : Sx.clamp n = n.toNat := by
    unfold Sx.clamp
    split
    · omega
    · rw [if_neg (by omega)]
  rw [e]
  split <;> omega
theorem clamp_300 (n : Int) (h : n ≤ 300) : Sx.clamp n ≤ 300 := by unfold Sx.clamp; split <;> (try split) <;> omega


set_option maxHeartbeats 4000000 in
set_option maxRecDepth 100000 in
theorem walk (s0 s1 : ByteArray) (n : Int) (hs0 : s0.size ≤ maxLen) (hs1 : s1.size ≤ maxLen) (w : World) (hT : Tabs w) :
    Calls Tryd.prog 10 #[.string s0, .string s1, .int .i64 n] w fun e w' => e = .returned (.bool true) ∧ Below w.heap.size w w' := by
  have HT := hid hT
  have HC0 := hid (fun wx => cut_any s0 80 wx hs0 (by omega))
  have HC1 := hid (fun wx => cut_any s1 40 wx hs1 (by omega))
  have a0 := cut_lt s0 80
  have a1 := cut_lt s1 40
  have l0 := cut_le s0 80
  have l1 := cut_le s1 40
  generalize (nums s0).take 80 = k at *
  generalize (nums s1).take 40 = f at *
  clear hT
  by_cases h300 : 300 < n
  · obtain ⟨m, hme⟩ : ∃ m : Int, m = 300 := ⟨_, rfl⟩
    have hm : m ≤ 300 := by omega
    have hN := clamp_300 m hm
    have hmx := clamp_max m hm
    have HE := hid (fun wx hx => exp_any k f m a0 (by omega) a1 (by omega) wx hx)
    have HL := hid (fun wx hx => exp_any k f 320 a0 (by omega) a1 (by omega) wx hx)
    rw [show Sx.clamp 320 = 320 from rfl] at HL
    have HR := hid (fun wx => refexp_any k f m a0 (by omega) a1 (by omega) wx)
    generalize Sx.clamp m = N at *
    rw [hme] at HE HR hmx
    clear hm hme
    have hN3 : N = 300 := by rw [if_pos (by decide)] at hmx; omega
    have z1 : (str (Sx.expand k f N)).size = N := by rw [str_size, Sx.expand_length]
    have z2 : (str (Sx.expand k f 320)).size = 320 := by rw [str_size, Sx.expand_length]
    have hex : (str (Sx.expand k f 320)).extract 0 N = str (Sx.expand k f N) := by
      have := extract_mid (Sx.expand k f 320) (Sx.expand_lt k f 320) 0 N
      rw [Nat.zero_add] at this
      rw [this, List.drop_zero, Sx.expand_take k f N 320 (by omega)]
    have hex3 : (str (Sx.expand k f 320)).extract 0 300 = str (Sx.expand k f N) := by
      have := hex
      rwa [show (str (Sx.expand k f 320)).extract 0 N = (str (Sx.expand k f 320)).extract 0 300 from by rw [hN3]] at this
    clear hN3
    clear a0 a1
    generalize str (Sx.expand k f 320) = S2 at *
    generalize str (Sx.expand k f N) = S1 at *
    generalize str k = K at *
    generalize str f = F at *
    go_enter Tryd.func10, Tryd.ntmps10
    go_wp2_with fail
    refine (awake2_any _ HT.out).mono ?_
    rintro e w1 ⟨rfl, hb1⟩
    have HT1 := hid (HT.out.below hb1 (Nat.le_refl _))
    go_wp2_with fail
    refine (HC0.out _).mono ?_
    rintro e w1' ⟨rfl, rfl⟩
    go_wp2_with fail
    refine (HC1.out _).mono ?_
    rintro e w1' ⟨rfl, rfl⟩
    go_wp2_with fail
    refine (HE.out _ HT1.out).mono ?_
    rintro e w2 ⟨rfl, hb2⟩
    have HT2 := hid (HT1.out.below hb2 (Nat.le_refl _))
    go_wp2_with fail
    refine (HL.out _ HT2.out).mono ?_
    rintro e w3 ⟨rfl, hb3⟩
    go_wp2_with fail
    refine (HR.out _).mono ?_
    rintro e w4 ⟨rfl, hb4⟩
    go_wp2_with fail
    go_ret
    exact ⟨rfl, ((hb1.next (Nat.le_refl _) hb2).next (Nat.le_refl _) hb3).next (Nat.le_refl _) hb4⟩
  · obtain ⟨m, hme⟩ : ∃ m : Int, m = n := ⟨_, rfl⟩
    have hm : m ≤ 300 := by omega
    have hN := clamp_300 m hm
    have hmx := clamp_max m hm
    have HE := hid (fun wx hx => exp_any k f m a0 (by omega) a1 (by omega) wx hx)
    have HL := hid (fun wx hx => exp_any k f 320 a0 (by omega) a1 (by omega) wx hx)
    rw [show Sx.clamp 320 = 320 from rfl] at HL
    have HR := hid (fun wx => refexp_any k f m a0 (by omega) a1 (by omega) wx)
    generalize Sx.clamp m = N at *
    rw [hme] at HE HR hmx
    clear hm hme
    have z1 : (str (Sx.expand k f N)).size = N := by rw [str_size, Sx.expand_length]
    have z2 : (str (Sx.expand k f 320)).size = 320 := by rw [str_size, Sx.expand_length]
    have hex : (str (Sx.expand k f 320)).extract 0 N = str (Sx.expand k f N) := by
      have := extract_mid (Sx.expand k f 320) (Sx.expand_lt k f 320) 0 N
      rw [Nat.zero_add] at this
      rw [this, List.drop_zero, Sx.expand_take k f N 320 (by omega)]
    clear a0 a1
    generalize str (Sx.expand k f 320) = S2 at *
    generalize str (Sx.expand k f N) = S1 at *
    generalize str k = K at *
    generalize str f = F at *
    go_enter Tryd.func10, Tryd.ntmps10
    go_wp2_with fail
    refine (awake2_any _ HT.out).mono ?_
    rintro e w1 ⟨rfl, hb1⟩
    have HT1 := hid (HT.out.below hb1 (Nat.le_refl _))
    go_wp2_with fail
    refine (HC0.out _).mono ?_
    rintro e w1' ⟨rfl, rfl⟩
    go_wp2_with fail
    refine (HC1.out _).mono ?_
    rintro e w1' ⟨rfl, rfl⟩
    go_wp2_with fail
    refine (HE.out _ HT1.out).mono ?_
    rintro e w2 ⟨rfl, hb2⟩
    have HT2 := hid (HT1.out.below hb2 (Nat.le_refl _))
    go_wp2_with fail
    refine (HL.out _ HT2.out).mono ?_
    rintro e w3 ⟨rfl, hb3⟩
    go_wp2_with fail
    refine (HR.out _).mono ?_
    rintro e w4 ⟨rfl, hb4⟩
    go_wp2_with fail
    go_ret
    exact ⟨rfl, ((hb1.next (Nat.le_refl _) hb2).next (Nat.le_refl _) hb3).next (Nat.le_refl _) hb4⟩


theorem contract (H : Type) (enc : TypeId × Value → H) (W : World) (base : Nat) (args : Array Value) (ds gs : List (DataW H)) (before : List MemPlace)
    (hval : ∀ (j : Nat) t v, Tryd.f10.params[j]? = some t → args[j]? = some v → Value.okWide Tryd.prog W .any base t v)
    (hW : DataW.Whole enc Tryd.prog Tryd.f10.params.toList Rows.macExpandsSpec.vars false W args.toList ds gs before) (hL : laidMetH Tryd.prog Rows.macExpandsRow.laid W) :
    Calls Tryd.prog 10 args W fun e W' => ∃ v, e = .returned v ∧ Rows.macExpandsSpec.post enc Tryd.prog Tryd.f10 false true false false W args v W' := by
  have hW' := hW
  obtain ⟨p, q, hA0, hV, rfl, hfz, hnd⟩ := hW
  have hA : DataW.TrodAll enc Tryd.prog W 0 (fun _ => true) true Tryd.f10.params.toList args.toList ds p := hA0
  rw [Tryd.params10] at hA hval
  obtain ⟨v0, vs0, d0, ds0, p0, q0, hargs, rfl, rfl, h0, r0⟩ := trodAll_cons hA
  obtain ⟨v1, vs1, d1, ds1, p1, q1, rfl, rfl, rfl, h1, r1⟩ := trodAll_cons r0
  obtain ⟨v2, vs2, d2, ds2, p2, q2, rfl, rfl, rfl, h2, r2⟩ := trodAll_cons r1
  obtain ⟨rfl, rfl, rfl⟩ := trodAll_nil r2
  obtain rfl : args = #[v0, v1, v2] := by cases args; simp_all
  obtain ⟨s0, rfl, rfl, rfl, hs0⟩ := Go.ChangeMaps.open_string Tryd.underlying9 (hval 0 9 v0 rfl rfl) h0
  obtain ⟨s1, rfl, rfl, rfl, hs1⟩ := Go.ChangeMaps.open_string Tryd.underlying9 (hval 1 9 v1 rfl rfl) h1
  obtain ⟨n2, rfl, rfl, rfl, wn2⟩ := open_int Tryd.underlying3 (hval 2 3 v2 rfl rfl) h2
  refine (walk s0 s1 n2 hs0 hs1 W (tabs_of hL)).mono fun e W' ⟨he, hb⟩ => ?_
  subst he
  exact ⟨_, rfl, law_post rfl rfl (by rw [Tryd.params10]; decide +kernel) hW' rfl hb⟩

theorem laid_met (os : Os) : laidMet Tryd.prog Rows.macExpandsRow.laid ((laidWorld os).forCall (fun _ _ => 0) ⟨#[], #[.string ByteArray.empty, .string ByteArray.empty, .int .i64 0], []⟩).memory :=
  laidMet_of_run' 8 (by kernel_rfl) (by kernel_rfl)
theorem reads (os : Os) {H : Type} (enc : TypeId × Value → H) : ∃ places, DataW.whole enc Tryd.prog ((laidWorld os).forCall (fun _ _ => 0) ⟨#[], #[.string ByteArray.empty, .string ByteArray.empty, .int .i64 0], []⟩).memory Tryd.f10.params.toList Rows.macExpandsSpec.vars false (#[.string ByteArray.empty, .string ByteArray.empty, .int .i64 0] : Array Value).toList 8
    = some ([.lit (.string []), .lit (.string []), .lit (.int .i64 0)], [], places) :=
  ⟨[], by kernel_rfl⟩

set_option maxRecDepth 100000 in
theorem lifted (os : Os) (started : os.Started) (H : Type) (enc : TypeId × Value → H) (F : Stop.Interp) :
    ReturnsInHanded {} Tryd.checked os 10 .any ((OpenSpec.ofChange Rows.macExpandsSpec).preRow enc Tryd.prog Tryd.f10 Rows.macExpandsRow.domain false Rows.macExpandsRow.laid) (((OpenSpec.ofChange Rows.macExpandsSpec).at F).post enc Tryd.prog Tryd.f10 false true false false) := by
  obtain ⟨places, hx⟩ := reads os enc
  refine returnsInHanded_of_row (C := Tryd.checked) (s := OpenSpec.ofChange Rows.macExpandsSpec) own started (by kernel_rfl) Tryd.func10
    (witness_row_at (enc := enc) (C := Tryd.checked) false (laidWorld os) #[.string ByteArray.empty, .string ByteArray.empty, .int .i64 0] rfl (by kernel_rfl) (by kernel_rfl) (by kernel_rfl)
      (OpenSpec.preRow_of_cond 8 hx (by kernel_rfl) (fun k hk => by cases hk) (by kernel_rfl) (laid_met os))) ?_
  intro W base args ds gs before hval hW _ _ _ hL _ _
  exact contract H enc W base args ds gs before hval hW hL

theorem said : Rows.MacExpandsSaid :=
  OpenClaim.holds_of_cond 10 Tryd.f10 rfl rfl rfl rfl rfl rfl rfl ⟨rfl, rfl, rfl, rfl, rfl⟩ rfl rfl rfl rfl rfl (by kernel_rfl) Tryd.func10 (by kernel_rfl)
    (of_decide_eq_true (by kernel_rfl)) (by unfold Func.isWrapper; first | (rw [if_pos (by decide +kernel)]; kernel_rfl) | (rw [if_neg (by decide +kernel)]; exact ⟨rfl, rfl⟩))
    (fun os started H enc _ F => by rw [OpenClaim.pre_eq_preRow]; exact lifted os started H enc F)

theorem plain (f : FuncId) (fn : Func) (hf : Tryd.pinned.checked.prog.funcNamed "sealwax/sealwaxlaw02.MacExpands" = some f) (hfn : Tryd.pinned.checked.prog.funcs[f]? = some fn) :
    false = Tryd.pinned.checked.prog.looks [] ∧ ∀ (j : Nat) t, fn.params[j]? = some t → Tryd.pinned.checked.prog.wantsStandIn t = false := by
  obtain rfl : f = 10 := Option.some.inj ((show Tryd.prog.funcNamed "sealwax/sealwaxlaw02.MacExpands" = some 10 by kernel_rfl).symm.trans hf) |>.symm
  obtain rfl : fn = Tryd.f10 := (Option.some.inj (Tryd.func10.symm.trans hfn)).symm
  refine ⟨by kernel_rfl, fun j t ht => ?_⟩
  rw [Tryd.params10] at ht
  have hmem := Array.mem_of_getElem? ht
  exact (show ∀ t ∈ (Tryd.f10.params), Tryd.prog.wantsStandIn t = false from by rw [Tryd.params10]; decide +kernel) t (by rw [Tryd.params10]; exact hmem)

theorem card : Rows.MacExpandsCardSaid :=
  Claim7.holds_tied_plain_at .later [] _ _ _ _ said (fun _ h => by cases h) (by kernel_rfl) (fun _ h => by cases h) macExpands_row_tie rfl ⟨rfl, rfl⟩ (by kernel_rfl) rfl plain (by kernel_rfl)

end MacExpands
theorem macExpands_card : Rows.MacExpandsCardSaid := MacExpands.card
end Go.Proofs.YtnhebfafiikilaaDoor
