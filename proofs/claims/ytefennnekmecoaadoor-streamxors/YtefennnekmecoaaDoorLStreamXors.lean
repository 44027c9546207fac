/-
  A text is xored as the document says, and twice is nothing (law StreamXors); for every input.
-/
import Derived.Test.YtefennnekmecoaaDoorLXor
namespace Go.Proofs.YtefennnekmecoaaDoor
open Go.ChangeShapes Go.WideShapes Go.ChangeAt Go.RowKit
open Go.Lib (hid)

namespace StreamXors
set_option maxHeartbeats 2000000 in
set_option maxRecDepth 100000 in
theorem walk (key : List Nat) (c : Nat) (nonce : List Nat) (kl : key.length = 32) (kb : ∀ x ∈ key, x < 256) (nl : nonce.length = 12) (nb : ∀ x ∈ nonce, x < 256) (cb : c < Sx.M) (s : ByteArray) (hs : s.size ≤ maxLen) (w : World) (hT : TabQ w) :
    Calls Tryd.prog 3 #[.agg (plC key c nonce), .string s] w fun e w' => e = .returned (.bool true) ∧ Below w.heap.size w w' := by
  have HT := hid hT
  have HCUT := hid (fun wx => cut_any s 200 wx hs (by omega))
  obtain ⟨t, ht⟩ : ∃ t, t = (nums s).take 200 := ⟨_, rfl⟩
  have tb : ∀ x ∈ t, x < 256 := by rw [ht]; exact fun x hx => nums_lt s x (List.mem_of_mem_take hx)
  have tl : t.length ≤ 200 := by rw [ht, List.length_take]; omega
  rw [← ht] at HCUT
  have HX1 := hid (fun wx hx => xor_any key nonce t c kb kl nb nl cb tb (by omega) wx hx)
  have HX2 := hid (fun wx hx => xor_any key nonce (Cx.xors key c nonce t) c kb kl nb nl cb (Cx.xors_lt key c nonce t tb) (by rw [Cx.xors_length]; omega) wx hx)
  rw [Cx.xors_xors] at HX2
  have HRX := hid (fun wx => refxor_any key nonce t c kb kl nb nl cb tb (by omega) wx)
  have HLK := hid (fun wx => lkey_any key kl wx)
  have HLN := hid (fun wx => lnonce_any nonce nl wx)
  have hc32 : (c : Int) < 4294967296 := by unfold Sx.M at cb; omega
  have i1 : (Tryd.prog.info? 23).map (·.size) = some (ints .u8 key).toList.length := by rw [ints_llen, kl]; exact info23
  have i2 : (Tryd.prog.info? 26).map (·.size) = some (ints .u8 nonce).toList.length := by rw [ints_llen, nl]; exact info26
  have I1 := hid i1
  have I2 := hid i2
  have HC32 := hid (fun _ : Nat => hc32)
  have KL := hid kl
  have NL := hid nl
  clear hT kb nb cb i1 i2 hc32 kl nl tb tl ht
  generalize str (Cx.xors key c nonce t) = SX at *
  generalize str t = ST at *
  go_enter Tryd.func3, Tryd.ntmps3
  obtain ⟨PC, hPC⟩ : ∃ PC, PC = plC key c nonce := ⟨_, rfl⟩
  rw [← hPC]
  have HPC := hid hPC
  clear hPC
  go_upto_region 1 with (fail)
  have hp0 : (w.alloc (.cells (PC) 28)).heap[w.heap.size]? = some (.cells (PC) 28 (0, 0)) := heap_alloc_new _ _
  have hb0 : Below w.heap.size w (w.alloc (.cells (PC) 28)) := (Below.refl _ _).alloc (Nat.le_refl _) _
  generalize w.alloc _ = w0 at *
  have HS0 := hid (show PlS w w.heap.size PC w0 from ⟨hp0, HT.out.below hb0 (Nat.le_refl _), hb0, hb0.size⟩)
  clear hp0 hb0
  go_wp2_with fail
  refine (awake3_any _ HS0.out.2.1).mono ?_
  rintro e w1 ⟨rfl, hb1⟩
  have HS1 := hid (HS0.out.keep hb1)
  clear hb1 HS0
  have hp1' := HS1.out.1
  rw [HPC.out] at hp1'
  have rc := plC_ctr hp1' KL.out
  have RK := hid (plC_key hp1')
  have RN := hid (plC_nonce hp1' KL.out)
  clear hp1'
  go_upto_region 5 with (first
    | (refine wpList_load_mid rfl _ _ rfl w.heap.size 0 rfl _ _ RK.out Tryd.underlying23 rfl I1.out ?_; rw [Array.toArray_toList])
    | (refine wpList_load_mid rfl _ _ rfl w.heap.size 33 rfl _ _ RN.out Tryd.underlying26 rfl I2.out ?_; rw [Array.toArray_toList])
    | (go_at_call 17; refine (HCUT.out _).mono ?_; rintro e w2 ⟨rfl, hw2⟩; obtain rfl : w1 = w2 := hw2)
    | (go_at_call 18; refine (HX1.out _ HS1.out.2.1).mono ?_; rintro e w3 ⟨rfl, hb3⟩))
  have HS2 := hid (HS1.out.keep hb3)
  clear hb3 rc RK RN HS1
  refine wp_region_class (PlS w w.heap.size PC) (by kernel_rfl) (by kernel_rfl) (HS2.out.keep ((Below.refl _ _).drew)) ?_
  intro Z φ hne hSφ hφ
  have HSZ := hid hSφ
  have hpl := fun z => show (φ z).heap[w.heap.size]? = some (.cells (plC key c nonce) 28 (0, 0)) from by rw [← HPC.out]; exact (hSφ z).1
  have hrc := fun z => plC_ctr (hpl z) KL.out
  have HK1 := hid (show ∀ u : World, (∃ z, u = φ z) → u.rangeAt w.heap.size 0 (ints .u8 key).toList from fun u ⟨z, hz⟩ => by rw [hz]; exact plC_key (hpl z))
  have HK2 := hid (show ∀ u : World, (∃ z, u = φ z) → u.rangeAt w.heap.size 33 (ints .u8 nonce).toList from fun u ⟨z, hz⟩ => by rw [hz]; exact plC_nonce (hpl z) KL.out)
  clear hpl
  have C1 := hid (fun z => calls_class hφ ((HLK.out (φ z)).mono fun e w' h => ⟨h.1, (hSφ z).keep h.2⟩))
  have C2 := hid (fun z => calls_class hφ ((HLN.out (φ z)).mono fun e w' h => ⟨h.1, (hSφ z).keep h.2⟩))
  have C3 := hid (fun z => calls_class hφ ((HRX.out (φ z)).mono fun e w' h => ⟨h.1, (hSφ z).keep h.2⟩))
  have C4 := hid (fun z => calls_class hφ ((HX2.out (φ z) (hSφ z).2.1).mono fun e w' h => ⟨h.1, (hSφ z).keep h.2⟩))
  clear hSφ hφ
  have hc32 := HC32.out 0
  generalize str key = SK at *
  generalize str nonce = SN at *
  repeat (first
    | (refine wpQuiet_load_arr rfl _ _ rfl w.heap.size 0 rfl _ _ HK1.out Tryd.underlying23 rfl I1.out ?_; simp only [Act.put, List.setIfInBounds_toArray, List.set_cons_zero, List.set_cons_succ])
    | (refine wpQuiet_load_arr rfl _ _ rfl w.heap.size 33 rfl _ _ HK2.out Tryd.underlying26 rfl I2.out ?_; simp only [Act.put, List.setIfInBounds_toArray, List.set_cons_zero, List.set_cons_succ])
    | go_big_quiet_step (first | (go_at_call 20; exact C1.out _) | (go_at_call 21; exact C2.out _) | (go_at_call 19; exact C3.out _) | (go_at_call 18; exact C4.out _)))
  refine wpQuiet_nil ?_
  intro z
  go_wp2
  go_ret
  exact ⟨rfl, (HSZ.out z).2.2.1⟩


set_option maxRecDepth 100000 in
theorem contract (H : Type) (enc : TypeId × Value → H) (W : World) (base : Nat) (args : Array Value) (ds gs : List (DataW H)) (before : List MemPlace)
    (hval : ∀ (j : Nat) t v, Tryd.f3.params[j]? = some t → args[j]? = some v → Value.okWide Tryd.prog W .any base t v)
    (hW : DataW.Whole enc Tryd.prog Tryd.f3.params.toList Rows.streamXorsSpec.vars false W args.toList ds gs before) (hL : laidMetH Tryd.prog Rows.streamXorsRow.laid W) :
    Calls Tryd.prog 3 args W fun e W' => ∃ v, e = .returned v ∧ Rows.streamXorsSpec.post enc Tryd.prog Tryd.f3 false true false false W args v W' := by
  have hW' := hW
  obtain ⟨p, q, hA0, hV, rfl, hfz, hnd⟩ := hW
  have hA : DataW.TrodAll enc Tryd.prog W 0 (fun _ => true) true Tryd.f3.params.toList args.toList ds p := hA0
  rw [Tryd.params3] at hA hval
  obtain ⟨v0, vs0, d0, ds0, p0, q0, hargs, rfl, rfl, h0, r0⟩ := trodAll_cons hA
  obtain ⟨v1, vs1, d1, ds1, p1, q1, rfl, rfl, rfl, h1, r1⟩ := trodAll_cons r0
  obtain ⟨rfl, rfl, rfl⟩ := trodAll_nil r1
  obtain rfl : args = #[v0, v1] := by cases args; simp_all
  obtain ⟨key0, c0, nonce0, rfl, kl0, kb0, nl0, nb0, cb0⟩ := open_place (hval 0 28 v0 rfl rfl) h0
  obtain ⟨s1, rfl, rfl, rfl, hs1⟩ := Go.ChangeMaps.open_string Tryd.underlying9 (hval 1 9 v1 rfl rfl) h1
  refine (walk key0 c0 nonce0 kl0 kb0 nl0 nb0 cb0 s1 hs1 W (tabq_of hL)).mono fun e W' ⟨he, hb⟩ => ?_
  subst he
  exact ⟨_, rfl, law_post rfl rfl (by rw [Tryd.params3]; decide +kernel) hW' rfl hb⟩

theorem laid_met (os : Os) : laidMet Tryd.prog Rows.streamXorsRow.laid ((laidWorld os).forCall (fun _ _ => 0) ⟨#[], #[.agg (plC (List.replicate 32 0) 0 (List.replicate 12 0)), .string ByteArray.empty], []⟩).memory :=
  laidMet_of_run' 8 (by kernel_rfl) (by kernel_rfl)
theorem reads (os : Os) {H : Type} (enc : TypeId × Value → H) : ∃ places, DataW.whole enc Tryd.prog ((laidWorld os).forCall (fun _ _ => 0) ⟨#[], #[.agg (plC (List.replicate 32 0) 0 (List.replicate 12 0)), .string ByteArray.empty], []⟩).memory Tryd.f3.params.toList Rows.streamXorsSpec.vars false (#[.agg (plC (List.replicate 32 0) 0 (List.replicate 12 0)), .string ByteArray.empty] : Array Value).toList 8
    = some ([.agg [.agg (List.replicate 32 (.lit (.int .u8 0))), .lit (.int .u32 0), .agg (List.replicate 12 (.lit (.int .u8 0)))], .lit (.string [])], [], places) :=
  ⟨[], by kernel_rfl⟩

set_option maxRecDepth 100000 in
theorem lifted (os : Os) (started : os.Started) (H : Type) (enc : TypeId × Value → H) (F : Stop.Interp) :
    ReturnsInHanded {} Tryd.checked os 3 .any ((OpenSpec.ofChange Rows.streamXorsSpec).preRow enc Tryd.prog Tryd.f3 Rows.streamXorsRow.domain false Rows.streamXorsRow.laid) (((OpenSpec.ofChange Rows.streamXorsSpec).at F).post enc Tryd.prog Tryd.f3 false true false false) := by
  obtain ⟨places, hx⟩ := reads os enc
  refine returnsInHanded_of_row (C := Tryd.checked) (s := OpenSpec.ofChange Rows.streamXorsSpec) own started (by kernel_rfl) Tryd.func3
    (witness_row_at (enc := enc) (C := Tryd.checked) false (laidWorld os) #[.agg (plC (List.replicate 32 0) 0 (List.replicate 12 0)), .string ByteArray.empty] rfl (by kernel_rfl) (by kernel_rfl) (by kernel_rfl)
      (OpenSpec.preRow_of_cond 8 hx (by kernel_rfl) (fun k hk => by cases hk) (by kernel_rfl) (laid_met os))) ?_
  intro W base args ds gs before hval hW _ _ _ hL _ _
  exact contract H enc W base args ds gs before hval hW hL

theorem said : Rows.StreamXorsSaid :=
  OpenClaim.holds_of_cond 3 Tryd.f3 rfl rfl rfl rfl rfl rfl rfl ⟨rfl, rfl, rfl, rfl, rfl⟩ rfl rfl rfl rfl rfl (by kernel_rfl) Tryd.func3 (by kernel_rfl)
    (of_decide_eq_true (by kernel_rfl)) (by unfold Func.isWrapper; first | (rw [if_pos (by decide +kernel)]; kernel_rfl) | (rw [if_neg (by decide +kernel)]; exact ⟨rfl, rfl⟩))
    (fun os started H enc _ F => by rw [OpenClaim.pre_eq_preRow]; exact lifted os started H enc F)

theorem plain (f : FuncId) (fn : Func) (hf : Tryd.pinned.checked.prog.funcNamed "sealwax/sealwaxlaw03.StreamXors" = some f) (hfn : Tryd.pinned.checked.prog.funcs[f]? = some fn) :
    false = Tryd.pinned.checked.prog.looks [] ∧ ∀ (j : Nat) t, fn.params[j]? = some t → Tryd.pinned.checked.prog.wantsStandIn t = false := by
  obtain rfl : f = 3 := Option.some.inj ((show Tryd.prog.funcNamed "sealwax/sealwaxlaw03.StreamXors" = some 3 by kernel_rfl).symm.trans hf) |>.symm
  obtain rfl : fn = Tryd.f3 := (Option.some.inj (Tryd.func3.symm.trans hfn)).symm
  refine ⟨by kernel_rfl, fun j t ht => ?_⟩
  rw [Tryd.params3] at ht
  have hmem := Array.mem_of_getElem? ht
  exact (show ∀ t ∈ (Tryd.f3.params), Tryd.prog.wantsStandIn t = false from by rw [Tryd.params3]; decide +kernel) t (by rw [Tryd.params3]; exact hmem)

theorem card : Rows.StreamXorsCardSaid :=
  Claim7.holds_tied_plain_at .later [] _ _ _ _ said (fun _ h => by cases h) (by kernel_rfl) (fun _ h => by cases h) streamXors_row_tie rfl ⟨rfl, rfl⟩ (by kernel_rfl) rfl plain (by kernel_rfl)

end StreamXors
theorem streamXors_card : Rows.StreamXorsCardSaid := StreamXors.card
end Go.Proofs.YtefennnekmecoaaDoor
