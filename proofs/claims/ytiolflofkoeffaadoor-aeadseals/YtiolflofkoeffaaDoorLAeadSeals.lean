/-
  What is sealed is the document's, and is opened (law AeadSeals); for every input.
-/
import Derived.Test.YtiolflofkoeffaaDoorLAeadP
import Derived.Test.YtiolflofkoeffaaDoorRef5b
namespace Go.Proofs.YtiolflofkoeffaaDoor
open Go.ChangeShapes Go.WideShapes Go.ChangeAt Go.RowKit
open Go.Lib (hid)

namespace AeadSeals
noncomputable def laidWorld := laidWorld5
set_option maxHeartbeats 4000000 in
set_option maxRecDepth 100000 in
theorem walk (key : List Nat) (c : Nat) (nonce : List Nat) (kl : key.length = 32) (kb : ∀ x ∈ key, x < 256) (nl : nonce.length = 12) (nb : ∀ x ∈ nonce, x < 256) (ad s : ByteArray) (ha : ad.size ≤ maxLen) (hs : s.size ≤ maxLen) (w : World) (hT : TabK w ∧ TabQ w) :
    Calls Tryd.prog 7 #[.agg (plC key c nonce), .string ad, .string s] w fun e w' => e = .returned (.bool true) ∧ Below w.heap.size w w' := by
  have HC1 := hid (fun wx => cut_any ad 60 wx ha (by omega))
  have HC2 := hid (fun wx => cut_any s 150 wx hs (by omega))
  obtain ⟨a, haa⟩ : ∃ t, t = (nums ad).take 60 := ⟨_, rfl⟩
  obtain ⟨p, htt⟩ : ∃ t, t = (nums s).take 150 := ⟨_, rfl⟩
  have ab : ∀ x ∈ a, x < 256 := by rw [haa]; exact fun x hx => nums_lt ad x (List.mem_of_mem_take hx)
  have tb : ∀ x ∈ p, x < 256 := by rw [htt]; exact fun x hx => nums_lt s x (List.mem_of_mem_take hx)
  have al : a.length ≤ 60 := by rw [haa, List.length_take]; omega
  have tl : p.length ≤ 150 := by rw [htt, List.length_take]; omega
  rw [← haa, show ((60 : Nat) : Int) = 60 from rfl] at HC1
  rw [← htt, show ((150 : Nat) : Int) = 150 from rfl] at HC2
  have HSE := hid (fun wx hx hy => aseal_any key nonce a p kb kl nb nl ab (by omega) tb (by omega) wx hx hy)
  have HO2 := hid (fun wx hx hy => aopen_any key nonce a (Ax.sealed key nonce a p) kb kl nb nl ab (by omega) (Ax.sealed_lt key nonce a p tb) (by rw [Ax.sealed_length]; omega) wx hx hy)
  rw [Ax.opened_sealed, show Ax.openedV (some p) = .tuple #[.string (str p), .bool true] from rfl] at HO2
  have HRS := hid (fun wx => rseal_any key nonce a p kb kl nb nl ab (by omega) tb (by omega) wx)
  have HKY := hid (fun wx => lkey_any key kl wx)
  have HNO := hid (fun wx => lnonce_any nonce nl wx)
  have hz : (str (Ax.sealed key nonce a p)).size = p.length + 16 := by rw [str_size, Ax.sealed_length]
  have hzp := str_size p
  have I1 := hid (show (Tryd.prog.info? 23).map (·.size) = some (ints .u8 key).toList.length from by rw [ints_llen, kl]; exact info23)
  have I2 := hid (show (Tryd.prog.info? 26).map (·.size) = some (ints .u8 nonce).toList.length from by rw [ints_llen, nl]; exact info26)
  have KL := hid kl
  have HT := hid hT
  clear hT kb nb kl nl ab tb al haa htt ha hs
  generalize str (Ax.sealed key nonce a p) = SE at *
  generalize str a = SA at *
  generalize str p = SP at *
  generalize str key = SK at *
  generalize str nonce = SN at *
  go_enter Tryd.func7, Tryd.ntmps7
  obtain ⟨PC, hPC⟩ : ∃ PC, PC = plC key c nonce := ⟨_, rfl⟩
  rw [← hPC]
  have HPC := hid hPC
  clear hPC
  go_upto_region 1 with (fail)
  have hp0 : (w.alloc (.cells (PC) 28)).heap[w.heap.size]? = some (.cells (PC) 28 (0, 0)) := heap_alloc_new _ _
  have hb0 : Below w.heap.size w (w.alloc (.cells (PC) 28)) := (Below.refl _ _).alloc (Nat.le_refl _) _
  generalize w.alloc _ = w0 at *
  have HS0 := hid (show Pl5 w w.heap.size PC w0 from ⟨⟨hp0, HT.out.2.below hb0 (Nat.le_refl _), hb0, hb0.size⟩, HT.out.1.below hb0 (Nat.le_refl _)⟩)
  clear hp0 hb0
  go_wp2_with fail
  refine (awake5_any _ HS0.out.1.2.1 HS0.out.2).mono ?_
  rintro e w1 ⟨rfl, hb1⟩
  have HS1 := hid (HS0.out.keep hb1)
  clear hb1 HS0
  have RK := hid (HS1.out.rk HPC.out)
  have RN := hid (HS1.out.rn HPC.out KL.out)
  go_upto_region 5 with (first
    | (refine wpList_load_mid rfl _ _ rfl w.heap.size 0 rfl _ _ RK.out Tryd.underlying23 rfl I1.out ?_; rw [Array.toArray_toList])
    | (refine wpList_load_mid rfl _ _ rfl w.heap.size 33 rfl _ _ RN.out Tryd.underlying26 rfl I2.out ?_; rw [Array.toArray_toList])
    | (go_at_call 20; with_reducible refine (HC1.out _).mono ?_; rintro e w2 ⟨rfl, hw2⟩; obtain rfl : w1 = w2 := hw2)
    | (go_at_call 20; with_reducible refine (HC2.out _).mono ?_; rintro e w2 ⟨rfl, hw2⟩; obtain rfl : w1 = w2 := hw2)
    | (go_at_call 22; refine (HSE.out _ HS1.out.1.2.1 HS1.out.2).mono ?_; rintro e w3 ⟨rfl, hb3⟩))
  have HS3 := hid (HS1.out.keep hb3)
  clear hb3 RK RN HS1
  have RK := hid (HS3.out.rk HPC.out)
  have RN := hid (HS3.out.rn HPC.out KL.out)
  go_upto_region 6 with (first
    | (refine wpList_load_mid rfl _ _ rfl w.heap.size 0 rfl _ _ RK.out Tryd.underlying23 rfl I1.out ?_; rw [Array.toArray_toList])
    | (refine wpList_load_mid rfl _ _ rfl w.heap.size 33 rfl _ _ RN.out Tryd.underlying26 rfl I2.out ?_; rw [Array.toArray_toList])
    | (go_at_call 23; refine (HO2.out _ HS3.out.1.2.1 HS3.out.2).mono ?_; rintro e w4 ⟨rfl, hb4⟩))
  have HS4 := hid (HS3.out.keep hb4)
  clear hb4 RK RN HS3
  refine wp_region_class (Pl5 w w.heap.size PC) (by kernel_rfl) (by kernel_rfl) (HS4.out.keep ((Below.refl _ _).drew)) ?_
  intro Z φ hne hSφ hφ
  have HSZ := hid hSφ
  have RK := hid (show ∀ u : World, (∃ z, u = φ z) → u.rangeAt w.heap.size 0 (ints .u8 key).toList from fun u ⟨z, hz⟩ => by rw [hz]; exact (hSφ z).rk HPC.out)
  have RN := hid (show ∀ u : World, (∃ z, u = φ z) → u.rangeAt w.heap.size 33 (ints .u8 nonce).toList from fun u ⟨z, hz⟩ => by rw [hz]; exact (hSφ z).rn HPC.out KL.out)
  have C1 := hid (fun z => calls_class hφ ((HKY.out (φ z)).mono fun e w' h => ⟨h.1, (hSφ z).keep h.2⟩))
  have C2 := hid (fun z => calls_class hφ ((HNO.out (φ z)).mono fun e w' h => ⟨h.1, (hSφ z).keep h.2⟩))
  have C3 := hid (fun z => calls_class hφ ((HRS.out (φ z)).mono fun e w' h => ⟨h.1, (hSφ z).keep h.2⟩))
  clear hSφ hφ
  repeat (first
    | (refine wpQuiet_load_arr rfl _ _ rfl w.heap.size 0 rfl _ _ RK.out Tryd.underlying23 rfl I1.out ?_; simp only [Act.put, List.setIfInBounds_toArray, List.set_cons_zero, List.set_cons_succ])
    | (refine wpQuiet_load_arr rfl _ _ rfl w.heap.size 33 rfl _ _ RN.out Tryd.underlying26 rfl I2.out ?_; simp only [Act.put, List.setIfInBounds_toArray, List.set_cons_zero, List.set_cons_succ])
    | go_big_quiet_step (first | (go_at_call 25; exact C1.out _) | (go_at_call 26; exact C2.out _) | (go_at_call 24; exact C3.out _)))
  refine wpQuiet_nil ?_
  intro z
  go_wp2
  go_ret
  exact ⟨rfl, (HSZ.out z).1.2.2.1⟩


set_option maxRecDepth 100000 in
theorem contract (H : Type) (enc : TypeId × Value → H) (W : World) (base : Nat) (args : Array Value) (ds gs : List (DataW H)) (before : List MemPlace)
    (hval : ∀ (j : Nat) t v, Tryd.f7.params[j]? = some t → args[j]? = some v → Value.okWide Tryd.prog W .any base t v)
    (hW : DataW.Whole enc Tryd.prog Tryd.f7.params.toList Rows.aeadSealsSpec.vars false W args.toList ds gs before) (hL : laidMetH Tryd.prog Rows.aeadSealsRow.laid W) :
    Calls Tryd.prog 7 args W fun e W' => ∃ v, e = .returned v ∧ Rows.aeadSealsSpec.post enc Tryd.prog Tryd.f7 false true false false W args v W' := by
  have hW' := hW
  obtain ⟨p, q, hA0, hV, rfl, hfz, hnd⟩ := hW
  have hA : DataW.TrodAll enc Tryd.prog W 0 (fun _ => true) true Tryd.f7.params.toList args.toList ds p := hA0
  rw [Tryd.params7] at hA hval
  obtain ⟨v0, vs0, d0, ds0, p0, q0, hargs, rfl, rfl, h0, r0⟩ := trodAll_cons hA
  obtain ⟨v1, vs1, d1, ds1, p1, q1, rfl, rfl, rfl, h1, r1⟩ := trodAll_cons r0
  obtain ⟨v2, vs2, d2, ds2, p2, q2, rfl, rfl, rfl, h2, r2⟩ := trodAll_cons r1
  obtain ⟨rfl, rfl, rfl⟩ := trodAll_nil r2
  obtain rfl : args = #[v0, v1, v2] := by cases args; simp_all
  obtain ⟨key0, c0, nonce0, rfl, kl0, kb0, nl0, nb0, cb0⟩ := open_place (hval 0 28 v0 rfl rfl) h0
  obtain ⟨s1, rfl, rfl, rfl, hs1⟩ := Go.ChangeMaps.open_string Tryd.underlying9 (hval 1 9 v1 rfl rfl) h1
  obtain ⟨s2, rfl, rfl, rfl, hs2⟩ := Go.ChangeMaps.open_string Tryd.underlying9 (hval 2 9 v2 rfl rfl) h2
  refine (walk key0 c0 nonce0 kl0 kb0 nl0 nb0 s1 s2 hs1 hs2 W (tabs5_of hL)).mono fun e W' ⟨he, hb⟩ => ?_
  subst he
  exact ⟨_, rfl, law_post rfl rfl (by rw [Tryd.params7]; decide +kernel) hW' rfl hb⟩

theorem laid_met (os : Os) : laidMet Tryd.prog Rows.aeadSealsRow.laid ((laidWorld os).forCall (fun _ _ => 0) ⟨#[], #[.agg (plC (List.replicate 32 0) 0 (List.replicate 12 0)), .string ByteArray.empty, .string ByteArray.empty], []⟩).memory :=
  laidMet_of_run' 8 (by kernel_rfl) (by kernel_rfl)
theorem reads (os : Os) {H : Type} (enc : TypeId × Value → H) : ∃ places, DataW.whole enc Tryd.prog ((laidWorld os).forCall (fun _ _ => 0) ⟨#[], #[.agg (plC (List.replicate 32 0) 0 (List.replicate 12 0)), .string ByteArray.empty, .string ByteArray.empty], []⟩).memory Tryd.f7.params.toList Rows.aeadSealsSpec.vars false (#[.agg (plC (List.replicate 32 0) 0 (List.replicate 12 0)), .string ByteArray.empty, .string ByteArray.empty] : Array Value).toList 8
    = some ([.agg [.agg (List.replicate 32 (.lit (.int .u8 0))), .lit (.int .u32 0), .agg (List.replicate 12 (.lit (.int .u8 0)))], .lit (.string []), .lit (.string [])], [], places) :=
  ⟨[], by kernel_rfl⟩

set_option maxRecDepth 100000 in
theorem lifted (os : Os) (started : os.Started) (H : Type) (enc : TypeId × Value → H) (F : Stop.Interp) :
    ReturnsInHanded {} Tryd.checked os 7 .any ((OpenSpec.ofChange Rows.aeadSealsSpec).preRow enc Tryd.prog Tryd.f7 Rows.aeadSealsRow.domain false Rows.aeadSealsRow.laid) (((OpenSpec.ofChange Rows.aeadSealsSpec).at F).post enc Tryd.prog Tryd.f7 false true false false) := by
  obtain ⟨places, hx⟩ := reads os enc
  refine returnsInHanded_of_row (C := Tryd.checked) (s := OpenSpec.ofChange Rows.aeadSealsSpec) own started (by kernel_rfl) Tryd.func7
    (witness_row_at (enc := enc) (C := Tryd.checked) false (laidWorld os) #[.agg (plC (List.replicate 32 0) 0 (List.replicate 12 0)), .string ByteArray.empty, .string ByteArray.empty] rfl (by kernel_rfl) (by kernel_rfl) (by kernel_rfl)
      (OpenSpec.preRow_of_cond 8 hx (by kernel_rfl) (fun k hk => by cases hk) (by kernel_rfl) (laid_met os))) ?_
  intro W base args ds gs before hval hW _ _ _ hL _ _
  exact contract H enc W base args ds gs before hval hW hL

theorem said : Rows.AeadSealsSaid :=
  OpenClaim.holds_of_cond 7 Tryd.f7 rfl rfl rfl rfl rfl rfl rfl ⟨rfl, rfl, rfl, rfl, rfl⟩ rfl rfl rfl rfl rfl (by kernel_rfl) Tryd.func7 (by kernel_rfl)
    (of_decide_eq_true (by kernel_rfl)) (by unfold Func.isWrapper; first | (rw [if_pos (by decide +kernel)]; kernel_rfl) | (rw [if_neg (by decide +kernel)]; exact ⟨rfl, rfl⟩))
    (fun os started H enc _ F => by rw [OpenClaim.pre_eq_preRow]; exact lifted os started H enc F)

theorem plain (f : FuncId) (fn : Func) (hf : Tryd.pinned.checked.prog.funcNamed "sealwax/sealwaxlaw05.AeadSeals" = some f) (hfn : Tryd.pinned.checked.prog.funcs[f]? = some fn) :
    false = Tryd.pinned.checked.prog.looks [] ∧ ∀ (j : Nat) t, fn.params[j]? = some t → Tryd.pinned.checked.prog.wantsStandIn t = false := by
  obtain rfl : f = 7 := Option.some.inj ((show Tryd.prog.funcNamed "sealwax/sealwaxlaw05.AeadSeals" = some 7 by kernel_rfl).symm.trans hf) |>.symm
  obtain rfl : fn = Tryd.f7 := (Option.some.inj (Tryd.func7.symm.trans hfn)).symm
  refine ⟨by kernel_rfl, fun j t ht => ?_⟩
  rw [Tryd.params7] at ht
  have hmem := Array.mem_of_getElem? ht
  exact (show ∀ t ∈ (Tryd.f7.params), Tryd.prog.wantsStandIn t = false from by rw [Tryd.params7]; decide +kernel) t (by rw [Tryd.params7]; exact hmem)

theorem card : Rows.AeadSealsCardSaid :=
  Claim7.holds_tied_plain_at .later [] _ _ _ _ said (fun _ h => by cases h) (by kernel_rfl) (fun _ h => by cases h) aeadSeals_row_tie rfl ⟨rfl, rfl⟩ (by kernel_rfl) rfl plain (by kernel_rfl)

end AeadSeals
theorem aeadSeals_card : Rows.AeadSealsCardSaid := AeadSeals.card
end Go.Proofs.YtiolflofkoeffaaDoor
