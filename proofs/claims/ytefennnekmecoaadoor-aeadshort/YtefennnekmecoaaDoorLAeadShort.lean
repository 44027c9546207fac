/-
  Of fewer than 16 bytes nothing is opened; of no bytes just the tag is sealed (law AeadShort); for every input.
-/
import Derived.Test.YtefennnekmecoaaDoorLAead
namespace Go.Proofs.YtefennnekmecoaaDoor
open Go.ChangeShapes Go.WideShapes Go.ChangeAt Go.RowKit
open Go.Lib (hid)

/-- The worlds behind w in which a place still lies at bp, and both tables. -/
def Pl5 (w : World) (bp : Nat) (PC : Array Value) (u : World) : Prop := PlS w bp PC u ∧ TabK u
theorem Pl5.keep {w : World} {bp : Nat} {PC : Array Value} {u u' : World} (h : Pl5 w bp PC u) (hb : Below u.heap.size u u') : Pl5 w bp PC u' :=
  ⟨h.1.keep hb, h.2.below hb (Nat.le_refl _)⟩
theorem Pl5.rk {w u : World} {bp : Nat} {PC : Array Value} {key nonce : List Nat} {c : Nat} (h : Pl5 w bp PC u) (hP : PC = plC key c nonce) : u.rangeAt bp 0 (ints .u8 key).toList := by
  have h1 := h.1.1; rw [hP] at h1; exact plC_key h1
theorem Pl5.rn {w u : World} {bp : Nat} {PC : Array Value} {key nonce : List Nat} {c : Nat} (h : Pl5 w bp PC u) (hP : PC = plC key c nonce) (kl : key.length = 32) : u.rangeAt bp 33 (ints .u8 nonce).toList := by
  have h1 := h.1.1; rw [hP] at h1; exact plC_nonce h1 kl

namespace AeadShort
noncomputable def laidWorld := laidWorld5
set_option maxHeartbeats 2000000 in
set_option maxRecDepth 100000 in
theorem walk (key : List Nat) (c : Nat) (nonce : List Nat) (kl : key.length = 32) (kb : ∀ x ∈ key, x < 256) (nl : nonce.length = 12) (nb : ∀ x ∈ nonce, x < 256) (ad s : ByteArray) (ha : ad.size ≤ maxLen) (hs : s.size ≤ maxLen) (w : World) (hT : TabK w ∧ TabQ w) :
    Calls Tryd.prog 15 #[.agg (plC key c nonce), .string ad, .string s] w fun e w' => e = .returned (.bool true) ∧ Below w.heap.size w w' := by
  have HC1 := hid (fun wx => cut_any ad 60 wx ha (by omega))
  have HC2 := hid (fun wx => cut_any s 15 wx hs (by omega))
  obtain ⟨a, haa⟩ : ∃ t, t = (nums ad).take 60 := ⟨_, rfl⟩
  obtain ⟨t, htt⟩ : ∃ t, t = (nums s).take 15 := ⟨_, rfl⟩
  have ab : ∀ x ∈ a, x < 256 := by rw [haa]; exact fun x hx => nums_lt ad x (List.mem_of_mem_take hx)
  have tb : ∀ x ∈ t, x < 256 := by rw [htt]; exact fun x hx => nums_lt s x (List.mem_of_mem_take hx)
  have al : a.length ≤ 60 := by rw [haa, List.length_take]; omega
  have tl : t.length ≤ 15 := by rw [htt, List.length_take]; omega
  rw [← haa, show ((60 : Nat) : Int) = 60 from rfl] at HC1
  rw [← htt, show ((15 : Nat) : Int) = 15 from rfl] at HC2
  have HO1 := hid (fun wx hx hy => aopen_any key nonce a t kb kl nb nl ab (by omega) tb (by omega) wx hx hy)
  rw [show Ax.openedV (Ax.opened key nonce a t) = .tuple #[.string ⟨#[]⟩, .bool false] from by unfold Ax.opened; rw [if_pos (by omega)]; rfl] at HO1
  have HSE := hid (fun wx hx hy => aseal_any key nonce a [] kb kl nb nl ab (by omega) (by simp) (by simp) wx hx hy)
  rw [show str [] = ⟨#[]⟩ from rfl] at HSE
  have HO2 := hid (fun wx hx hy => aopen_any key nonce a (Ax.sealed key nonce a []) kb kl nb nl ab (by omega) (Ax.sealed_lt key nonce a [] (by simp)) (by rw [Ax.sealed_length]; simp) wx hx hy)
  rw [Ax.opened_sealed, show Ax.openedV (some []) = .tuple #[.string ⟨#[]⟩, .bool true] from rfl] at HO2
  have hz : (str (Ax.sealed key nonce a [])).size = 16 := by rw [str_size, Ax.sealed_length]; rfl
  have I1 := hid (show (Tryd.prog.info? 23).map (·.size) = some (ints .u8 key).toList.length from by rw [ints_llen, kl]; exact info23)
  have I2 := hid (show (Tryd.prog.info? 26).map (·.size) = some (ints .u8 nonce).toList.length from by rw [ints_llen, nl]; exact info26)
  have KL := hid kl
  have HT := hid hT
  clear hT kb nb kl nl ab tb al tl haa htt ha hs
  generalize str (Ax.sealed key nonce a []) = SE at *
  generalize str a = SA at *
  generalize str t = ST at *
  go_enter Tryd.func15, Tryd.ntmps15
  obtain ⟨PC, hPC⟩ : ∃ PC, PC = plC key c nonce := ⟨_, rfl⟩
  rw [← hPC]
  have HPC := hid hPC
  clear hPC
  go_upto_region 1 with (fail)
  have hp0 : (w.alloc (.cells (PC) 28)).heap[w.heap.size]? = some (.cells (PC) 28 (0, 0)) := heap_alloc_new _ _
  have hb0 : Below w.heap.size w (w.alloc (.cells (PC) 28)) := (Below.refl _ _).alloc (Nat.le_refl _) _
  generalize w.alloc _ = w0 at *
  have HS0 := hid (show Pl5 w w.heap.size PC w0 from ⟨⟨hp0, HT.out.2.below hb0 (Nat.le_refl _), hb0, hb0.size⟩, HT.out.1.below hb0 (Nat.le_refl _)⟩)
  clear hp0 hb0
  go_wp2_with fail
  refine (awake5_any _ HS0.out.1.2.1 HS0.out.2).mono ?_
  rintro e w1 ⟨rfl, hb1⟩
  have HS1 := hid (HS0.out.keep hb1)
  clear hb1 HS0
  have RK := hid (HS1.out.rk HPC.out)
  have RN := hid (HS1.out.rn HPC.out KL.out)
  go_upto_region 5 with (first
    | (refine wpList_load_mid rfl _ _ rfl w.heap.size 0 rfl _ _ RK.out Tryd.underlying23 rfl I1.out ?_; rw [Array.toArray_toList])
    | (refine wpList_load_mid rfl _ _ rfl w.heap.size 33 rfl _ _ RN.out Tryd.underlying26 rfl I2.out ?_; rw [Array.toArray_toList])
    | (go_at_call 17; with_reducible refine (HC1.out _).mono ?_; rintro e w2 ⟨rfl, hw2⟩; obtain rfl : w1 = w2 := hw2)
    | (go_at_call 17; with_reducible refine (HC2.out _).mono ?_; rintro e w2 ⟨rfl, hw2⟩; obtain rfl : w1 = w2 := hw2)
    | (go_at_call 37; refine (HO1.out _ HS1.out.1.2.1 HS1.out.2).mono ?_; rintro e w3 ⟨rfl, hb3⟩))
  have HS3 := hid (HS1.out.keep hb3)
  clear hb3 RK RN HS1
  have RK := hid (HS3.out.rk HPC.out)
  have RN := hid (HS3.out.rn HPC.out KL.out)
  go_upto_region 6 with (first
    | (refine wpList_load_mid rfl _ _ rfl w.heap.size 0 rfl _ _ RK.out Tryd.underlying23 rfl I1.out ?_; rw [Array.toArray_toList])
    | (refine wpList_load_mid rfl _ _ rfl w.heap.size 33 rfl _ _ RN.out Tryd.underlying26 rfl I2.out ?_; rw [Array.toArray_toList])
    | (go_at_call 36; refine (HSE.out _ HS3.out.1.2.1 HS3.out.2).mono ?_; rintro e w4 ⟨rfl, hb4⟩))
  have HS4 := hid (HS3.out.keep hb4)
  clear hb4 RK RN HS3
  have RK := hid (HS4.out.rk HPC.out)
  have RN := hid (HS4.out.rn HPC.out KL.out)
  go_upto_region 7 with (first
    | (refine wpList_load_mid rfl _ _ rfl w.heap.size 0 rfl _ _ RK.out Tryd.underlying23 rfl I1.out ?_; rw [Array.toArray_toList])
    | (refine wpList_load_mid rfl _ _ rfl w.heap.size 33 rfl _ _ RN.out Tryd.underlying26 rfl I2.out ?_; rw [Array.toArray_toList])
    | (go_at_call 37; refine (HO2.out _ HS4.out.1.2.1 HS4.out.2).mono ?_; rintro e w5 ⟨rfl, hb5⟩))
  have HS5 := hid (HS4.out.keep hb5)
  clear hb5 RK RN HS4
  go_wp2
  go_ret
  exact ⟨rfl, HS5.out.1.2.2.1⟩


set_option maxRecDepth 100000 in
theorem contract (H : Type) (enc : TypeId × Value → H) (W : World) (base : Nat) (args : Array Value) (ds gs : List (DataW H)) (before : List MemPlace)
    (hval : ∀ (j : Nat) t v, Tryd.f15.params[j]? = some t → args[j]? = some v → Value.okWide Tryd.prog W .any base t v)
    (hW : DataW.Whole enc Tryd.prog Tryd.f15.params.toList Rows.aeadShortSpec.vars false W args.toList ds gs before) (hL : laidMetH Tryd.prog Rows.aeadShortRow.laid W) :
    Calls Tryd.prog 15 args W fun e W' => ∃ v, e = .returned v ∧ Rows.aeadShortSpec.post enc Tryd.prog Tryd.f15 false true false false W args v W' := by
  have hW' := hW
  obtain ⟨p, q, hA0, hV, rfl, hfz, hnd⟩ := hW
  have hA : DataW.TrodAll enc Tryd.prog W 0 (fun _ => true) true Tryd.f15.params.toList args.toList ds p := hA0
  rw [Tryd.params15] at hA hval
  obtain ⟨v0, vs0, d0, ds0, p0, q0, hargs, rfl, rfl, h0, r0⟩ := trodAll_cons hA
  obtain ⟨v1, vs1, d1, ds1, p1, q1, rfl, rfl, rfl, h1, r1⟩ := trodAll_cons r0
  obtain ⟨v2, vs2, d2, ds2, p2, q2, rfl, rfl, rfl, h2, r2⟩ := trodAll_cons r1
  obtain ⟨rfl, rfl, rfl⟩ := trodAll_nil r2
  obtain rfl : args = #[v0, v1, v2] := by cases args; simp_all
  obtain ⟨key0, c0, nonce0, rfl, kl0, kb0, nl0, nb0, cb0⟩ := open_place (hval 0 28 v0 rfl rfl) h0
  obtain ⟨s1, rfl, rfl, rfl, hs1⟩ := Go.ChangeMaps.open_string Tryd.underlying9 (hval 1 9 v1 rfl rfl) h1
  obtain ⟨s2, rfl, rfl, rfl, hs2⟩ := Go.ChangeMaps.open_string Tryd.underlying9 (hval 2 9 v2 rfl rfl) h2
  refine (walk key0 c0 nonce0 kl0 kb0 nl0 nb0 s1 s2 hs1 hs2 W (tabs5_of hL)).mono fun e W' ⟨he, hb⟩ => ?_
  subst he
  exact ⟨_, rfl, law_post rfl rfl (by rw [Tryd.params15]; decide +kernel) hW' rfl hb⟩

theorem laid_met (os : Os) : laidMet Tryd.prog Rows.aeadShortRow.laid ((laidWorld os).forCall (fun _ _ => 0) ⟨#[], #[.agg (plC (List.replicate 32 0) 0 (List.replicate 12 0)), .string ByteArray.empty, .string ByteArray.empty], []⟩).memory :=
  laidMet_of_run' 8 (by kernel_rfl) (by kernel_rfl)
theorem reads (os : Os) {H : Type} (enc : TypeId × Value → H) : ∃ places, DataW.whole enc Tryd.prog ((laidWorld os).forCall (fun _ _ => 0) ⟨#[], #[.agg (plC (List.replicate 32 0) 0 (List.replicate 12 0)), .string ByteArray.empty, .string ByteArray.empty], []⟩).memory Tryd.f15.params.toList Rows.aeadShortSpec.vars false (#[.agg (plC (List.replicate 32 0) 0 (List.replicate 12 0)), .string ByteArray.empty, .string ByteArray.empty] : Array Value).toList 8
    = some ([.agg [.agg (List.replicate 32 (.lit (.int .u8 0))), .lit (.int .u32 0), .agg (List.replicate 12 (.lit (.int .u8 0)))], .lit (.string []), .lit (.string [])], [], places) :=
  ⟨[], by kernel_rfl⟩

set_option maxRecDepth 100000 in
theorem lifted (os : Os) (started : os.Started) (H : Type) (enc : TypeId × Value → H) (F : Stop.Interp) :
    ReturnsInHanded {} Tryd.checked os 15 .any ((OpenSpec.ofChange Rows.aeadShortSpec).preRow enc Tryd.prog Tryd.f15 Rows.aeadShortRow.domain false Rows.aeadShortRow.laid) (((OpenSpec.ofChange Rows.aeadShortSpec).at F).post enc Tryd.prog Tryd.f15 false true false false) := by
  obtain ⟨places, hx⟩ := reads os enc
  refine returnsInHanded_of_row (C := Tryd.checked) (s := OpenSpec.ofChange Rows.aeadShortSpec) own started (by kernel_rfl) Tryd.func15
    (witness_row_at (enc := enc) (C := Tryd.checked) false (laidWorld os) #[.agg (plC (List.replicate 32 0) 0 (List.replicate 12 0)), .string ByteArray.empty, .string ByteArray.empty] rfl (by kernel_rfl) (by kernel_rfl) (by kernel_rfl)
      (OpenSpec.preRow_of_cond 8 hx (by kernel_rfl) (fun k hk => by cases hk) (by kernel_rfl) (laid_met os))) ?_
  intro W base args ds gs before hval hW _ _ _ hL _ _
  exact contract H enc W base args ds gs before hval hW hL

theorem said : Rows.AeadShortSaid :=
  OpenClaim.holds_of_cond 15 Tryd.f15 rfl rfl rfl rfl rfl rfl rfl ⟨rfl, rfl, rfl, rfl, rfl⟩ rfl rfl rfl rfl rfl (by kernel_rfl) Tryd.func15 (by kernel_rfl)
    (of_decide_eq_true (by kernel_rfl)) (by unfold Func.isWrapper; first | (rw [if_pos (by decide +kernel)]; kernel_rfl) | (rw [if_neg (by decide +kernel)]; exact ⟨rfl, rfl⟩))
    (fun os started H enc _ F => by rw [OpenClaim.pre_eq_preRow]; exact lifted os started H enc F)

theorem plain (f : FuncId) (fn : Func) (hf : Tryd.pinned.checked.prog.funcNamed "sealwax/sealwaxlaw05.AeadShort" = some f) (hfn : Tryd.pinned.checked.prog.funcs[f]? = some fn) :
    false = Tryd.pinned.checked.prog.looks [] ∧ ∀ (j : Nat) t, fn.params[j]? = some t → Tryd.pinned.checked.prog.wantsStandIn t = false := by
  obtain rfl : f = 15 := Option.some.inj ((show Tryd.prog.funcNamed "sealwax/sealwaxlaw05.AeadShort" = some 15 by kernel_rfl).symm.trans hf) |>.symm
  obtain rfl : fn = Tryd.f15 := (Option.some.inj (Tryd.func15.symm.trans hfn)).symm
  refine ⟨by kernel_rfl, fun j t ht => ?_⟩
  rw [Tryd.params15] at ht
  have hmem := Array.mem_of_getElem? ht
  exact (show ∀ t ∈ (Tryd.f15.params), Tryd.prog.wantsStandIn t = false from by rw [Tryd.params15]; decide +kernel) t (by rw [Tryd.params15]; exact hmem)

theorem card : Rows.AeadShortCardSaid :=
  Claim7.holds_tied_plain_at .later [] _ _ _ _ said (fun _ h => by cases h) (by kernel_rfl) (fun _ h => by cases h) aeadShort_row_tie rfl ⟨rfl, rfl⟩ (by kernel_rfl) rfl plain (by kernel_rfl)

end AeadShort
theorem aeadShort_card : Rows.AeadShortCardSaid := AeadShort.card
end Go.Proofs.YtefennnekmecoaaDoor
