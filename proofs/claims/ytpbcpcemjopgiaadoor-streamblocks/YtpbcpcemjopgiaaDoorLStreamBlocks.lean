/-
  A block is the document's (law StreamBlocks); for every input.
-/
import Derived.Test.YtpbcpcemjopgiaaDoorLStr
namespace Go.Proofs.YtpbcpcemjopgiaaDoor
open Go.ChangeShapes Go.WideShapes Go.ChangeAt Go.RowKit
open Go.Lib (hid)

theorem plC_key {w : World} {b : Nat} {key : List Nat} {c : Nat} {nonce : List Nat} {t : TypeId} {fr : Nat × Nat} (h : w.heap[b]? = some (.cells (plC key c nonce) t fr)) : w.rangeAt b 0 (ints .u8 key).toList := by
  intro j v hj
  have hlt : j < (ints .u8 key).toList.length := (List.getElem?_eq_some_iff.1 hj).1
  rw [Nat.zero_add, cell_of_row w b j _ _ _ h, ← Array.getElem?_toList, plC_list, List.getElem?_append_left hlt]; exact hj
theorem plC_ctr {w : World} {b : Nat} {key : List Nat} {c : Nat} {nonce : List Nat} {t : TypeId} {fr : Nat × Nat} (h : w.heap[b]? = some (.cells (plC key c nonce) t fr)) (hk : key.length = 32) : w.cell? ⟨b, 32, none⟩ = some (.int .u32 (c : Int)) := by
  rw [cell_of_row w b 32 _ _ _ h, ← Array.getElem?_toList, plC_list, List.getElem?_append_right (by rw [ints_llen]; omega), ints_llen, hk]
  rfl
theorem plC_nonce {w : World} {b : Nat} {key : List Nat} {c : Nat} {nonce : List Nat} {t : TypeId} {fr : Nat × Nat} (h : w.heap[b]? = some (.cells (plC key c nonce) t fr)) (hk : key.length = 32) : w.rangeAt b 33 (ints .u8 nonce).toList := by
  intro j v hj
  rw [cell_of_row w b (33 + j) _ _ _ h, ← Array.getElem?_toList, plC_list, List.getElem?_append_right (by rw [ints_llen]; omega), ints_llen, hk, show 33 + j - 32 = j + 1 from by omega, List.getElem?_append_right (by simp)]
  simpa using hj

/-- A whole array is loaded in a quiet walk. -/
theorem wpQuiet_load_arr {P : Program} {ops : Array Oper} {C : World → Prop} {Q : Act → Prop} {rest : List Oper} {o : Oper} {a : Act} (hgd : o.guard = none) (ty : TypeId) (x : Operand) (ho : o.op = .load ty x)
    (b off : Nat) (hx : a.eval x = .pointer (some ⟨b, off, none⟩)) (cs : Array Value) (d : TypeDesc) (hc : ∀ w, C w → w.rangeAt b off cs.toList)
    (hu : P.underlying ty = some d) (hd : d.isRow = true) (hi : (P.info? ty).map (·.size) = some cs.toList.length)
    (h : wpQuiet P ops C Q rest (a.put o.dst (.agg cs))) : wpQuiet P ops C Q (o :: rest) a := by
  refine wpQuiet_step (fun K hK => ?_)
  simp only [Region.wanted, hgd, if_true]
  refine ⟨.agg cs, fun w hw => ?_, hK _ h⟩
  have hrun := run_loadVar_mid w b off ty cs.toList d (hc w hw) hu hd hi
  rw [Array.toArray_toList] at hrun
  unfold Oper.quietAt execOp
  simp only [ho, hx, Instr.loadAt, Instr.sureAddr, Sem.run_bind, Sem.run_pure, Result.andThen_ok, hrun]
  exact ⟨rfl, rfl⟩

namespace StreamBlocks
/-- What stays in the last test. -/
def S (w : World) (bp bb : Nat) (vb : Value) (PC : Array Value) (blk : List Nat) (u : World) : Prop :=
  u.heap[bp]? = some (.cells PC 28 (0, 0)) ∧ Own u bb vb blk ∧ TabQ u ∧ Below w.heap.size w u ∧ w.heap.size ≤ u.heap.size
theorem S.keep {w : World} {bp bb : Nat} {vb : Value} {PC : Array Value} {blk : List Nat} {u u' : World} (h : S w bp bb vb PC blk u) (hb : Below u.heap.size u u') : S w bp bb vb PC blk u' :=
  ⟨by rw [hb.block bp (Array.getElem?_eq_some_iff.1 h.1).1]; exact h.1, h.2.1.below hb, h.2.2.1.below hb (Nat.le_refl _), h.2.2.2.1.trans (hb.mono h.2.2.2.2), Nat.le_trans h.2.2.2.2 hb.size⟩

set_option maxHeartbeats 2000000 in
set_option maxRecDepth 100000 in
theorem walk (key : List Nat) (c : Nat) (nonce : List Nat) (kl : key.length = 32) (kb : ∀ x ∈ key, x < 256) (nl : nonce.length = 12) (nb : ∀ x ∈ nonce, x < 256) (cb : c < Sx.M) (w : World) (hT : TabQ w) :
    Calls Tryd.prog 3 #[.agg (plC key c nonce)] w fun e w' => e = .returned (.bool true) ∧ Below w.heap.size w w' := by
  have HT := hid hT
  have HBA := hid (fun wx hx => block_any key nonce c kb kl nb nl cb wx hx)
  have HRB := hid (fun wx => refblock_any key nonce c kb kl nb nl cb wx)
  have HLK := hid (fun wx => lkey_any key kl wx)
  have HLN := hid (fun wx => lnonce_any nonce nl wx)
  have HBL := hid (Cx.block_length key c nonce)
  generalize Cx.block key c nonce = blk at *
  have hc32 : (c : Int) < 4294967296 := by unfold Sx.M at cb; omega
  have i1 : (Tryd.prog.info? 23).map (·.size) = some (ints .u8 key).toList.length := by rw [ints_llen, kl]; exact info23
  have i2 : (Tryd.prog.info? 26).map (·.size) = some (ints .u8 nonce).toList.length := by rw [ints_llen, nl]; exact info26
  have I1 := hid i1
  have I2 := hid i2
  have HC32 := hid (fun _ : Nat => hc32)
  have KL := hid kl
  have NL := hid nl
  clear hT kb nb cb i1 i2 hc32 kl nl
  go_enter Tryd.func3, Tryd.ntmps3
  obtain ⟨PC, hPC⟩ : ∃ PC, PC = plC key c nonce := ⟨_, rfl⟩
  rw [← hPC]
  have HPC := hid hPC
  clear hPC
  go_upto_region 1 with (fail)
  have hp0 : (w.alloc (.cells (PC) 28)).heap[w.heap.size]? = some (.cells (PC) 28 (0, 0)) := heap_alloc_new _ _
  have hb0 : Below w.heap.size w (w.alloc (.cells (PC) 28)) := (Below.refl _ _).alloc (Nat.le_refl _) _
  generalize w.alloc _ = w0 at *
  have HP0 := hid hp0
  have HB0 := hid hb0
  clear hp0 hb0
  go_wp2_with fail
  refine (awake3_any _ (HT.out.below HB0.out (Nat.le_refl _))).mono ?_
  rintro e w1 ⟨rfl, hb1⟩
  have hp1 : w1.heap[w.heap.size]? = some (.cells (PC) 28 (0, 0)) := by rw [hb1.block _ (Array.getElem?_eq_some_iff.1 HP0.out).1]; exact HP0.out
  have HB1 := hid (HB0.out.next (Nat.le_refl _) hb1)
  have hp1' := hp1
  rw [HPC.out] at hp1'
  have rk := plC_key hp1'
  have rc := plC_ctr hp1' KL.out
  have rn := plC_nonce hp1' KL.out
  clear hp1'
  have RK := hid rk
  have RN := hid rn
  have HP1 := hid hp1
  clear hb1 hp1 HP0 HB0 rk rn
  go_upto_region 5 with (first
    | (refine wpList_load_mid rfl _ _ rfl w.heap.size 0 rfl _ _ RK.out Tryd.underlying23 rfl I1.out ?_; rw [Array.toArray_toList])
    | (refine wpList_load_mid rfl _ _ rfl w.heap.size 33 rfl _ _ RN.out Tryd.underlying26 rfl I2.out ?_; rw [Array.toArray_toList])
    | (go_at_call 13; refine (HBA.out _ (HT.out.below HB1.out (Nat.le_refl _))).mono ?_; rintro e w2 ⟨rfl, hb2⟩))
  have HP2 : Hid (w2.heap[w.heap.size]? = some (.cells (PC) 28 (0, 0))) := by
    show w2.heap[w.heap.size]? = _
    rw [hb2.block _ (Array.getElem?_eq_some_iff.1 HP1.out).1]; exact HP1.out
  have HB2 := hid (HB1.out.next (Nat.le_refl _) hb2)
  have hlt2 : w.heap.size < w2.heap.size := (Array.getElem?_eq_some_iff.1 HP2.out).1
  clear hb2 rc RK RN HP1 HB1
  obtain ⟨bb, hbb⟩ : ∃ bb, bb = w2.heap.size := ⟨_, rfl⟩
  have HBB := hid hbb
  have hbb1 : w.heap.size < bb := by omega
  have HBB1 := hid hbb1
  clear hbb hlt2 hbb1
  go_loopw [3, 15] (fun v i wr => ∃ k : Nat, k ≤ 64 ∧ i = .int .i64 k ∧ Own wr bb v (blk.take k) ∧ wr.heap[w.heap.size]? = some (.cells (PC) 28 (0, 0)) ∧ bb ≤ wr.heap.size ∧ Below w.heap.size w wr)
    (fun _ i _ => 64 - (intOf i).toNat)
  case atStart => exact ⟨0, by omega, rfl, Own.nil _ _, HP2.out, by rw [HBB.out]; exact Nat.le_refl _, HB2.out⟩
  case round =>
    clear HP2 HB2
    obtain ⟨k, hk, rfl, hown, hp, hO, hbel⟩ := hrel
    by_cases hlt : k < 64
    · have hi := fun wx => run_index_ints (P := Tryd.prog) wx 31 5 64 .u8 blk Tryd.underlying31 Tryd.underlying5 (by kernel_rfl) HBL.out k hlt
      have HTL := hid (show (blk.take k).length = k from by rw [List.length_take, HBL.out]; omega)
      have HTS := hid (take_getD_succ blk k (by rw [HBL.out]; exact hlt))
      have HOWN := hid hown
      have HP := hid hp
      have HBEL := hid hbel
      have HO := hid hO
      clear hown hp hbel hO
      generalize blk.getD k 0 = x at *
      go_wp2_with (refine wpList_app rfl _ _ rfl bb _ (blk.take k) rfl (HOWN.out.below ((Below.refl _ _).alloc (Nat.le_refl _) _)) _ 1 1 [x] rfl rfl (cells_one wr x _) (by rw [HTL.out]; omega) (by have := HO.out; simp; omega) ?_; intro v' w' hown' hbel')
      have hO := HO.out
      have hbb1 := HBB1.out
      go_roundw
      case rel =>
        rw [HTS.out] at hown'
        first
          | exact ⟨k + 1, by omega, by go_num, hown', by rw [hbel'.block _ hbb1, Below.heap_alloc _ _ _ (Array.getElem?_eq_some_iff.1 HP.out).1]; exact HP.out, Nat.le_trans (by simp; omega) hbel'.size, (HBEL.out.alloc HBEL.out.size _).trans (hbel'.mono (by omega))⟩
          | ((repeat apply Exists.intro); refine ⟨?_, rfl⟩; exact ⟨k + 1, by omega, by go_num, hown', by rw [hbel'.block _ hbb1, Below.heap_alloc _ _ _ (Array.getElem?_eq_some_iff.1 HP.out).1]; exact HP.out, Nat.le_trans (by simp; omega) hbel'.size, (HBEL.out.alloc HBEL.out.size _).trans (hbel'.mono (by omega))⟩)
      case measure => simp [intOf]; omega
    · obtain rfl : k = 64 := by omega
      rw [List.take_of_length_le (by rw [HBL.out]; omega)] at hown
      have HS := hid (⟨hp, hown, HT.out.below hbel (Nat.le_refl _), hbel, hbel.size⟩ : S w w.heap.size bb u3 PC blk wr)
      clear hown hp hbel
      rw [show ((64 : Nat) : Int) = 64 from rfl]
      go_upto_region 9 with (fail)
      refine wp_region_class (S w w.heap.size bb u3 PC blk) (by kernel_rfl) (by kernel_rfl) (S.keep HS.out ((Below.refl _ _).drew)) ?_
      intro Z φ hne hSφ hφ
      have HSZ := hid hSφ
      have hcv := fun z => run_ownstr (hSφ z).2.1
      have hpl := fun z => show (φ z).heap[w.heap.size]? = some (.cells (plC key c nonce) 28 (0, 0)) from by rw [← HPC.out]; exact (hSφ z).1
      have hrc := fun z => plC_ctr (hpl z) KL.out
      have HK1 := hid (show ∀ u : World, (∃ z, u = φ z) → u.rangeAt w.heap.size 0 (ints .u8 key).toList from fun u ⟨z, hz⟩ => by rw [hz]; exact plC_key (hpl z))
      have HK2 := hid (show ∀ u : World, (∃ z, u = φ z) → u.rangeAt w.heap.size 33 (ints .u8 nonce).toList from fun u ⟨z, hz⟩ => by rw [hz]; exact plC_nonce (hpl z) KL.out)
      clear hpl
      have C1 := hid (fun z => calls_class hφ ((HLK.out (φ z)).mono fun e w' h => ⟨h.1, (hSφ z).keep h.2⟩))
      have C2 := hid (fun z => calls_class hφ ((HLN.out (φ z)).mono fun e w' h => ⟨h.1, (hSφ z).keep h.2⟩))
      have C3 := hid (fun z => calls_class hφ ((HRB.out (φ z)).mono fun e w' h => ⟨h.1, (hSφ z).keep h.2⟩))
      clear hSφ hφ
      have hc32 := HC32.out 0
      generalize str key = SK at *
      generalize str nonce = SN at *
      generalize str blk = SB at *
      repeat (first
        | (refine wpQuiet_load_arr rfl _ _ rfl w.heap.size 0 rfl _ _ HK1.out Tryd.underlying23 rfl I1.out ?_; simp only [Act.put, List.setIfInBounds_toArray, List.set_cons_zero, List.set_cons_succ])
        | (refine wpQuiet_load_arr rfl _ _ rfl w.heap.size 33 rfl _ _ HK2.out Tryd.underlying26 rfl I2.out ?_; simp only [Act.put, List.setIfInBounds_toArray, List.set_cons_zero, List.set_cons_succ])
        | go_big_quiet_step (first | (go_at_call 15; exact C1.out _) | (go_at_call 16; exact C2.out _) | (go_at_call 14; exact C3.out _)))
      refine wpQuiet_nil ?_
      intro z
      go_wp2
      go_ret
      exact ⟨rfl, (HSZ.out z).2.2.2.1⟩


set_option maxRecDepth 100000 in
theorem contract (H : Type) (enc : TypeId × Value → H) (W : World) (base : Nat) (args : Array Value) (ds gs : List (DataW H)) (before : List MemPlace)
    (hval : ∀ (j : Nat) t v, Tryd.f3.params[j]? = some t → args[j]? = some v → Value.okWide Tryd.prog W .any base t v)
    (hW : DataW.Whole enc Tryd.prog Tryd.f3.params.toList Rows.streamBlocksSpec.vars false W args.toList ds gs before) (hL : laidMetH Tryd.prog Rows.streamBlocksRow.laid W) :
    Calls Tryd.prog 3 args W fun e W' => ∃ v, e = .returned v ∧ Rows.streamBlocksSpec.post enc Tryd.prog Tryd.f3 false true false false W args v W' := by
  have hW' := hW
  obtain ⟨p, q, hA0, hV, rfl, hfz, hnd⟩ := hW
  have hA : DataW.TrodAll enc Tryd.prog W 0 (fun _ => true) true Tryd.f3.params.toList args.toList ds p := hA0
  rw [Tryd.params3] at hA hval
  obtain ⟨v0, vs0, d0, ds0, p0, q0, hargs, rfl, rfl, h0, r0⟩ := trodAll_cons hA
  obtain ⟨rfl, rfl, rfl⟩ := trodAll_nil r0
  obtain rfl : args = #[v0] := by cases args; simp_all
  obtain ⟨key0, c0, nonce0, rfl, kl0, kb0, nl0, nb0, cb0⟩ := open_place (hval 0 28 v0 rfl rfl) h0
  refine (walk key0 c0 nonce0 kl0 kb0 nl0 nb0 cb0 W (tabq_of hL)).mono fun e W' ⟨he, hb⟩ => ?_
  subst he
  exact ⟨_, rfl, law_post rfl rfl (by rw [Tryd.params3]; decide +kernel) hW' rfl hb⟩

theorem laid_met (os : Os) : laidMet Tryd.prog Rows.streamBlocksRow.laid ((laidWorld os).forCall (fun _ _ => 0) ⟨#[], #[.agg (plC (List.replicate 32 0) 0 (List.replicate 12 0))], []⟩).memory :=
  laidMet_of_run' 8 (by kernel_rfl) (by kernel_rfl)
theorem reads (os : Os) {H : Type} (enc : TypeId × Value → H) : ∃ places, DataW.whole enc Tryd.prog ((laidWorld os).forCall (fun _ _ => 0) ⟨#[], #[.agg (plC (List.replicate 32 0) 0 (List.replicate 12 0))], []⟩).memory Tryd.f3.params.toList Rows.streamBlocksSpec.vars false (#[.agg (plC (List.replicate 32 0) 0 (List.replicate 12 0))] : Array Value).toList 8
    = some ([.agg [.agg (List.replicate 32 (.lit (.int .u8 0))), .lit (.int .u32 0), .agg (List.replicate 12 (.lit (.int .u8 0)))]], [], places) :=
  ⟨[], by kernel_rfl⟩

set_option maxRecDepth 100000 in
theorem lifted (os : Os) (started : os.Started) (H : Type) (enc : TypeId × Value → H) (F : Stop.Interp) :
    ReturnsInHanded {} Tryd.checked os 3 .any ((OpenSpec.ofChange Rows.streamBlocksSpec).preRow enc Tryd.prog Tryd.f3 Rows.streamBlocksRow.domain false Rows.streamBlocksRow.laid) (((OpenSpec.ofChange Rows.streamBlocksSpec).at F).post enc Tryd.prog Tryd.f3 false true false false) := by
  obtain ⟨places, hx⟩ := reads os enc
  refine returnsInHanded_of_row (C := Tryd.checked) (s := OpenSpec.ofChange Rows.streamBlocksSpec) own started (by kernel_rfl) Tryd.func3
    (witness_row_at (enc := enc) (C := Tryd.checked) false (laidWorld os) #[.agg (plC (List.replicate 32 0) 0 (List.replicate 12 0))] rfl (by kernel_rfl) (by kernel_rfl) (by kernel_rfl)
      (OpenSpec.preRow_of_cond 8 hx (by kernel_rfl) (fun k hk => by cases hk) (by kernel_rfl) (laid_met os))) ?_
  intro W base args ds gs before hval hW _ _ _ hL _ _
  exact contract H enc W base args ds gs before hval hW hL

theorem said : Rows.StreamBlocksSaid :=
  OpenClaim.holds_of_cond 3 Tryd.f3 rfl rfl rfl rfl rfl rfl rfl ⟨rfl, rfl, rfl, rfl, rfl⟩ rfl rfl rfl rfl rfl (by kernel_rfl) Tryd.func3 (by kernel_rfl)
    (of_decide_eq_true (by kernel_rfl)) (by unfold Func.isWrapper; first | (rw [if_pos (by decide +kernel)]; kernel_rfl) | (rw [if_neg (by decide +kernel)]; exact ⟨rfl, rfl⟩))
    (fun os started H enc _ F => by rw [OpenClaim.pre_eq_preRow]; exact lifted os started H enc F)

theorem plain (f : FuncId) (fn : Func) (hf : Tryd.pinned.checked.prog.funcNamed "sealwax/sealwaxlaw03.StreamBlocks" = some f) (hfn : Tryd.pinned.checked.prog.funcs[f]? = some fn) :
    false = Tryd.pinned.checked.prog.looks [] ∧ ∀ (j : Nat) t, fn.params[j]? = some t → Tryd.pinned.checked.prog.wantsStandIn t = false := by
  obtain rfl : f = 3 := Option.some.inj ((show Tryd.prog.funcNamed "sealwax/sealwaxlaw03.StreamBlocks" = some 3 by kernel_rfl).symm.trans hf) |>.symm
  obtain rfl : fn = Tryd.f3 := (Option.some.inj (Tryd.func3.symm.trans hfn)).symm
  refine ⟨by kernel_rfl, fun j t ht => ?_⟩
  rw [Tryd.params3] at ht
  have hmem := Array.mem_of_getElem? ht
  exact (show ∀ t ∈ (Tryd.f3.params), Tryd.prog.wantsStandIn t = false from by rw [Tryd.params3]; decide +kernel) t (by rw [Tryd.params3]; exact hmem)

theorem card : Rows.StreamBlocksCardSaid :=
  Claim7.holds_tied_plain_at .later [] _ _ _ _ said (fun _ h => by cases h) (by kernel_rfl) (fun _ h => by cases h) streamBlocks_row_tie rfl ⟨rfl, rfl⟩ (by kernel_rfl) rfl plain (by kernel_rfl)

end StreamBlocks
theorem streamBlocks_card : Rows.StreamBlocksCardSaid := StreamBlocks.card
end Go.Proofs.YtpbcpcemjopgiaaDoor
