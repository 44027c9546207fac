/-
  Of a key whose first half is 0 the tag is the second half; of one whose first half is 1, and the second 0, of 16 bytes it is these (law PolySimple); for every input.
-/
import Derived.Test.YtiolflofkoeffaaDoorLPx
namespace Go.Proofs.YtiolflofkoeffaaDoor
open Go.ChangeShapes Go.WideShapes Go.ChangeAt Go.RowKit
open Go.Lib (hid)

namespace PolySimple
/-- A world for the witnesses: the settled one, the table holding what its initialiser lays. -/
noncomputable def laidWorld (os : Os) : World :=
  { World.holding Tryd.prog os ⟨#[], #[], []⟩ with heap := (World.holding Tryd.prog os ⟨#[], #[], []⟩).heap.modify 1 (relaid (ints .u8 Px.kept)) }

/-- The key with its first k bytes 0. -/
def zk (key : List Nat) (k : Nat) : List Nat := List.replicate k 0 ++ key.drop k
theorem zk_set (key : List Nat) (k : Nat) (h : k < key.length) : (zk key k).set k 0 = zk key (k + 1) := by
  unfold zk
  rw [List.set_append_right _ _ (by simp), List.length_replicate, Nat.sub_self, List.drop_eq_getElem_cons h, List.set_cons_zero, List.replicate_succ', List.append_assoc]
  rfl
theorem zk_length (key : List Nat) (k : Nat) (h : k ≤ key.length) : (zk key k).length = key.length := by unfold zk; simp; omega
theorem zk_lt (key : List Nat) (hk : ∀ x ∈ key, x < 256) (k : Nat) : ∀ x ∈ zk key k, x < 256 := by
  intro x hx
  rcases List.mem_append.1 hx with h | h
  · rw [List.eq_of_mem_replicate h]; decide
  · exact hk x (List.mem_of_mem_drop h)
theorem zk_drop (key : List Nat) : (zk key 16).drop 16 = key.drop 16 := by
  unfold zk; rw [List.drop_append_of_le_length (by simp), List.drop_of_length_le (by simp), List.nil_append]
theorem zk_take (key : List Nat) : (zk key 16).take 16 = List.replicate 16 0 := by
  unfold zk; rw [List.take_left' (by simp)]
def S (w : World) (z : List Nat) (u : World) : Prop := Row u w.heap.size .u8 22 z ∧ Below w.heap.size w u
theorem S.keep {w : World} {z : List Nat} {u u' : World} (h : S w z u) (hb : Below u.heap.size u u') : S w z u' :=
  ⟨h.1.below hb h.1.lt, h.2.trans (hb.mono h.2.size)⟩

set_option maxHeartbeats 2000000 in
set_option maxRecDepth 100000 in
theorem walk (key : List Nat) (hkl : key.length = 32) (hk : ∀ x ∈ key, x < 256) (ao : Option Addr) (L : List ByteArray) (cap : Nat) (s : ByteArray) (hs : s.size ≤ maxLen) (w : World) (hT : TabK w) (hA : StrsB w ao L) (hL : L.length ≤ maxLen) (hss : ∀ s ∈ L, s.size ≤ maxLen) :
    Calls Tryd.prog 6 #[.agg (ints .u8 key), .slice ao L.length cap, .string s] w fun e w' => e = .returned (.bool true) ∧ Below w.heap.size w w' := by
  have HCUT := hid (fun wx => cut_any s 16 wx hs (by omega))
  obtain ⟨t, ht⟩ : ∃ t, t = (nums s).take 16 := ⟨_, rfl⟩
  have tb : ∀ x ∈ t, x < 256 := by rw [ht]; exact fun x hx => nums_lt s x (List.mem_of_mem_take hx)
  have tl : t.length ≤ 16 := by rw [ht, List.length_take]; omega
  rw [← ht] at HCUT
  have hs1 : (ints .u8 key).size = 32 := by rw [ints_size, hkl]
  have HT := hid hT
  have HTB := hid tb
  have HA := hid hA
  have HLL := hid hL
  have HSS := hid hss
  have HK := hid hk
  have HZL := hid (zk_length key)
  have HZS := hid (zk_set key)
  clear hT ht hs tb hA hL hss hk
  go_enter Tryd.func6, Tryd.ntmps6
  go_upto_region 1 with (fail)
  generalize hw0 : w.alloc _ = w0
  have HA0 := hid (show Row w0 w.heap.size .u8 22 key from by rw [← hw0]; unfold Row; rw [heap_alloc_new])
  have HW0 := hid (show Below w.heap.size w w0 from by rw [← hw0]; exact (Below.refl _ _).alloc (Nat.le_refl _) _)
  clear hw0
  go_wp2_with fail
  refine (awake4_any _ (HT.out.below HW0.out (Nat.le_refl _))).mono ?_
  rintro e w1 ⟨rfl, hb1⟩
  have HA1 := hid (HA0.out.below hb1 HA0.out.lt)
  have HW1 := hid (HW0.out.trans (hb1.mono HW0.out.size))
  clear hb1 HA0 HW0
  go_wp2_with fail
  refine (few_any ao L cap 4 40 _ (HA.out.below HW1.out) HLL.out HSS.out (by omega) (by omega)).mono ?_
  rintro e w2 ⟨v, rfl, hown, hb2⟩
  obtain ⟨ao', cap', rfl, hstr⟩ := hown.strs
  have hflt := few_lt L 4 40
  have hfn : (few L 4 40).length ≤ 4 := by rw [few_length]; omega
  generalize few L 4 40 = F at *
  have HA2 := hid (HA1.out.below hb2 HA1.out.lt)
  have HW2 := hid (HW1.out.trans (hb2.mono HW1.out.size))
  have HSTR := hid hstr
  have HFLT := hid hflt
  clear hb2 HA1 HW1 hstr hflt hown HA HLL HSS
  go_upto_region 5 with (first
    | (refine wpList_load_row rfl _ _ rfl w.heap.size rfl _ _ _ _ HA2.out Tryd.underlying22 rfl (by rw [hs1]; exact info22) ?_)
    | (refine wpList_store_row rfl _ _ _ rfl w2.heap.size _ rfl rfl _ _ (heap_alloc_new _ _) (by rw [hs1]; exact info22) (by rw [hs1]; rfl) (ints_one _ _) ?_))
  generalize hw3 : (w2.alloc _).setRow _ _ = w3
  have HS3 := hid (show S w2 (zk key 0) w3 from by
    rw [← hw3]
    exact ⟨setRow_heap _ _ _ _ _ _ (heap_alloc_new _ _), below_setRow ((Below.refl _ _).alloc (Nat.le_refl _) _) (Nat.le_refl _) _⟩)
  have hba : w.heap.size < w2.heap.size := HA2.out.lt
  clear hw3
  go_upto_region 6 with (fail)
  go_loopw [8, 14] (fun _ i wr => ∃ k : Nat, k ≤ 16 ∧ i = .int .i64 k ∧ S w2 (zk key k) wr)
    (fun _ i _ => 16 - (intOf i).toNat)
  case atStart => exact ⟨0, by omega, rfl, HS3.out⟩
  case round =>
    clear HS3
    obtain ⟨k, hk, rfl, hS⟩ := hrel
    by_cases hlt : k < 16
    · have g1 : (k : Int) < 16 := by omega
      have hfr := hS.1.free k
      have hcl := hS.1.cell k (by rw [HZL.out k (by omega)]; omega)
      have HS := hid (show S w2 (zk key (k + 1)) (wr.setCell ⟨w2.heap.size, k, none⟩ (.int .u8 0)) from by
        have h1 := hS.1.set k 0
        rw [HZS.out k (by omega)] at h1
        exact ⟨h1, hS.2.setCell (p := ⟨w2.heap.size, k, none⟩) (Nat.le_refl _) _⟩)
      clear hS
      generalize (zk key k).getD k 0 = x at *
      go_wp2_with fail
      exact ⟨⟨k + 1, by omega, congrArg (Value.int .i64) (by omega), HS.out⟩, by simp [intOf]; omega⟩
    · obtain rfl : k = 16 := by omega
      have HS := hid hS
      clear hS
      have HZK := hid (zk_lt key HK.out 16)
      have hzl := HZL.out 16 (by omega)
      have HPO := hid (fun (u : World) (hu : S w2 (zk key 16) u) => pof_any (zk key 16) HZK.out (by rw [hzl, hkl]) ao' F cap' (by omega) HFLT.out u ((HT.out.below HW2.out (Nat.le_refl _)).below hu.2 (Nat.le_refl _)) (HSTR.out.below hu.2))
      rw [Pv.of_zero (zk key 16) F.flatten (by rw [hzl, hkl]) HZK.out HFLT.out (zk_take key), zk_drop] at HPO
      have HTX := hid (fun (u : World) => ttext_any (key.drop 16) (by simp [hkl]) u)
      have HLT := hid (fun (u : World) => ltext4_any key hkl u)
      have hex : (str key).extract 16 32 = str (key.drop 16) := by
        have := extract_mid key HK.out 16 16
        rwa [List.take_of_length_le (show (key.drop 16).length ≤ 16 by simp [hkl])] at this
      have hsk : (str key).size = 32 := by rw [str_size, hkl]
      have hs2 : (ints .u8 (zk key 16)).size = 32 := by rw [ints_size, hzl, hkl]
      generalize zk key 16 = Z at *
      generalize key.drop 16 = D at *
      generalize str key = SK at *
      generalize str D = SD at *
      go_upto_region 10 with (fail)
      refine wp_region_class (S w2 Z) (by kernel_rfl) (by kernel_rfl) (HS.out.keep ((Below.refl _ _).drew)) ?_
      intro Zt φ hne hSφ hφ
      have HSZ := hid hSφ
      have RA := hid (show ∀ u : World, (∃ z, u = φ z) → u.rangeAt w.heap.size 0 (ints .u8 key).toList from fun u ⟨z, hz⟩ => by rw [hz]; exact row_range0 (HA2.out.below (hSφ z).2 HA2.out.lt))
      have RB := hid (show ∀ u : World, (∃ z, u = φ z) → u.rangeAt w2.heap.size 0 (ints .u8 Z).toList from fun u ⟨z, hz⟩ => by rw [hz]; exact row_range0 (hSφ z).1)
      have IA := hid (show (Tryd.prog.info? 22).map (·.size) = some (ints .u8 key).toList.length from by rw [Array.length_toList, hs1]; exact info22)
      have IB := hid (show (Tryd.prog.info? 22).map (·.size) = some (ints .u8 Z).toList.length from by rw [Array.length_toList, hs2]; exact info22)
      have C1 := hid (fun z => calls_class hφ ((HPO.out (φ z) (hSφ z)).mono fun e w' h => ⟨h.1, (hSφ z).keep h.2⟩))
      have C2 := hid (fun z => calls_class hφ ((HTX.out (φ z)).mono fun e w' h => ⟨h.1, (hSφ z).keep h.2⟩))
      have C3 := hid (fun z => calls_class hφ ((HLT.out (φ z)).mono fun e w' h => ⟨h.1, (hSφ z).keep h.2⟩))
      clear hSφ hφ
      repeat (first
        | (refine wpQuiet_load_arr rfl _ _ rfl w.heap.size 0 rfl _ _ RA.out Tryd.underlying22 rfl IA.out ?_; simp only [Act.put, List.setIfInBounds_toArray, List.set_cons_zero, List.set_cons_succ])
        | (refine wpQuiet_load_arr rfl _ _ rfl w2.heap.size 0 rfl _ _ RB.out Tryd.underlying22 rfl IB.out ?_; simp only [Act.put, List.setIfInBounds_toArray, List.set_cons_zero, List.set_cons_succ])
        | go_big_quiet_step (first | (go_at_call 15; with_reducible exact C1.out _) | (go_at_call 16; with_reducible exact C2.out _) | (go_at_call 18; with_reducible exact C3.out _)))
      refine wpQuiet_nil ?_
      intro z
      have HSF := hid (HSZ.out z)
      clear C1 C2 C3 RA RB IA IB HSZ hne HPO HTX HLT hex hsk hs2 hzl HZK HS
      generalize φ z = w4 at *
      go_wp2_with fail
      refine (HCUT.out _).mono ?_
      rintro e w5 ⟨rfl, hw5⟩
      subst hw5
      clear HCUT
      go_upto_region 13 with (fail)
      go_loopw [2] (fun v wr => wr = w4 ∧ ∃ j : Nat, v = .string (str (t ++ List.replicate j 120)) ∧ t.length + j ≤ 16)
        (fun v _ => match v with | .string y => 16 - y.size | _ => 0)
      case atStart => exact ⟨rfl, 0, by simp, by omega⟩
      case round =>
        obtain ⟨rfl, j, rfl, hj⟩ := hrel
        have hz : (str (t ++ List.replicate j 120)).size = t.length + j := by rw [str_size]; simp
        by_cases hlt : t.length + j < 16
        · have hap := str_append (t ++ List.replicate j 120) [120]
          rw [show str [120] = ⟨#[120]⟩ from rfl, List.append_assoc, show List.replicate j 120 ++ [120] = List.replicate (j + 1) 120 from (List.replicate_succ' ..).symm] at hap
          have HZ := hid (show (str (t ++ List.replicate (j + 1) 120)).size = t.length + j + 1 from by rw [str_size]; simp; omega)
          have hlt' : ((t.length : Int) + (j : Int)) < 16 := by omega
          generalize hS1 : str (t ++ List.replicate j 120) = S1 at *
          generalize hS2 : str (t ++ List.replicate (j + 1) 120) = S2 at *
          have HS2 := hid hS2
          clear hS1 hS2
          go_wp2
          exact ⟨⟨by trivial, j + 1, by rw [HS2.out], by omega⟩, by show 16 - S2.size < 16 - S1.size; rw [HZ.out, hz]; omega⟩
        · have hge : ¬ ((t.length : Int) + (j : Int)) < 16 := by omega
          obtain ⟨T, hTe⟩ : ∃ T, T = t ++ List.replicate j 120 := ⟨_, rfl⟩
          have hTl : T.length = 16 := by rw [hTe]; simp; omega
          have HTT := hid (show ∀ x ∈ T, x < 256 from by
            rw [hTe]
            intro x hx
            rcases List.mem_append.1 hx with h | h
            · exact HTB.out x h
            · rw [List.eq_of_mem_replicate h]; omega)
          rw [← hTe] at hz ⊢
          have HPO := hid (fun (u : World) (hu : TabK u) (ad : Option Addr) (hS : Strs u ad [T]) => pof_any (1 :: List.replicate 31 0) (by decide) rfl ad [T] 1 (by simp) (by simpa using HTT.out) u hu hS)
          rw [show [T].flatten = T from by simp, Pv.of_one T hTl HTT.out] at HPO
          have HTX := hid (fun (u : World) => ttext_any T hTl u)
          clear hTe
          generalize hS1 : str T = S1 at *
          have HS1 := hid hS1
          clear hS1
          have hBW := HW2.out.trans (HSF.out.2.mono HW2.out.size)
          have HBW := hid hBW
          clear hBW
          clear HA2 HSTR HFLT HK HZL HZS
          go_upto_region 15 with (fail)
          go_wp2_with fail
          refine (HPO.out _ ((HT.out.below HBW.out (Nat.le_refl _)).below ((Below.refl _ _).alloc (Nat.le_refl _) _) (Nat.le_refl _)) (some ⟨wr.heap.size, 0, none⟩) (by rw [← HS1.out]; exact strs_one _ _ _)).mono ?_
          rintro e w6 ⟨rfl, hb6⟩
          go_wp2_with fail
          refine (HTX.out _).mono ?_
          rintro e w7 ⟨rfl, hb7⟩
          go_wp2_with fail
          go_ret
          exact ⟨rfl, (((HBW.out.alloc HBW.out.size _).next (Nat.le_refl _) hb6).next (Nat.le_refl _) hb7)⟩


set_option maxRecDepth 100000 in
theorem contract (H : Type) (enc : TypeId × Value → H) (W : World) (base : Nat) (args : Array Value) (ds gs : List (DataW H)) (before : List MemPlace)
    (hval : ∀ (j : Nat) t v, Tryd.f6.params[j]? = some t → args[j]? = some v → Value.okWide Tryd.prog W .any base t v)
    (hW : DataW.Whole enc Tryd.prog Tryd.f6.params.toList Rows.polySimpleSpec.vars false W args.toList ds gs before) (hL : laidMetH Tryd.prog Rows.polySimpleRow.laid W) :
    Calls Tryd.prog 6 args W fun e W' => ∃ v, e = .returned v ∧ Rows.polySimpleSpec.post enc Tryd.prog Tryd.f6 false true false false W args v W' := by
  have hW' := hW
  obtain ⟨p, q, hA0, hV, rfl, hfz, hnd⟩ := hW
  have hA : DataW.TrodAll enc Tryd.prog W 0 (fun _ => true) true Tryd.f6.params.toList args.toList ds p := hA0
  rw [Tryd.params6] at hA hval
  obtain ⟨v0, vs0, d0, ds0, p0, q0, hargs, rfl, rfl, h0, r0⟩ := trodAll_cons hA
  obtain ⟨v1, vs1, d1, ds1, p1, q1, rfl, rfl, rfl, h1, r1⟩ := trodAll_cons r0
  obtain ⟨v2, vs2, d2, ds2, p2, q2, rfl, rfl, rfl, h2, r2⟩ := trodAll_cons r1
  obtain ⟨rfl, rfl, rfl⟩ := trodAll_nil r2
  obtain rfl : args = #[v0, v1, v2] := by cases args; simp_all
  obtain ⟨xs0, rfl, hl0, hx0⟩ := open_k32 (hval 0 22 v0 rfl rfl) h0
  obtain ⟨ao1, L1, cap1, rfl, hL1, hb1⟩ := open_strs (hval 1 34 v1 rfl rfl) h1
  obtain ⟨s2, rfl, rfl, rfl, hs2⟩ := Go.ChangeMaps.open_string Tryd.underlying9 (hval 2 9 v2 rfl rfl) h2
  refine (walk xs0 hl0 hx0 ao1 L1 cap1 s2 hs2 W (tabk_of hL) hL1 hb1.1 hb1.2).mono fun e W' ⟨he, hb⟩ => ?_
  subst he
  exact ⟨_, rfl, law_post rfl rfl (by rw [Tryd.params6]; decide +kernel) hW' rfl hb⟩

theorem laid_met (os : Os) : laidMet Tryd.prog Rows.polySimpleRow.laid ((laidWorld os).forCall (fun _ _ => 0) ⟨#[], #[.agg (ints .u8 (List.replicate 32 0)), .slice none 0 0, .string ByteArray.empty], []⟩).memory :=
  laidMet_of_run' 8 (by kernel_rfl) (by kernel_rfl)
theorem reads (os : Os) {H : Type} (enc : TypeId × Value → H) : ∃ places, DataW.whole enc Tryd.prog ((laidWorld os).forCall (fun _ _ => 0) ⟨#[], #[.agg (ints .u8 (List.replicate 32 0)), .slice none 0 0, .string ByteArray.empty], []⟩).memory Tryd.f6.params.toList Rows.polySimpleSpec.vars false (#[.agg (ints .u8 (List.replicate 32 0)), .slice none 0 0, .string ByteArray.empty] : Array Value).toList 8
    = some ([.agg (List.replicate 32 (.lit (.int .u8 0))), .nil, .lit (.string [])], [], places) :=
  ⟨[], by kernel_rfl⟩

set_option maxRecDepth 100000 in
theorem lifted (os : Os) (started : os.Started) (H : Type) (enc : TypeId × Value → H) (F : Stop.Interp) :
    ReturnsInHanded {} Tryd.checked os 6 .any ((OpenSpec.ofChange Rows.polySimpleSpec).preRow enc Tryd.prog Tryd.f6 Rows.polySimpleRow.domain false Rows.polySimpleRow.laid) (((OpenSpec.ofChange Rows.polySimpleSpec).at F).post enc Tryd.prog Tryd.f6 false true false false) := by
  obtain ⟨places, hx⟩ := reads os enc
  refine returnsInHanded_of_row (C := Tryd.checked) (s := OpenSpec.ofChange Rows.polySimpleSpec) own started (by kernel_rfl) Tryd.func6
    (witness_row_at (enc := enc) (C := Tryd.checked) false (laidWorld os) #[.agg (ints .u8 (List.replicate 32 0)), .slice none 0 0, .string ByteArray.empty] rfl (by kernel_rfl) (by kernel_rfl) (by kernel_rfl)
      (OpenSpec.preRow_of_cond 8 hx (by kernel_rfl) (fun k hk => by cases hk) (by kernel_rfl) (laid_met os))) ?_
  intro W base args ds gs before hval hW _ _ _ hL _ _
  exact contract H enc W base args ds gs before hval hW hL

theorem said : Rows.PolySimpleSaid :=
  OpenClaim.holds_of_cond 6 Tryd.f6 rfl rfl rfl rfl rfl rfl rfl ⟨rfl, rfl, rfl, rfl, rfl⟩ rfl rfl rfl rfl rfl (by kernel_rfl) Tryd.func6 (by kernel_rfl)
    (of_decide_eq_true (by kernel_rfl)) (by unfold Func.isWrapper; first | (rw [if_pos (by decide +kernel)]; kernel_rfl) | (rw [if_neg (by decide +kernel)]; exact ⟨rfl, rfl⟩))
    (fun os started H enc _ F => by rw [OpenClaim.pre_eq_preRow]; exact lifted os started H enc F)

theorem plain (f : FuncId) (fn : Func) (hf : Tryd.pinned.checked.prog.funcNamed "sealwax/sealwaxlaw04.PolySimple" = some f) (hfn : Tryd.pinned.checked.prog.funcs[f]? = some fn) :
    false = Tryd.pinned.checked.prog.looks [] ∧ ∀ (j : Nat) t, fn.params[j]? = some t → Tryd.pinned.checked.prog.wantsStandIn t = false := by
  obtain rfl : f = 6 := Option.some.inj ((show Tryd.prog.funcNamed "sealwax/sealwaxlaw04.PolySimple" = some 6 by kernel_rfl).symm.trans hf) |>.symm
  obtain rfl : fn = Tryd.f6 := (Option.some.inj (Tryd.func6.symm.trans hfn)).symm
  refine ⟨by kernel_rfl, fun j t ht => ?_⟩
  rw [Tryd.params6] at ht
  have hmem := Array.mem_of_getElem? ht
  exact (show ∀ t ∈ (Tryd.f6.params), Tryd.prog.wantsStandIn t = false from by rw [Tryd.params6]; decide +kernel) t (by rw [Tryd.params6]; exact hmem)

theorem card : Rows.PolySimpleCardSaid :=
  Claim7.holds_tied_plain_at .later [] _ _ _ _ said (fun _ h => by cases h) (by kernel_rfl) (fun _ h => by cases h) polySimple_row_tie rfl ⟨rfl, rfl⟩ (by kernel_rfl) rfl plain (by kernel_rfl)

end PolySimple
theorem polySimple_card : Rows.PolySimpleCardSaid := PolySimple.card
end Go.Proofs.YtiolflofkoeffaaDoor
