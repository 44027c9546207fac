/-
  Of each length, also where numbers are near 2^130, the tag is the document's (law PolyEnds); for every input.
-/
import Derived.Test.YtiolflofkoeffaaDoorLPx
import Derived.Test.YtiolflofkoeffaaDoorRef4f
import Derived.Deep.OwnRows
namespace Go.Proofs.YtiolflofkoeffaaDoor
open Go.ChangeShapes Go.WideShapes Go.ChangeAt Go.RowKit
open Go.Lib (hid)

namespace PolyEnds
/-- A world for the witnesses: the settled one, the table holding what its initialiser lays. -/
noncomputable def laidWorld (os : Os) : World :=
  { World.holding Tryd.prog os ⟨#[], #[], []⟩ with heap := (World.holding Tryd.prog os ⟨#[], #[], []⟩).heap.modify 1 (relaid (ints .u8 Px.kept)) }
theorem fill_set (k J x : Nat) (h : k < J) : (List.replicate k x ++ List.replicate (J - k) 0).set k x = List.replicate (k + 1) x ++ List.replicate (J - (k + 1)) 0 := by
  rw [List.set_append_right _ _ (by simp), List.length_replicate, Nat.sub_self, show J - k = (J - (k + 1)) + 1 from by omega, List.replicate_succ, List.set_cons_zero, List.replicate_succ', List.append_assoc]
  rfl
def S (w : World) (bS : Nat) (key l : List Nat) (u : World) : Prop := Row u w.heap.size .u8 22 key ∧ Row u bS .u8 5 l ∧ Below w.heap.size w u ∧ TabK u
theorem S.keep {w : World} {bS : Nat} {key l : List Nat} {u u' : World} (h : S w bS key l u) (hb : Below u.heap.size u u') : S w bS key l u' :=
  ⟨h.1.below hb h.1.lt, h.2.1.below hb h.2.1.lt, h.2.2.1.trans (hb.mono h.2.2.1.size), h.2.2.2.below hb (Nat.le_refl _)⟩

set_option maxHeartbeats 4000000 in
set_option maxRecDepth 100000 in
theorem walk (key : List Nat) (hkl : key.length = 32) (hkb : ∀ x ∈ key, x < 256) (n b : Int) (hb0 : 0 ≤ b) (hb1 : b < 256) (w : World) (hT : TabK w) :
    Calls Tryd.prog 5 #[.agg (ints .u8 key), .int .i64 n, .int .u8 b] w fun e w' => e = .returned (.bool true) ∧ Below w.heap.size w w' := by
  have HT := hid hT
  have HKB := hid hkb
  clear hT hkb
  obtain ⟨J, hJ, hj⟩ := and_le n 127 (by omega)
  rw [show ((127 : Nat) : Int) = 127 from rfl] at hj
  obtain ⟨x, hx⟩ : ∃ x : Nat, b = (x : Int) := ⟨b.toNat, by omega⟩
  subst hx
  have hx256 : x < 256 := by omega
  clear hb0 hb1
  have hmk := fun wx => run_mk wx J (by omega)
  have hs1 : (ints .u8 key).size = 32 := by rw [ints_size, hkl]
  go_enter Tryd.func5, Tryd.ntmps5
  go_upto_region 1 with (fail)
  generalize hw0 : w.alloc _ = w0
  have HA0 := hid (show Row w0 w.heap.size .u8 22 key from by rw [← hw0]; unfold Row; rw [heap_alloc_new])
  have HW0 := hid (show Below w.heap.size w w0 from by rw [← hw0]; exact (Below.refl _ _).alloc (Nat.le_refl _) _)
  clear hw0
  go_wp2_with fail
  refine (awake4_any _ (HT.out.below HW0.out (Nat.le_refl _))).mono ?_
  rintro e w1 ⟨rfl, hb1⟩
  have HA1 := hid (HA0.out.below hb1 HA0.out.lt)
  have HW1 := hid (HW0.out.trans (hb1.mono HW0.out.size))
  clear hb1 HA0 HW0
  go_upto_region 6 with (fail)
  clear hmk hj
  have HS0 := hid (show S w w1.heap.size key (List.replicate 0 x ++ List.replicate (J - 0) 0) (w1.alloc (.cells (ints .u8 (List.replicate J 0)) 5)) from by
    have hbx := HW1.out.alloc HW1.out.size (.cells (ints .u8 (List.replicate J 0)) 5)
    refine ⟨HA1.out.alloc _, ?_, hbx, HT.out.below hbx (Nat.le_refl _)⟩
    simp only [List.replicate_zero, List.nil_append, Nat.sub_zero]; exact heap_alloc_new _ _)
  have hwb := HW1.out.size
  have hlt0 := HA1.out.lt
  clear HA1 HW1
  generalize w1.alloc _ = w2 at *
  generalize w1.heap.size = bS at *
  go_loopw [8, 17] (fun _ i wr => ∃ k : Nat, k ≤ J ∧ i = .int .i64 k ∧ S w bS key (List.replicate k x ++ List.replicate (J - k) 0) wr)
    (fun _ i _ => J - (intOf i).toNat)
  case atStart => exact ⟨0, by omega, rfl, HS0.out⟩
  case round =>
    clear HS0
    obtain ⟨k, hk, rfl, hS⟩ := hrel
    by_cases hlt : k < J
    · have hc := hS.2.1.cell k (by simp; omega)
      have hf := hS.2.1.free k
      have HS2 := hid (show S w bS key (List.replicate (k + 1) x ++ List.replicate (J - (k + 1)) 0) (wr.setCell ⟨bS, k, none⟩ (.int .u8 (x : Int))) from by
        have hr' := hS.2.1.set k x
        rw [fill_set k J x hlt] at hr'
        have hb' := hS.2.2.1.setCell (p := ⟨bS, k, none⟩) hwb (.int .u8 (x : Int))
        exact ⟨hS.1.set_other ⟨bS, k, none⟩ _ (by show w.heap.size ≠ bS; omega), hr', hb', HT.out.below hb' (Nat.le_refl _)⟩)
      clear hS
      generalize (List.replicate k x ++ List.replicate (J - k) 0).getD k 0 = y at *
      go_wp2
      exact ⟨⟨k + 1, by omega, congrArg (Value.int .i64) (by omega), HS2.out⟩, by simp only [intOf]; omega⟩
    · obtain rfl : k = J := by omega
      rw [Nat.sub_self, List.replicate_zero, List.append_nil] at hS
      have hlt256 : ∀ y ∈ List.replicate k x, y < 256 := by intro y hy; rw [List.mem_replicate] at hy; omega
      have HOF := hid (fun (u : World) (hu : TabK u) (ad : Option Addr) (hS : Strs u ad [List.replicate k x]) => pof_any key HKB.out hkl ad [List.replicate k x] 1 (by simp) (by simpa using hlt256) u hu hS)
      rw [show [List.replicate k x].flatten = List.replicate k x from by simp] at HOF
      have HRF := hid (fun wx => rof_any key (List.replicate k x) hkl HKB.out (by simp; omega) hlt256 wx)
      have HTX := hid (fun wx => ttext_any (Px.of key (List.replicate k x)) (Px.of_length _ _) wx)
      have HLT := hid (fun (u : World) => ltext4_any key hkl u)
      have HS0 := hid hS
      have HCV := hid (fun (wx : World) (h : Row wx bS .u8 5 (List.replicate k x)) => (show (convert 44 9 (.slice (some ⟨bS, 0, none⟩) k k)).run Tryd.prog wx = .ok (.string (str (List.replicate k x))) wx from by
        have := run_str wx bS 0 k k 5 (List.replicate k x) h (by simp)
        rwa [List.drop_zero, List.take_of_length_le (by simp)] at this))
      have HSTR := hid (fun (u : World) => strs_one u (List.replicate k x) 9)
      clear hS hlt256
      generalize Px.of key (List.replicate k x) = D at *
      generalize List.replicate k x = T at *
      generalize str T = ST at *
      generalize str D = SD at *
      generalize str key = SK at *
      have i22 : (Tryd.prog.info? 22).map (·.size) = some (ints .u8 key).toList.length := by rw [ints_llen, hkl]; exact info22
      go_upto_region 10 with (fail)
      refine wp_region_noPanic ?_
      refine wp_region_held_drew (S := S w bS key T) (by kernel_rfl) (HS0.out.keep ((Below.refl _ _).drew)) (fun hS1 => ?_)
      change wpAnyH _ _ _ _ _ 13 _ _ _
      refine wpAnyH_take (i := 0) (oi := ?oi2) (v := .agg (ints .u8 key).toList.toArray) ?hi2 (by kernel_rfl) (by kernel_rfl) (by kernel_rfl) (fun _ _ _ h => h) ?hy2 hS1 ?rest2
      case hi2 => simp only [List.getElem?_toArray, List.getElem?_cons_zero]; rfl
      case hy2 => 
        refine yieldsIf_load_mid ?w2 _ ?x2 ?o2 w.heap.size 0 ?e2 (ints .u8 key).toList _ ?s2 Tryd.underlying22 rfl i22
        case o2 => rfl
        case w2 => rfl
        case e2 => rfl
        case s2 => intro _ hSw; exact row_range0 hSw.1
      simp only [Act.put, List.setIfInBounds_toArray, List.set_cons_zero, List.set_cons_succ, Array.toArray_toList]
      refine wpAnyH_take (i := 1) (oi := ?oi3) (v := .slice (some ⟨bS, 0, none⟩) k k) ?hi3 (by kernel_rfl) (by kernel_rfl) (by kernel_rfl) (fun _ _ _ h => h) ?hy3 hS1 ?rest3
      case hi3 => simp only [List.getElem?_toArray, List.getElem?_cons_succ, List.getElem?_cons_zero]; rfl
      case hy3 => exact Or.inl ⟨rfl, fun _ hSw => rfl⟩
      simp only [Act.put, List.setIfInBounds_toArray, List.set_cons_zero, List.set_cons_succ]
      refine wpAnyH_take (i := 2) (oi := ?oi4) (v := .string ST) ?hi4 (by kernel_rfl) (by kernel_rfl) (by kernel_rfl) (fun _ _ _ h => h) ?hy4 hS1 ?rest4
      case hi4 => simp only [List.getElem?_toArray, List.getElem?_cons_succ, List.getElem?_cons_zero]; rfl
      case hy4 => exact Or.inl ⟨rfl, fun _ hSw => by have hcv := HCV.out _ hSw.2.1; go_simp⟩
      simp only [Act.put, List.setIfInBounds_toArray, List.set_cons_zero, List.set_cons_succ]
      refine wpAnyH_take (i := 6) (oi := ?oi5) (v := .agg (ints .u8 key).toList.toArray) ?hi5 (by kernel_rfl) (by kernel_rfl) (by kernel_rfl) (fun _ _ _ h => h) ?hy5 hS1 ?rest5
      case hi5 => simp only [List.getElem?_toArray, List.getElem?_cons_succ, List.getElem?_cons_zero]; rfl
      case hy5 => 
        refine yieldsIf_load_mid ?w5 _ ?x5 ?o5 w.heap.size 0 ?e5 (ints .u8 key).toList _ ?s5 Tryd.underlying22 rfl i22
        case o5 => rfl
        case w5 => rfl
        case e5 => rfl
        case s5 => intro _ hSw; exact row_range0 hSw.1
      simp only [Act.put, List.setIfInBounds_toArray, List.set_cons_zero, List.set_cons_succ, Array.toArray_toList]
      refine wpAnyH_take (i := 8) (oi := ?oi6) (v := .slice (some ⟨bS, 0, none⟩) k k) ?hi6 (by kernel_rfl) (by kernel_rfl) (by kernel_rfl) (fun _ _ _ h => h) ?hy6 hS1 ?rest6
      case hi6 => simp only [List.getElem?_toArray, List.getElem?_cons_succ, List.getElem?_cons_zero]; rfl
      case hy6 => exact Or.inl ⟨rfl, fun _ hSw => rfl⟩
      simp only [Act.put, List.setIfInBounds_toArray, List.set_cons_zero, List.set_cons_succ]
      refine wpAnyH_take (i := 9) (oi := ?oi7) (v := .string ST) ?hi7 (by kernel_rfl) (by kernel_rfl) (by kernel_rfl) (fun _ _ _ h => h) ?hy7 hS1 ?rest7
      case hi7 => simp only [List.getElem?_toArray, List.getElem?_cons_succ, List.getElem?_cons_zero]; rfl
      case hy7 => exact Or.inl ⟨rfl, fun _ hSw => by have hcv := HCV.out _ hSw.2.1; go_simp⟩
      simp only [Act.put, List.setIfInBounds_toArray, List.set_cons_zero, List.set_cons_succ]
      refine wpAnyH_ready (rs := [3]) (by kernel_rfl) (by simp) ?_
      refine AllReadyH.cons (o := ?oiu8_3) ?hiu8_3 ?stepu8_3 AllReadyH.nil
      case hiu8_3 => simp only [List.getElem?_toArray, List.getElem?_cons_succ, List.getElem?_cons_zero]; rfl
      intro K hK
      go_simp
      refine hK.out _ _ (hS1.keep ((Below.refl _ _).alloc (Nat.le_refl _) _)) (fun hS2 => ?_)
      clear hK K
      try simp only [Act.put, List.setIfInBounds_toArray, List.set_cons_zero, List.set_cons_succ]
      refine wpAnyH_ready (rs := [4]) (by kernel_rfl) (by simp) ?_
      refine AllReadyH.cons (o := ?oi10) ?hi10 ?step10 AllReadyH.nil
      case hi10 => simp only [List.getElem?_toArray, List.getElem?_cons_succ, List.getElem?_cons_zero]; rfl
      intro K hK
      go_simp
      refine (HOF.out _ hS2.2.2.2 (some ⟨wr.heap.size, 0, none⟩) (HSTR.out _)).mono ?_
      rintro e w3 ⟨rfl, hb3⟩
      refine hK.out _ _ (hS2.keep hb3) (fun hS3 => ?_)
      clear hK K
      try simp only [Act.put, List.setIfInBounds_toArray, List.set_cons_zero, List.set_cons_succ]
      refine wpAnyH_ready (rs := [5]) (by kernel_rfl) (by simp) ?_
      refine AllReadyH.cons (o := ?oi11) ?hi11 ?step11 AllReadyH.nil
      case hi11 => simp only [List.getElem?_toArray, List.getElem?_cons_succ, List.getElem?_cons_zero]; rfl
      intro K hK
      go_simp
      refine (HTX.out _).mono ?_
      rintro e w4 ⟨rfl, hb4⟩
      refine hK.out _ _ (hS3.keep hb4) (fun hS4 => ?_)
      clear hK K
      try simp only [Act.put, List.setIfInBounds_toArray, List.set_cons_zero, List.set_cons_succ]
      refine wpAnyH_ready (rs := [7]) (by kernel_rfl) (by simp) ?_
      refine AllReadyH.cons (o := ?oi12) ?hi12 ?step12 AllReadyH.nil
      case hi12 => simp only [List.getElem?_toArray, List.getElem?_cons_succ, List.getElem?_cons_zero]; rfl
      intro K hK
      go_simp
      refine (HLT.out _).mono ?_
      rintro e w5 ⟨rfl, hb5⟩
      refine hK.out _ _ (hS4.keep hb5) (fun hS5 => ?_)
      clear hK K
      try simp only [Act.put, List.setIfInBounds_toArray, List.set_cons_zero, List.set_cons_succ]
      refine wpAnyH_ready (rs := [10]) (by kernel_rfl) (by simp) ?_
      refine AllReadyH.cons (o := ?oi13) ?hi13 ?step13 AllReadyH.nil
      case hi13 => simp only [List.getElem?_toArray, List.getElem?_cons_succ, List.getElem?_cons_zero]; rfl
      intro K hK
      go_simp
      refine (HRF.out _).mono ?_
      rintro e w6 ⟨rfl, hb6⟩
      refine hK.out _ _ (hS5.keep hb6) (fun hS6 => ?_)
      clear hK K
      try simp only [Act.put, List.setIfInBounds_toArray, List.set_cons_zero, List.set_cons_succ]
      refine wpAnyH_take (i := 11) (oi := ?oi14) (v := .bool true) ?hi14 (by kernel_rfl) (by kernel_rfl) (by kernel_rfl) (fun _ _ _ h => h) ?hy14 hS6 ?rest14
      case hi14 => simp only [List.getElem?_toArray, List.getElem?_cons_succ, List.getElem?_cons_zero]; rfl
      case hy14 => exact Or.inl ⟨rfl, fun _ hSw => by go_simp⟩
      simp only [Act.put, List.setIfInBounds_toArray, List.set_cons_zero, List.set_cons_succ]
      refine wpAnyH_take (i := 12) (oi := ?oi15) (v := .bool true) ?hi15 (by kernel_rfl) (by kernel_rfl) (by kernel_rfl) (fun _ _ _ h => h) ?hy15 hS6 ?rest15
      case hi15 => simp only [List.getElem?_toArray, List.getElem?_cons_succ, List.getElem?_cons_zero]; rfl
      case hy15 => exact Or.inl ⟨rfl, fun _ hSw => rfl⟩
      simp only [Act.put, List.setIfInBounds_toArray, List.set_cons_zero, List.set_cons_succ]
      refine wpAnyH_done (by kernel_rfl) ?_ _
      refine NoPanic.normal ?_
      go_wp2
      go_ret
      exact ⟨rfl, hS6.2.2.1⟩


set_option maxRecDepth 100000 in
theorem contract (H : Type) (enc : TypeId × Value → H) (W : World) (base : Nat) (args : Array Value) (ds gs : List (DataW H)) (before : List MemPlace)
    (hval : ∀ (j : Nat) t v, Tryd.f5.params[j]? = some t → args[j]? = some v → Value.okWide Tryd.prog W .any base t v)
    (hW : DataW.Whole enc Tryd.prog Tryd.f5.params.toList Rows.polyEndsSpec.vars false W args.toList ds gs before) (hL : laidMetH Tryd.prog Rows.polyEndsRow.laid W) :
    Calls Tryd.prog 5 args W fun e W' => ∃ v, e = .returned v ∧ Rows.polyEndsSpec.post enc Tryd.prog Tryd.f5 false true false false W args v W' := by
  have hW' := hW
  obtain ⟨p, q, hA0, hV, rfl, hfz, hnd⟩ := hW
  have hA : DataW.TrodAll enc Tryd.prog W 0 (fun _ => true) true Tryd.f5.params.toList args.toList ds p := hA0
  rw [Tryd.params5] at hA hval
  obtain ⟨v0, vs0, d0, ds0, p0, q0, hargs, rfl, rfl, h0, r0⟩ := trodAll_cons hA
  obtain ⟨v1, vs1, d1, ds1, p1, q1, rfl, rfl, rfl, h1, r1⟩ := trodAll_cons r0
  obtain ⟨v2, vs2, d2, ds2, p2, q2, rfl, rfl, rfl, h2, r2⟩ := trodAll_cons r1
  obtain ⟨rfl, rfl, rfl⟩ := trodAll_nil r2
  obtain rfl : args = #[v0, v1, v2] := by cases args; simp_all
  obtain ⟨xs0, rfl, hl0, hx0⟩ := open_k32 (hval 0 22 v0 rfl rfl) h0
  obtain ⟨n1, rfl, rfl, rfl, wn1⟩ := open_int Tryd.underlying3 (hval 1 3 v1 rfl rfl) h1
  obtain ⟨n2, rfl, rfl, rfl, wn2⟩ := open_int Tryd.underlying5 (hval 2 5 v2 rfl rfl) h2
  refine (walk xs0 hl0 hx0 n1 n2 (bounds_u8 wn2).1 (by have := (bounds_u8 wn2).2; omega) W (tabk_of hL)).mono fun e W' ⟨he, hb⟩ => ?_
  subst he
  exact ⟨_, rfl, law_post rfl rfl (by rw [Tryd.params5]; decide +kernel) hW' rfl hb⟩

theorem laid_met (os : Os) : laidMet Tryd.prog Rows.polyEndsRow.laid ((laidWorld os).forCall (fun _ _ => 0) ⟨#[], #[.agg (ints .u8 (List.replicate 32 0)), .int .i64 0, .int .u8 0], []⟩).memory :=
  laidMet_of_run' 8 (by kernel_rfl) (by kernel_rfl)
theorem reads (os : Os) {H : Type} (enc : TypeId × Value → H) : ∃ places, DataW.whole enc Tryd.prog ((laidWorld os).forCall (fun _ _ => 0) ⟨#[], #[.agg (ints .u8 (List.replicate 32 0)), .int .i64 0, .int .u8 0], []⟩).memory Tryd.f5.params.toList Rows.polyEndsSpec.vars false (#[.agg (ints .u8 (List.replicate 32 0)), .int .i64 0, .int .u8 0] : Array Value).toList 8
    = some ([.agg (List.replicate 32 (.lit (.int .u8 0))), .lit (.int .i64 0), .lit (.int .u8 0)], [], places) :=
  ⟨[], by kernel_rfl⟩

set_option maxRecDepth 100000 in
theorem lifted (os : Os) (started : os.Started) (H : Type) (enc : TypeId × Value → H) (F : Stop.Interp) :
    ReturnsInHanded {} Tryd.checked os 5 .any ((OpenSpec.ofChange Rows.polyEndsSpec).preRow enc Tryd.prog Tryd.f5 Rows.polyEndsRow.domain false Rows.polyEndsRow.laid) (((OpenSpec.ofChange Rows.polyEndsSpec).at F).post enc Tryd.prog Tryd.f5 false true false false) := by
  obtain ⟨places, hx⟩ := reads os enc
  refine returnsInHanded_of_row (C := Tryd.checked) (s := OpenSpec.ofChange Rows.polyEndsSpec) own started (by kernel_rfl) Tryd.func5
    (witness_row_at (enc := enc) (C := Tryd.checked) false (laidWorld os) #[.agg (ints .u8 (List.replicate 32 0)), .int .i64 0, .int .u8 0] rfl (by kernel_rfl) (by kernel_rfl) (by kernel_rfl)
      (OpenSpec.preRow_of_cond 8 hx (by kernel_rfl) (fun k hk => by cases hk) (by kernel_rfl) (laid_met os))) ?_
  intro W base args ds gs before hval hW _ _ _ hL _ _
  exact contract H enc W base args ds gs before hval hW hL

theorem said : Rows.PolyEndsSaid :=
  OpenClaim.holds_of_cond 5 Tryd.f5 rfl rfl rfl rfl rfl rfl rfl ⟨rfl, rfl, rfl, rfl, rfl⟩ rfl rfl rfl rfl rfl (by kernel_rfl) Tryd.func5 (by kernel_rfl)
    (of_decide_eq_true (by kernel_rfl)) (by unfold Func.isWrapper; first | (rw [if_pos (by decide +kernel)]; kernel_rfl) | (rw [if_neg (by decide +kernel)]; exact ⟨rfl, rfl⟩))
    (fun os started H enc _ F => by rw [OpenClaim.pre_eq_preRow]; exact lifted os started H enc F)

theorem plain (f : FuncId) (fn : Func) (hf : Tryd.pinned.checked.prog.funcNamed "sealwax/sealwaxlaw04.PolyEnds" = some f) (hfn : Tryd.pinned.checked.prog.funcs[f]? = some fn) :
    false = Tryd.pinned.checked.prog.looks [] ∧ ∀ (j : Nat) t, fn.params[j]? = some t → Tryd.pinned.checked.prog.wantsStandIn t = false := by
  obtain rfl : f = 5 := Option.some.inj ((show Tryd.prog.funcNamed "sealwax/sealwaxlaw04.PolyEnds" = some 5 by kernel_rfl).symm.trans hf) |>.symm
  obtain rfl : fn = Tryd.f5 := (Option.some.inj (Tryd.func5.symm.trans hfn)).symm
  refine ⟨by kernel_rfl, fun j t ht => ?_⟩
  rw [Tryd.params5] at ht
  have hmem := Array.mem_of_getElem? ht
  exact (show ∀ t ∈ (Tryd.f5.params), Tryd.prog.wantsStandIn t = false from by rw [Tryd.params5]; decide +kernel) t (by rw [Tryd.params5]; exact hmem)

theorem card : Rows.PolyEndsCardSaid :=
  Claim7.holds_tied_plain_at .later [] _ _ _ _ said (fun _ h => by cases h) (by kernel_rfl) (fun _ h => by cases h) polyEnds_row_tie rfl ⟨rfl, rfl⟩ (by kernel_rfl) rfl plain (by kernel_rfl)

end PolyEnds
theorem polyEnds_card : Rows.PolyEndsCardSaid := PolyEnds.card
end Go.Proofs.YtiolflofkoeffaaDoor
