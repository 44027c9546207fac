/-
  Of each length, also at the ends of blocks, the sum is the document's (law ShaLengths); for every input.
-/
import Derived.Test.YtnhebfafiikilaaDoorLMacNoughts
import Derived.Test.YtnhebfafiikilaaDoorRefOf
import Derived.Deep.OwnRows
namespace Go.Proofs.YtnhebfafiikilaaDoor
open Go.ChangeShapes Go.WideShapes Go.ChangeAt Go.RowKit
open Go.Lib (hid)

theorem made_ints (n : Nat) : madeCells #[.int .u8 0] n = ints .u8 (List.replicate n 0) := by
  apply Array.ext_getElem?
  intro i
  by_cases h : i < n
  · simp [madeCells, ints, h, Nat.mod_one]
  · rw [Array.getElem?_eq_none (by rw [size_madeCells]; omega), Array.getElem?_eq_none (by rw [ints_size]; simp; omega)]
theorem run_made (n : Nat) (h : n ≤ 1000000) (w : World) : (Instr.makeSlice 47 (.int .i64 (n : Int)) (.int .i64 (n : Int))).run Tryd.prog w = .ok (.slice (some ⟨w.heap.size, 0, none⟩) n n) (w.alloc (.cells (ints .u8 (List.replicate n 0)) 5)) := by
  rw [← made_ints]
  exact run_make_row' 47 5 (.int .u8 0) 1 Tryd.underlying47 info5 rfl .i64 .i64 n (by omega) (by omega) w

namespace ShaLengths
theorem fill_set (k J x : Nat) (h : k < J) : (List.replicate k x ++ List.replicate (J - k) 0).set k x = List.replicate (k + 1) x ++ List.replicate (J - (k + 1)) 0 := by
  rw [List.set_append_right _ _ (by simp), List.length_replicate, Nat.sub_self, show J - k = (J - (k + 1)) + 1 from by omega, List.replicate_succ, List.set_cons_zero, List.replicate_succ', List.append_assoc]
  rfl
theorem keep {b B : Nat} {l : List Nat} {u w w' : World} (h : Row w b .u8 5 l ∧ Below B u w ∧ Tabs w ∧ B ≤ w.heap.size) (hb : Below w.heap.size w w') :
    Row w' b .u8 5 l ∧ Below B u w' ∧ Tabs w' ∧ B ≤ w'.heap.size :=
  ⟨h.1.below hb h.1.lt, h.2.1.trans (hb.mono h.2.2.2), h.2.2.1.below hb (Nat.le_refl _), Nat.le_trans h.2.2.2 hb.size⟩

set_option maxHeartbeats 4000000 in
set_option maxRecDepth 100000 in
theorem walk (n b : Int) (hb0 : 0 ≤ b) (hb1 : b < 256) (w : World) (hT : Tabs w) :
    Calls Tryd.prog 5 #[.int .i64 n, .int .u8 b] w fun e w' => e = .returned (.bool true) ∧ Below w.heap.size w w' := by
  have HT := hid hT
  clear hT
  obtain ⟨J, hJ, hj⟩ := and_le n 255 (by omega)
  rw [show ((255 : Nat) : Int) = 255 from rfl] at hj
  obtain ⟨x, hx⟩ : ∃ x : Nat, b = (x : Int) := ⟨b.toNat, by omega⟩
  subst hx
  have hx256 : x < 256 := by omega
  clear hb0 hb1
  have hmk := fun wx => run_made J (by omega) wx
  go_enter Tryd.func5, Tryd.ntmps5
  go_wp2_with fail
  refine (awake_any _ HT.out).mono ?_
  rintro e w1 ⟨rfl, hb1⟩
  go_upto_region 6 with (fail)
  clear hmk hj
  have hb2 : Below w.heap.size w (w1.alloc (.cells (ints .u8 (List.replicate J 0)) 5)) := hb1.alloc hb1.size _
  have rb : Row (w1.alloc (.cells (ints .u8 (List.replicate J 0)) 5)) w1.heap.size .u8 5 (List.replicate 0 x ++ List.replicate (J - 0) 0) := by simp only [List.replicate_zero, List.nil_append, Nat.sub_zero]; exact heap_alloc_new _ _
  have hwb := hb1.size
  have HRB := hid rb
  have HB2 := hid hb2
  clear hb1 hb2 rb
  generalize w1.alloc _ = w2 at *
  generalize w1.heap.size = bS at *
  go_loopw [15] (fun i wr => ∃ k : Nat, k ≤ J ∧ i = .int .i64 k ∧ Row wr bS .u8 5 (List.replicate k x ++ List.replicate (J - k) 0) ∧ Below w.heap.size w wr)
    (fun i _ => J - (intOf i).toNat)
  case atStart => exact ⟨0, by omega, rfl, HRB.out, HB2.out⟩
  case round =>
    clear HRB HB2
    obtain ⟨k, hk, rfl, hrow, hbel⟩ := hrel
    by_cases hlt : k < J
    · have hc := hrow.cell k (by simp; omega)
      have hf := hrow.free k
      have hr' := hrow.set k x
      rw [fill_set k J x hlt] at hr'
      have hb' := hbel.setCell (p := ⟨bS, k, none⟩) hwb (.int .u8 (x : Int))
      have HR := hid hr'
      have HB := hid hb'
      clear hr' hb' hrow hbel
      go_wp2
      go_roundw
      case rel =>
        first
          | exact ⟨k + 1, by omega, by go_num, HR.out, HB.out⟩
          | ((repeat apply Exists.intro); refine ⟨?_, rfl⟩; exact ⟨k + 1, by omega, by go_num, HR.out, HB.out⟩)
      case measure => simp [intOf]; omega
    · obtain rfl : k = J := by omega
      rw [Nat.sub_self, List.replicate_zero, List.append_nil] at hrow
      have hlt256 : ∀ y ∈ List.replicate k x, y < 256 := by intro y hy; rw [List.mem_replicate] at hy; omega
      have HLL := hid (show (List.replicate k x).length = k from by simp)
      have HOF := hid (fun wx hx => of_one (List.replicate k x) hlt256 (by simp; omega) wx hx 9)
      have HRF := hid (fun wx => refof_any (List.replicate k x) hlt256 (by simp; omega) wx)
      have HDN := hid (digest_length (List.replicate k x))
      have HTX := hid (fun wx => text_any (Sx.digest (List.replicate k x)) HDN.out wx)
      have HS0 := hid (⟨hrow, hbel, HT.out.below hbel (Nat.le_refl _), hbel.size⟩ : Row wr bS .u8 5 (List.replicate k x) ∧ Below w.heap.size w wr ∧ Tabs wr ∧ w.heap.size ≤ wr.heap.size)
      have HCV := hid (fun (wx : World) (h : Row wx bS .u8 5 (List.replicate k x)) => (show (convert 47 9 (.slice (some ⟨bS, 0, none⟩) k k)).run Tryd.prog wx = .ok (.string (str (List.replicate k x))) wx from by
        have := run_str wx bS 0 k k 5 (List.replicate k x) h (by simp)
        rwa [List.drop_zero, List.take_of_length_le (by simp)] at this))
      clear hrow hbel hlt256
      generalize Sx.digest (List.replicate k x) = D at *
      generalize List.replicate k x = T at *
      generalize hS : str T = S at *
      clear hS
      go_upto_region 10 with (fail)
      refine wp_region_noPanic ?_
      refine wp_region_held_drew (S := fun w' => Row w' bS .u8 5 T ∧ Below w.heap.size w w' ∧ Tabs w' ∧ w.heap.size ≤ w'.heap.size) (by kernel_rfl) (keep HS0.out ((Below.refl _ _).drew)) (fun hS1 => ?_)
      change wpAnyH _ _ _ _ _ 10 _ _ _
      refine wpAnyH_take (i := 0) (oi := ?oi2) (v := .slice (some ⟨bS, 0, none⟩) k k) ?hi2 (by kernel_rfl) (by kernel_rfl) (by kernel_rfl) (fun _ _ _ h => h) ?hy2 hS1 ?rest2
      case hi2 => simp only [List.getElem?_toArray, List.getElem?_cons_zero]; rfl
      case hy2 => exact Or.inl ⟨rfl, fun _ hSw => rfl⟩
      simp only [Act.put, List.setIfInBounds_toArray, List.set_cons_zero, List.set_cons_succ]
      refine wpAnyH_take (i := 1) (oi := ?oi3) (v := .string S) ?hi3 (by kernel_rfl) (by kernel_rfl) (by kernel_rfl) (fun _ _ _ h => h) ?hy3 hS1 ?rest3
      case hi3 => simp only [List.getElem?_toArray, List.getElem?_cons_succ, List.getElem?_cons_zero]; rfl
      case hy3 => exact Or.inl ⟨rfl, fun _ hSw => by have hcv := HCV.out _ hSw.1; go_simp⟩
      simp only [Act.put, List.setIfInBounds_toArray, List.set_cons_zero, List.set_cons_succ]
      refine wpAnyH_take (i := 5) (oi := ?oi4) (v := .slice (some ⟨bS, 0, none⟩) k k) ?hi4 (by kernel_rfl) (by kernel_rfl) (by kernel_rfl) (fun _ _ _ h => h) ?hy4 hS1 ?rest4
      case hi4 => simp only [List.getElem?_toArray, List.getElem?_cons_succ, List.getElem?_cons_zero]; rfl
      case hy4 => exact Or.inl ⟨rfl, fun _ hSw => rfl⟩
      simp only [Act.put, List.setIfInBounds_toArray, List.set_cons_zero, List.set_cons_succ]
      refine wpAnyH_take (i := 6) (oi := ?oi5) (v := .string S) ?hi5 (by kernel_rfl) (by kernel_rfl) (by kernel_rfl) (fun _ _ _ h => h) ?hy5 hS1 ?rest5
      case hi5 => simp only [List.getElem?_toArray, List.getElem?_cons_succ, List.getElem?_cons_zero]; rfl
      case hy5 => exact Or.inl ⟨rfl, fun _ hSw => by have hcv := HCV.out _ hSw.1; go_simp⟩
      simp only [Act.put, List.setIfInBounds_toArray, List.set_cons_zero, List.set_cons_succ]
      refine wpAnyH_ready (rs := [2]) (by kernel_rfl) (by simp) ?_
      refine AllReadyH.cons (o := ?oiu6_2) ?hiu6_2 ?stepu6_2 AllReadyH.nil
      case hiu6_2 => simp only [List.getElem?_toArray, List.getElem?_cons_succ, List.getElem?_cons_zero]; rfl
      intro K hK
      go_simp
      refine hK.out _ _ (keep hS1 ((Below.refl _ _).alloc (Nat.le_refl _) _)) (fun hS2 => ?_)
      clear hK K
      try simp only [Act.put, List.setIfInBounds_toArray, List.set_cons_zero, List.set_cons_succ]
      refine wpAnyH_ready (rs := [3]) (by kernel_rfl) (by simp) ?_
      refine AllReadyH.cons (o := ?oi8) ?hi8 ?step8 AllReadyH.nil
      case hi8 => simp only [List.getElem?_toArray, List.getElem?_cons_succ, List.getElem?_cons_zero]; rfl
      intro K hK
      go_simp
      refine (HOF.out wr.drew hS1.2.2.1).mono ?_
      rintro e w3 ⟨rfl, hb3⟩
      refine hK.out _ _ (keep hS1 hb3) (fun hS3 => ?_)
      clear hK K
      try simp only [Act.put, List.setIfInBounds_toArray, List.set_cons_zero, List.set_cons_succ]
      refine wpAnyH_ready (rs := [4]) (by kernel_rfl) (by simp) ?_
      refine AllReadyH.cons (o := ?oi9) ?hi9 ?step9 AllReadyH.nil
      case hi9 => simp only [List.getElem?_toArray, List.getElem?_cons_succ, List.getElem?_cons_zero]; rfl
      intro K hK
      go_simp
      refine (HTX.out _).mono ?_
      rintro e w4 ⟨rfl, hb4⟩
      refine hK.out _ _ (keep hS3 hb4) (fun hS4 => ?_)
      clear hK K
      try simp only [Act.put, List.setIfInBounds_toArray, List.set_cons_zero, List.set_cons_succ]
      refine wpAnyH_ready (rs := [7]) (by kernel_rfl) (by simp) ?_
      refine AllReadyH.cons (o := ?oi10) ?hi10 ?step10 AllReadyH.nil
      case hi10 => simp only [List.getElem?_toArray, List.getElem?_cons_succ, List.getElem?_cons_zero]; rfl
      intro K hK
      go_simp
      refine (HRF.out _).mono ?_
      rintro e w5 ⟨rfl, hb5⟩
      refine hK.out _ _ (keep hS4 hb5) (fun hS5 => ?_)
      clear hK K
      try simp only [Act.put, List.setIfInBounds_toArray, List.set_cons_zero, List.set_cons_succ]
      refine wpAnyH_take (i := 8) (oi := ?oi11) (v := .bool true) ?hi11 (by kernel_rfl) (by kernel_rfl) (by kernel_rfl) (fun _ _ _ h => h) ?hy11 hS5 ?rest11
      case hi11 => simp only [List.getElem?_toArray, List.getElem?_cons_succ, List.getElem?_cons_zero]; rfl
      case hy11 => exact Or.inl ⟨rfl, fun _ hSw => by go_simp⟩
      simp only [Act.put, List.setIfInBounds_toArray, List.set_cons_zero, List.set_cons_succ]
      refine wpAnyH_take (i := 9) (oi := ?oi12) (v := .bool true) ?hi12 (by kernel_rfl) (by kernel_rfl) (by kernel_rfl) (fun _ _ _ h => h) ?hy12 hS5 ?rest12
      case hi12 => simp only [List.getElem?_toArray, List.getElem?_cons_succ, List.getElem?_cons_zero]; rfl
      case hy12 => exact Or.inl ⟨rfl, fun _ hSw => rfl⟩
      simp only [Act.put, List.setIfInBounds_toArray, List.set_cons_zero, List.set_cons_succ]
      refine wpAnyH_done (by kernel_rfl) ?_ _
      refine NoPanic.normal ?_
      go_wp2
      go_ret
      exact ⟨rfl, hS5.2.1⟩


theorem contract (H : Type) (enc : TypeId × Value → H) (W : World) (base : Nat) (args : Array Value) (ds gs : List (DataW H)) (before : List MemPlace)
    (hval : ∀ (j : Nat) t v, Tryd.f5.params[j]? = some t → args[j]? = some v → Value.okWide Tryd.prog W .any base t v)
    (hW : DataW.Whole enc Tryd.prog Tryd.f5.params.toList Rows.shaLengthsSpec.vars false W args.toList ds gs before) (hL : laidMetH Tryd.prog Rows.shaLengthsRow.laid W) :
    Calls Tryd.prog 5 args W fun e W' => ∃ v, e = .returned v ∧ Rows.shaLengthsSpec.post enc Tryd.prog Tryd.f5 false true false false W args v W' := by
  have hW' := hW
  obtain ⟨p, q, hA0, hV, rfl, hfz, hnd⟩ := hW
  have hA : DataW.TrodAll enc Tryd.prog W 0 (fun _ => true) true Tryd.f5.params.toList args.toList ds p := hA0
  rw [Tryd.params5] at hA hval
  obtain ⟨v0, vs0, d0, ds0, p0, q0, hargs, rfl, rfl, h0, r0⟩ := trodAll_cons hA
  obtain ⟨v1, vs1, d1, ds1, p1, q1, rfl, rfl, rfl, h1, r1⟩ := trodAll_cons r0
  obtain ⟨rfl, rfl, rfl⟩ := trodAll_nil r1
  obtain rfl : args = #[v0, v1] := by cases args; simp_all
  obtain ⟨n0, rfl, rfl, rfl, wn0⟩ := open_int Tryd.underlying3 (hval 0 3 v0 rfl rfl) h0
  obtain ⟨n1, rfl, rfl, rfl, wn1⟩ := open_int Tryd.underlying5 (hval 1 5 v1 rfl rfl) h1
  refine (walk n0 n1 (bounds_u8 wn1).1 (by have := (bounds_u8 wn1).2; omega) W (tabs_of hL)).mono fun e W' ⟨he, hb⟩ => ?_
  subst he
  exact ⟨_, rfl, law_post rfl rfl (by rw [Tryd.params5]; decide +kernel) hW' rfl hb⟩

theorem laid_met (os : Os) : laidMet Tryd.prog Rows.shaLengthsRow.laid ((laidWorld os).forCall (fun _ _ => 0) ⟨#[], #[.int .i64 0, .int .u8 0], []⟩).memory :=
  laidMet_of_run' 8 (by kernel_rfl) (by kernel_rfl)
theorem reads (os : Os) {H : Type} (enc : TypeId × Value → H) : ∃ places, DataW.whole enc Tryd.prog ((laidWorld os).forCall (fun _ _ => 0) ⟨#[], #[.int .i64 0, .int .u8 0], []⟩).memory Tryd.f5.params.toList Rows.shaLengthsSpec.vars false (#[.int .i64 0, .int .u8 0] : Array Value).toList 8
    = some ([.lit (.int .i64 0), .lit (.int .u8 0)], [], places) :=
  ⟨[], by kernel_rfl⟩

set_option maxRecDepth 100000 in
theorem lifted (os : Os) (started : os.Started) (H : Type) (enc : TypeId × Value → H) (F : Stop.Interp) :
    ReturnsInHanded {} Tryd.checked os 5 .any ((OpenSpec.ofChange Rows.shaLengthsSpec).preRow enc Tryd.prog Tryd.f5 Rows.shaLengthsRow.domain false Rows.shaLengthsRow.laid) (((OpenSpec.ofChange Rows.shaLengthsSpec).at F).post enc Tryd.prog Tryd.f5 false true false false) := by
  obtain ⟨places, hx⟩ := reads os enc
  refine returnsInHanded_of_row (C := Tryd.checked) (s := OpenSpec.ofChange Rows.shaLengthsSpec) own started (by kernel_rfl) Tryd.func5
    (witness_row_at (enc := enc) (C := Tryd.checked) false (laidWorld os) #[.int .i64 0, .int .u8 0] rfl (by kernel_rfl) (by kernel_rfl) (by kernel_rfl)
      (OpenSpec.preRow_of_cond 8 hx (by kernel_rfl) (fun k hk => by cases hk) (by kernel_rfl) (laid_met os))) ?_
  intro W base args ds gs before hval hW _ _ _ hL _ _
  exact contract H enc W base args ds gs before hval hW hL

theorem said : Rows.ShaLengthsSaid :=
  OpenClaim.holds_of_cond 5 Tryd.f5 rfl rfl rfl rfl rfl rfl rfl ⟨rfl, rfl, rfl, rfl, rfl⟩ rfl rfl rfl rfl rfl (by kernel_rfl) Tryd.func5 (by kernel_rfl)
    (of_decide_eq_true (by kernel_rfl)) (by unfold Func.isWrapper; first | (rw [if_pos (by decide +kernel)]; kernel_rfl) | (rw [if_neg (by decide +kernel)]; exact ⟨rfl, rfl⟩))
    (fun os started H enc _ F => by rw [OpenClaim.pre_eq_preRow]; exact lifted os started H enc F)

theorem plain (f : FuncId) (fn : Func) (hf : Tryd.pinned.checked.prog.funcNamed "sealwax/sealwaxlaw01.ShaLengths" = some f) (hfn : Tryd.pinned.checked.prog.funcs[f]? = some fn) :
    false = Tryd.pinned.checked.prog.looks [] ∧ ∀ (j : Nat) t, fn.params[j]? = some t → Tryd.pinned.checked.prog.wantsStandIn t = false := by
  obtain rfl : f = 5 := Option.some.inj ((show Tryd.prog.funcNamed "sealwax/sealwaxlaw01.ShaLengths" = some 5 by kernel_rfl).symm.trans hf) |>.symm
  obtain rfl : fn = Tryd.f5 := (Option.some.inj (Tryd.func5.symm.trans hfn)).symm
  refine ⟨by kernel_rfl, fun j t ht => ?_⟩
  rw [Tryd.params5] at ht
  have hmem := Array.mem_of_getElem? ht
  exact (show ∀ t ∈ (Tryd.f5.params), Tryd.prog.wantsStandIn t = false from by rw [Tryd.params5]; decide +kernel) t (by rw [Tryd.params5]; exact hmem)

theorem card : Rows.ShaLengthsCardSaid :=
  Claim7.holds_tied_plain_at .later [] _ _ _ _ said (fun _ h => by cases h) (by kernel_rfl) (fun _ h => by cases h) shaLengths_row_tie rfl ⟨rfl, rfl⟩ (by kernel_rfl) rfl plain (by kernel_rfl)

end ShaLengths
theorem shaLengths_card : Rows.ShaLengthsCardSaid := ShaLengths.card
end Go.Proofs.YtnhebfafiikilaaDoor
