/-
  Of each length, also at the ends of classes, the text comes back; too long ones are none (law PadSizes); for every input.
-/
import Derived.Test.YtlehhalakjjnkaaLPad
namespace Go.Proofs.Ytlehhalakjjnkaa
open Go.ChangeShapes Go.WideShapes Go.ChangeAt Go.RowKit
open Go.Lib (hid)

theorem rep_set (k j b : Nat) (h : k < j) : (List.replicate k b ++ List.replicate (j - k) 0).set k b = List.replicate (k + 1) b ++ List.replicate (j - (k + 1)) 0 := by
  apply List.ext_getElem?
  intro i
  rw [List.getElem?_set]
  simp only [List.getElem?_append, List.getElem?_replicate, List.length_append, List.length_replicate]
  by_cases hik : k = i
  · subst hik
    simp [show k < k + (j - k) from by omega]
  · by_cases hlt : i < k
    · simp [hlt, hik, show i < k + 1 from by omega]
    · simp only [hlt, hik, if_false, show ¬ i < k + 1 from by omega]
      congr 1
      apply propext
      omega
namespace PadSizes
set_option maxHeartbeats 2000000 in
set_option maxRecDepth 100000 in
theorem walk (n : Int) (b : Nat) (hb : b < 256) (w : World) :
    Calls Try.prog 5 #[.int .i64 n, .int .u8 (b : Int)] w fun e w' => e = .returned (.bool true) ∧ Below w.heap.size w w' := by
  obtain ⟨j, hj, han⟩ := and_le n 8191 (by decide)
  rw [show ((8191 : Nat) : Int) = 8191 from rfl] at han
  have tb : ∀ x ∈ List.replicate j b, x < 256 := fun x hx => by rw [List.eq_of_mem_replicate hx]; exact hb
  have tl : (List.replicate j b).length = j := by simp
  have HPK := hid (fun wx => pack_any (List.replicate j b) tb (by omega) wx)
  have HUN := hid (fun a c wx hx hcap => unpack_any a (Pd.pages (List.replicate j b)) c wx hx hcap (by rw [Pd.pages_length]; exact Nat.le_trans (Pd.cls_le _) (by omega)) (Pd.pages_lt _ tb) (Nat.le_trans (Pd.pages_flat_le _) (by omega)))
  have HPL := hid (Pd.pages_length (List.replicate j b))
  have HOP := hid (Pd.out_pages (List.replicate j b))
  have HUO := hid (Pd.uok_pages (List.replicate j b))
  rw [tl] at HPK HPL HOP HUO
  have HRC := hid (fun wx => rclass_any (j : Int) wx)
  have hmk := fun wx => run_made j (by omega) wx
  have HCN := hid (Pd.cls_none j)
  have HCS := hid (Pd.cls_some j)
  have HSET := hid (fun k h => rep_set k j b h)
  go_enter Try.func5, Try.ntmps5
  go_upto_region 3 with (go_at_call 7; refine (awake12_any _).mono ?_; rintro e w0 ⟨rfl, hb0⟩)
  go_upto_region 5 with (fail)
  have HR1 := hid (show Row (w0.alloc (.cells (ints .u8 (List.replicate j 0)) 5)) w0.heap.size .u8 5 (List.replicate j 0) from heap_alloc_new _ _)
  have HB1 := hid (hb0.alloc hb0.size (.cells (ints .u8 (List.replicate j 0)) 5))
  have hs0 := hb0.size
  clear hmk han hb0
  generalize w0.alloc _ = w1 at *
  generalize w0.heap.size = g at *
  go_upto_region 6 with (fail)
  go_loopw [6, 19] (fun x i wr => ∃ k : Nat, k ≤ j ∧ i = .int .i64 k ∧ Row wr g .u8 5 (List.replicate k b ++ List.replicate (j - k) 0) ∧ Below w.heap.size w wr)
    (fun _ i _ => j - (intOf i).toNat)
  case atStart => exact ⟨0, by omega, rfl, by simpa using HR1.out, HB1.out⟩
  case round =>
    clear HR1 HB1
    obtain ⟨k, hk, rfl, hrow, hbel⟩ := hrel
    have HROW := hid hrow
    have HBEL := hid hbel
    by_cases hlt : k < j
    · have c0 := hrow.cell k (by simp; omega)
      have f0 := hrow.free k
      have HR2 := hid (hrow.set k b)
      rw [HSET.out k hlt] at HR2
      have HB2 := hid (hbel.setCell (p := ⟨g, k, none⟩) hs0 (.int .u8 (b : Int)))
      clear hrow hbel
      go_wp2
      exact ⟨⟨k + 1, by omega, by go_num, HR2.out, HB2.out⟩, by simp [intOf]; omega⟩
    · obtain rfl : k = j := by omega
      rw [Nat.sub_self, List.replicate_zero, List.append_nil] at HROW
      have hcv := run_str wr g 0 k k 5 _ HROW.out (by simp)
      rw [List.drop_zero, List.take_of_length_le (by simp)] at hcv
      clear hrow hbel hlt hk
      generalize List.replicate k b = t at *
      generalize hS : str t = S at *
      have HS := hid hS
      clear hS
      go_wp2_with fail
      refine (HPK.out _).mono ?_
      rintro e w2 ⟨v2, rfl, hown2, hb2⟩
      have HB2 := hid (HBEL.out.trans (hb2.mono HBEL.out.size))
      have HROW2 := hid (HROW.out.below hb2 HROW.out.lt)
      obtain ⟨a2, c2, rfl, hs2, hcap2, _⟩ := hown2.capP
      have HS2 := hid hs2
      clear hb2 hown2 hs2 HPK hcv HBEL HROW
      go_wp2_with fail
      refine (HUN.out _ _ _ HS2.out hcap2).mono ?_
      rintro e w3 ⟨rfl, hb3⟩
      have HB3 := hid (HB2.out.trans (hb3.mono HB2.out.size))
      have HROW3 := hid (HROW2.out.below hb3 HROW2.out.lt)
      clear hb3 HS2 HB2 HROW2 HUN hcap2
      by_cases hbig : 7672 < k
      · have h0 : Pd.cls (k : Int) = 0 := by
          rcases Nat.eq_zero_or_pos (Pd.cls (k : Int)) with h | h
          · exact h
          · have := (Pd.cls_fits _ h)
            have := Pd.cls_le (k : Int)
            omega
        have hd : decide (0 < Pd.cls (k : Int)) = false := by rw [h0]; rfl
        rw [h0] at HPL
        have hn : Pd.pages t = [] := List.eq_nil_of_length_eq_zero HPL.out
        have hu : Pd.uok (Pd.pages t) = false := by rw [hn]; exact Pd.uok_nil
        rw [hn, Pd.uok_nil, hd]
        clear hn hu hd h0 HOP HUO HPL HRC HCN HCS
        generalize str (Pd.out []) = SO at *
        have hbig' : (7672 : Int) < (k : Int) := by omega
        go_wp2
        go_ret
        exact ⟨by rfl, HB3.out⟩
      · have hpos := HCS.out (by omega)
        have hd : decide (0 < Pd.cls (k : Int)) = true := decide_eq_true hpos
        rw [HOP.out hpos, HUO.out hpos, hd, HS.out, HPL.out]
        clear hd HOP HUO HPL HCN HCS
        have hcv := run_str w3 g 0 k k 5 _ HROW3.out (by omega)
        rw [List.drop_zero, List.take_of_length_le (by omega), HS.out] at hcv
        have hst : (S.toList == S.toList) = true := beq_self_eq_true _
        have hbig' : ¬ (7672 : Int) < (k : Int) := by omega
        generalize Pd.cls (k : Int) = c at *
        have hcc : ((c : Int) == (c : Int)) = true := beq_self_eq_true _
        go_wp2_with fail
        refine (HRC.out _).mono ?_
        rintro e w4 ⟨rfl, hb4⟩
        have HB4 := hid (HB3.out.trans (hb4.mono HB3.out.size))
        clear hb4 HB3
        go_wp2
        go_ret
        exact ⟨by rfl, HB4.out⟩
theorem walk' (n m : Int) (wf : (Lit.int .u8 m).wf = true) (w : World) :
    Calls Try.prog 5 #[.int .i64 n, .int .u8 m] w fun e w' => e = .returned (.bool true) ∧ Below w.heap.size w w' := by
  obtain ⟨h0, h1⟩ := bounds_u8 wf
  obtain ⟨b, rfl⟩ : ∃ b : Nat, m = (b : Int) := ⟨m.toNat, by omega⟩
  exact walk n b (by omega) w

set_option maxRecDepth 100000 in
theorem contract (H : Type) (enc : TypeId × Value → H) (W : World) (base : Nat) (args : Array Value) (ds gs : List (DataW H)) (before : List MemPlace)
    (hval : ∀ (j : Nat) t v, Try.f5.params[j]? = some t → args[j]? = some v → Value.okWide Try.prog W .any base t v)
    (hW : DataW.Whole enc Try.prog Try.f5.params.toList Rows.padSizesSpec.vars false W args.toList ds gs before) (hL : laidMetH Try.prog Rows.padSizesRow.laid W) :
    Calls Try.prog 5 args W fun e W' => ∃ v, e = .returned v ∧ Rows.padSizesSpec.post enc Try.prog Try.f5 false true false false W args v W' := by
  have hW' := hW
  obtain ⟨p, q, hA0, hV, rfl, hfz, hnd⟩ := hW
  have hA : DataW.TrodAll enc Try.prog W 0 (fun _ => true) true Try.f5.params.toList args.toList ds p := hA0
  rw [Try.params5] at hA hval
  obtain ⟨v0, vs0, d0, ds0, p0, q0, hargs, rfl, rfl, h0, r0⟩ := trodAll_cons hA
  obtain ⟨v1, vs1, d1, ds1, p1, q1, rfl, rfl, rfl, h1, r1⟩ := trodAll_cons r0
  obtain ⟨rfl, rfl, rfl⟩ := trodAll_nil r1
  obtain rfl : args = #[v0, v1] := by cases args; simp_all
  obtain ⟨n0, rfl, rfl, rfl, wn0⟩ := open_int Try.underlying3 (hval 0 3 v0 rfl rfl) h0
  obtain ⟨n1, rfl, rfl, rfl, wn1⟩ := open_int Try.underlying5 (hval 1 5 v1 rfl rfl) h1
  refine (walk' n0 n1 wn1 W).mono fun e W' ⟨he, hb⟩ => ?_
  subst he
  exact ⟨_, rfl, law_post rfl rfl (by rw [Try.params5]; decide +kernel) hW' rfl hb⟩

theorem laid_met (os : Os) : laidMet Try.prog Rows.padSizesRow.laid ((laidWorld os).forCall (fun _ _ => 0) ⟨#[], #[.int .i64 0, .int .u8 0], []⟩).memory :=
  laidMet_of_run' 8 (by kernel_rfl) (by kernel_rfl)
theorem reads (os : Os) {H : Type} (enc : TypeId × Value → H) : ∃ places, DataW.whole enc Try.prog ((laidWorld os).forCall (fun _ _ => 0) ⟨#[], #[.int .i64 0, .int .u8 0], []⟩).memory Try.f5.params.toList Rows.padSizesSpec.vars false (#[.int .i64 0, .int .u8 0] : Array Value).toList 8
    = some ([.lit (.int .i64 0), .lit (.int .u8 0)], [], places) :=
  ⟨[], by kernel_rfl⟩

set_option maxRecDepth 100000 in
theorem lifted (os : Os) (started : os.Started) (H : Type) (enc : TypeId × Value → H) (F : Stop.Interp) :
    ReturnsInHanded {} Try.checked os 5 .any ((OpenSpec.ofChange Rows.padSizesSpec).preRow enc Try.prog Try.f5 Rows.padSizesRow.domain false Rows.padSizesRow.laid) (((OpenSpec.ofChange Rows.padSizesSpec).at F).post enc Try.prog Try.f5 false true false false) := by
  obtain ⟨places, hx⟩ := reads os enc
  refine returnsInHanded_of_row (C := Try.checked) (s := OpenSpec.ofChange Rows.padSizesSpec) own started (by kernel_rfl) Try.func5
    (witness_row_at (enc := enc) (C := Try.checked) false (laidWorld os) #[.int .i64 0, .int .u8 0] rfl (by kernel_rfl) (by kernel_rfl) (by kernel_rfl)
      (OpenSpec.preRow_of_cond 8 hx (by kernel_rfl) (fun k hk => by cases hk) (by kernel_rfl) (laid_met os))) ?_
  intro W base args ds gs before hval hW _ _ _ hL _ _
  exact contract H enc W base args ds gs before hval hW hL

theorem said : Rows.PadSizesSaid :=
  OpenClaim.holds_of_cond 5 Try.f5 rfl rfl rfl rfl rfl rfl rfl ⟨rfl, rfl, rfl, rfl, rfl⟩ rfl rfl rfl rfl rfl (by kernel_rfl) Try.func5 (by kernel_rfl)
    (of_decide_eq_true (by kernel_rfl)) (by unfold Func.isWrapper; first | (rw [if_pos (by decide +kernel)]; kernel_rfl) | (rw [if_neg (by decide +kernel)]; exact ⟨rfl, rfl⟩))
    (fun os started H enc _ F => by rw [OpenClaim.pre_eq_preRow]; exact lifted os started H enc F)


end PadSizes
theorem padSizes_said : Rows.PadSizesSaid := PadSizes.said
end Go.Proofs.Ytlehhalakjjnkaa
