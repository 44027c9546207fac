/-
  There are as many entries as may be, and no more (law BoxFull); for every input.
-/
import Derived.Test.YtlfjhpmachblkaaBx7
namespace Go.Proofs.Ytlfjhpmachblkaa
open Go.ChangeShapes Go.WideShapes Go.ChangeAt Go.RowKit
open Go.Lib (hid)

namespace BoxFull
/-- Entries 1 to k. -/
def L (k : Nat) : List Bv.E := (List.range k).map fun i : Nat => ((i : Int) + 1, (0 : Int), (5 : Int))
theorem L_len (k : Nat) : (L k).length = k := by simp [L]
theorem L_succ (k : Nat) : L (k + 1) = L k ++ [((k : Int) + 1, 0, 5)] := by simp [L, List.range_succ]
theorem L_get (k i : Nat) (h : i < k) : (L k).getD i (0, 0, 0) = ((i : Int) + 1, 0, 5) := by
  rw [List.getD_eq_getElem?_getD, L, List.getElem?_map, List.getElem?_range h]; rfl
theorem L_up (k : Nat) : Bv.Up (L k) := by
  intro i j h1 h2
  rw [L_len] at h2
  rw [L_get k i (by omega), L_get k j h2]
  show (i : Int) + 1 < (j : Int) + 1
  omega
theorem L_cnt (k j : Nat) (h : j < k) : Bv.cnt (L k) ((j : Int) + 1) = j := by
  refine Bv.count_is _ (L k) j (by rw [L_len]; omega) (fun t ht => ?_) (fun t h1 h2 => ?_)
  · rw [L_get k t (by omega)]; exact decide_eq_true (by show (t : Int) + 1 < (j : Int) + 1; omega)
  · rw [L_len] at h2; rw [L_get k t h2]; exact decide_eq_false (by show ¬ (t : Int) + 1 < (j : Int) + 1; omega)
theorem L_hit (k j : Nat) (h : j < k) : Bv.hit (L k) ((j : Int) + 1) = true := by
  unfold Bv.hit
  rw [L_cnt k j h, L_get k j h, L_len]
  simp [h]
theorem okc5 : Bv.okc 5 = true := by decide
theorem add_ok (k : Nat) (h : k < 256) : Bv.addE (L k) 5 0 = 0 ∧ Bv.addX ((k : Int) + 1) (L k) 5 0 = ((k + 1 : Nat) : Int) + 1 ∧ Bv.addL ((k : Int) + 1) (L k) 5 0 = L (k + 1) := by
  have h1 : Bv.addE (L k) 5 0 = 0 := by unfold Bv.addE; rw [okc5, L_len, show (true && Bv.fl 0) = true from by decide, if_pos rfl, if_pos h]
  refine ⟨h1, ?_, ?_⟩
  · unfold Bv.addX; rw [h1, if_pos rfl]; omega
  · unfold Bv.addL; rw [h1, if_pos rfl, L_succ]
set_option maxHeartbeats 4000000 in
set_option maxRecDepth 100000 in
theorem walk (n : Int) (w : World) :
    Calls Try.prog 5 #[.int .i64 n] w fun e w' => e = .returned (.bool true) ∧ Below w.heap.size w w' := by
  have HW := hid (awake18_any w)
  have HN := hid (fun wx => bnew_any 1 1 (by decide) wx)
  have HA := hid (fun b v (k : Nat) wx (hk : k < 256) (hx : IsB wx b v 1 ((k : Int) + 1) (L k)) => badd_any b v 1 ((k : Int) + 1) (L k) 5 0 wx hx (by rw [L_len]; omega) (by omega))
  go_enter Try.func5, Try.ntmps5
  go_wp2_with fail
  refine HW.out.mono ?_
  rintro e w0 ⟨rfl, hb0⟩
  have HB0 := hid hb0
  go_wp2_with fail
  refine (HN.out _).mono ?_
  rintro e w1 ⟨rfl, hi1, hb1⟩
  have S1 := hid (show BxS w w1 w0.heap.size _ 1 1 [] from ⟨hi1, hb0.size, VFresh.nil _, hb0.trans (hb1.mono hb0.size)⟩)
  clear hi1 hb1 hb0 HW HB0
  generalize w0.heap.size = b at *
  go_upto_region 7 with (fail)
  go_loopw [17] (fun i wr => ∃ (p : Nat) (v : Value), p ≤ 256 ∧ i = .int .i64 p ∧ BxS w wr b v 1 ((p : Int) + 1) (L p))
    (fun i _ => 256 - (intOf i).toNat)
  case atStart => exact ⟨0, _, by omega, rfl, S1.out⟩
  case round =>
    obtain ⟨p, v, hp, rfl, hs⟩ := hrel
    have S := hid hs
    clear hs S1
    by_cases hlt : p < 256
    · have hpi : (p : Int) < 256 := by omega
      have hc := HA.out b v p wr hlt S.out.is
      rw [(add_ok p hlt).1, (add_ok p hlt).2.1, (add_ok p hlt).2.2] at hc
      have HC := hid hc
      clear hc
      generalize Bv.addR ((p : Int) + 1) (L p) 5 0 = r at *
      obtain ⟨r0, r1, r2⟩ := r
      unfold beV at HC
      go_wp2_with fail
      refine HC.out.mono ?_
      rintro e w2 ⟨v2, rfl, hi2, hk2⟩
      have S2 := hid (S.out.to hi2 hk2)
      clear hi2 hk2 S HC
      have S3 := hid (S2.out.below ((Below.refl _ w2).alloc (Nat.le_refl _) (.cells #[.int .i64 r0, .int .i64 r1, .int .i64 r2] 38)))
      go_wp2
      exact ⟨⟨p + 1, v2, by omega, by go_num, S3.out⟩, by simp [intOf]; omega⟩
    · obtain rfl : p = 256 := by omega
      clear HA hlt hp
      rw [show ((256 : Nat) : Int) + 1 = 257 from rfl] at S
      -- one more isn't added
      have h1 := fun wx hx => badd_any b v 1 257 (L 256) 5 0 wx hx (by rw [L_len]; omega) (by omega)
      have e1 : Bv.addE (L 256) 5 0 = 8 := by unfold Bv.addE; rw [okc5, L_len, show (true && Bv.fl 0) = true from by decide, if_pos rfl, if_neg (by omega)]
      rw [show Bv.addR 257 (L 256) 5 0 = (0, 0, 0) from by unfold Bv.addR; rw [e1]; rfl, show Bv.addX 257 (L 256) 5 0 = 257 from by unfold Bv.addX; rw [e1]; rfl, show Bv.addL 257 (L 256) 5 0 = L 256 from by unfold Bv.addL; rw [e1]; rfl, e1] at h1
      have H1 := hid h1
      -- one goes
      obtain ⟨j, hj, hjn⟩ := and_le n 255 (by decide)
      rw [show ((255 : Nat) : Int) = 255 from rfl] at hjn
      have hjw : IntKind.i64.wrap (1 + (j : Int)) = (j : Int) + 1 := by rw [IntKind.wrap_i64]; omega
      have h2 := fun v wx hx => remove_any b v 1 257 (L 256) ((j : Int) + 1) wx hx (L_up 256) (by rw [L_len]; omega)
      have e2 : Bv.getE (L 256) ((j : Int) + 1) = 0 := by unfold Bv.getE; rw [L_hit 256 j (by omega)]; rfl
      obtain ⟨L2, hL2⟩ : ∃ L2, Bv.remL (L 256) ((j : Int) + 1) = L2 := ⟨_, rfl⟩
      have hl2 : L2.length = 255 := by
        rw [← hL2]; unfold Bv.remL
        rw [L_hit 256 j (by omega), if_pos rfl, L_cnt 256 j (by omega), List.length_append, List.length_take, List.length_drop, L_len]
        omega
      rw [hL2, e2] at h2
      have H2 := hid h2
      -- and one comes
      have h3 := fun v wx hx => badd_any b v 1 257 L2 6 0 wx hx (by omega) (by omega)
      have e3 : Bv.addE L2 6 0 = 0 := by unfold Bv.addE; rw [hl2]; decide
      rw [show Bv.addR 257 L2 6 0 = (257, 0, 6) from by unfold Bv.addR; rw [e3]; rfl, show Bv.addX 257 L2 6 0 = 258 from by unfold Bv.addX; rw [e3]; rfl, show Bv.addL 257 L2 6 0 = L2 ++ [(257, 0, 6)] from by unfold Bv.addL; rw [e3]; rfl, e3] at h3
      have H3 := hid h3
      have H4 := hid (fun v wx (hx : IsB wx b v 1 258 (L2 ++ [(257, 0, 6)])) => list_any hx (by rw [List.length_append, hl2]; decide))
      have HL := hid (show (L2 ++ [((257 : Int), (0 : Int), (6 : Int))]).length = 256 from by rw [List.length_append, hl2]; rfl)
      generalize L2 ++ [((257 : Int), (0 : Int), (6 : Int))] = L3 at *
      obtain ⟨⟨g0, g1, g2⟩, hg⟩ : ∃ g, Bv.getR (L 256) ((j : Int) + 1) = g := ⟨_, rfl⟩
      rw [hg] at H2
      clear h1 h2 h3 e1 e2 e3 hL2 hl2 hg HN
      generalize L 256 = LL at *
      unfold beV at H1 H2 H3
      go_wp2_with fail
      refine (H1.out _ S.out.is).mono ?_
      rintro e w2 ⟨v2, rfl, hi2, hk2⟩
      have S2 := hid (S.out.to hi2 hk2)
      clear hi2 hk2 S H1
      have S3 := hid (S2.out.below ((Below.refl _ w2).alloc (Nat.le_refl _) (.cells #[.int .i64 0, .int .i64 0, .int .i64 0] 38)))
      go_wp2_with fail
      refine (H2.out _ _ S3.out.is).mono ?_
      rintro e w4 ⟨v4, rfl, hi4, hk4⟩
      have S4 := hid (S3.out.to hi4 hk4)
      clear hi4 hk4 S3 S2 H2
      have S5 := hid (S4.out.below ((Below.refl _ w4).alloc (Nat.le_refl _) (.cells #[.int .i64 g0, .int .i64 g1, .int .i64 g2] 38)))
      go_wp2_with fail
      refine (H3.out _ _ S5.out.is).mono ?_
      rintro e w6 ⟨v6, rfl, hi6, hk6⟩
      have S6 := hid (S5.out.to hi6 hk6)
      clear hi6 hk6 S5 S4 H3
      have S7 := hid (S6.out.below ((Below.refl _ w6).alloc (Nat.le_refl _) (.cells #[.int .i64 257, .int .i64 0, .int .i64 6] 38)))
      go_wp2_with fail
      refine (H4.out _ _ S7.out.is).mono ?_
      rintro e w8 ⟨v8, rfl, ho8, _, hb8⟩
      obtain ⟨ao, cap, hv8⟩ := ownsRow_slice ho8
      rw [HL.out] at hv8
      subst hv8
      have S8 := hid (S7.out.below hb8)
      clear hb8 ho8 S7 S6 H4
      go_wp2
      go_ret
      exact ⟨rfl, S8.out.bel⟩

set_option maxRecDepth 100000 in
theorem contract (H : Type) (enc : TypeId × Value → H) (W : World) (base : Nat) (args : Array Value) (ds gs : List (DataW H)) (before : List MemPlace)
    (hval : ∀ (j : Nat) t v, Try.f5.params[j]? = some t → args[j]? = some v → Value.okWide Try.prog W .any base t v)
    (hW : DataW.Whole enc Try.prog Try.f5.params.toList Rows.boxFullSpec.vars false W args.toList ds gs before) (hL : laidMetH Try.prog Rows.boxFullRow.laid W) :
    Calls Try.prog 5 args W fun e W' => ∃ v, e = .returned v ∧ Rows.boxFullSpec.post enc Try.prog Try.f5 false true false false W args v W' := by
  have hW' := hW
  obtain ⟨p, q, hA0, hV, rfl, hfz, hnd⟩ := hW
  have hA : DataW.TrodAll enc Try.prog W 0 (fun _ => true) true Try.f5.params.toList args.toList ds p := hA0
  rw [Try.params5] at hA hval
  obtain ⟨v0, vs0, d0, ds0, p0, q0, hargs, rfl, rfl, h0, r0⟩ := trodAll_cons hA
  obtain ⟨rfl, rfl, rfl⟩ := trodAll_nil r0
  obtain rfl : args = #[v0] := by cases args; simp_all
  obtain ⟨n0, rfl, rfl, rfl, wn0⟩ := open_int Try.underlying3 (hval 0 3 v0 rfl rfl) h0
  refine (walk n0 W).mono fun e W' ⟨he, hb⟩ => ?_
  subst he
  exact ⟨_, rfl, law_post rfl rfl (by rw [Try.params5]; decide +kernel) hW' rfl hb⟩

theorem laid_met (os : Os) : laidMet Try.prog Rows.boxFullRow.laid ((laidWorld os).forCall (fun _ _ => 0) ⟨#[], #[.int .i64 0], []⟩).memory :=
  laidMet_of_run' 8 (by kernel_rfl) (by kernel_rfl)
theorem reads (os : Os) {H : Type} (enc : TypeId × Value → H) : ∃ places, DataW.whole enc Try.prog ((laidWorld os).forCall (fun _ _ => 0) ⟨#[], #[.int .i64 0], []⟩).memory Try.f5.params.toList Rows.boxFullSpec.vars false (#[.int .i64 0] : Array Value).toList 8
    = some ([.lit (.int .i64 0)], [], places) :=
  ⟨[], by kernel_rfl⟩

set_option maxRecDepth 100000 in
theorem lifted (os : Os) (started : os.Started) (H : Type) (enc : TypeId × Value → H) (F : Stop.Interp) :
    ReturnsInHanded {} Try.checked os 5 .any ((OpenSpec.ofChange Rows.boxFullSpec).preRow enc Try.prog Try.f5 Rows.boxFullRow.domain false Rows.boxFullRow.laid) (((OpenSpec.ofChange Rows.boxFullSpec).at F).post enc Try.prog Try.f5 false true false false) := by
  obtain ⟨places, hx⟩ := reads os enc
  refine returnsInHanded_of_row (C := Try.checked) (s := OpenSpec.ofChange Rows.boxFullSpec) own started (by kernel_rfl) Try.func5
    (witness_row_at (enc := enc) (C := Try.checked) false (laidWorld os) #[.int .i64 0] rfl (by kernel_rfl) (by kernel_rfl) (by kernel_rfl)
      (OpenSpec.preRow_of_cond 8 hx (by kernel_rfl) (fun k hk => by cases hk) (by kernel_rfl) (laid_met os))) ?_
  intro W base args ds gs before hval hW _ _ _ hL _ _
  exact contract H enc W base args ds gs before hval hW hL

theorem said : Rows.BoxFullSaid :=
  OpenClaim.holds_of_cond 5 Try.f5 rfl rfl rfl rfl rfl rfl rfl ⟨rfl, rfl, rfl, rfl, rfl⟩ rfl rfl rfl rfl rfl (by kernel_rfl) Try.func5 (by kernel_rfl)
    (of_decide_eq_true (by kernel_rfl)) (by unfold Func.isWrapper; first | (rw [if_pos (by decide +kernel)]; kernel_rfl) | (rw [if_neg (by decide +kernel)]; exact ⟨rfl, rfl⟩))
    (fun os started H enc _ F => by rw [OpenClaim.pre_eq_preRow]; exact lifted os started H enc F)


end BoxFull
theorem boxFull_said : Rows.BoxFullSaid := BoxFull.said
end Go.Proofs.Ytlfjhpmachblkaa
