/-
  For every depth and every list of texts: each place is shown by as many sums as the tree is deep, and no more places are (law TreeEach); without conditions.
-/
import Derived.Test.YtabhdjahdhhgiaaDoorTree11
import Derived.Test.YtabhdjahdhhgiaaDoorLTreeGrows
namespace Go.Proofs.YtabhdjahdhhgiaaDoor
open Go.ChangeShapes Go.WideShapes Go.ChangeAt Go.RowKit
open Go.Lib (hid)

/-- While the places are shown: the root lies at q. -/
structure Es (w : World) (q : Nat) (R : List Nat) (ao : Option Addr) (F : List (List Nat)) (u : World) : Prop where
  ra : Row u q .u8 27 R
  strs : Strs u ao F
  tab : Tabs u
  bel : Below w.heap.size w u
theorem Es.keep {w : World} {q : Nat} {R : List Nat} {ao : Option Addr} {F : List (List Nat)} {u u' : World} (h : Es w q R ao F u) (hb : Below u.heap.size u u') : Es w q R ao F u' :=
  ⟨h.ra.below hb h.ra.lt, h.strs.below hb, h.tab.below hb (Nat.le_refl _), h.bel.trans (hb.mono h.bel.size)⟩
theorem Tx.isPos_neg (d : Nat) : Tx.isPos (-1) d = false := by unfold Tx.isPos; simp
theorem Tx.isPos_out (d n : Nat) (h : 2 ^ d ≤ n) : Tx.isPos (n : Int) d = false := by
  unfold Tx.isPos
  rw [decide_eq_false (p := (n : Int) < ((2 ^ d : Nat) : Int)) (by omega)]
  simp
theorem Tx.isPos_in (d n : Nat) (hd : d ≤ 16) (h : n < 2 ^ d) : Tx.isPos (n : Int) d = true := by
  unfold Tx.isPos
  rw [decide_eq_true hd, decide_eq_true (show (0 : Int) ≤ n by omega), decide_eq_true (show (n : Int) < ((2 ^ d : Nat) : Int) by omega)]
  rfl
theorem mem_flat_len {F : List (List Nat)} (h : ∀ t ∈ F, t.length ≤ 20) (n : Nat) : (F.getD n []).length ≤ 20 := by
  by_cases hn : n < F.length
  · exact h _ (by rw [List.getD_eq_getElem?_getD, List.getElem?_eq_getElem hn]; exact List.getElem_mem _)
  · rw [Tx.getD_out F [] n (by omega)]; simp

namespace TreeEach
set_option maxHeartbeats 4000000 in
set_option maxRecDepth 100000 in
theorem walk (d0 : Int) (ao : Option Addr) (L : List ByteArray) (cap : Nat) (w : World) (hT : Tabs w) (hA : StrsB w ao L) (hL : L.length ≤ maxLen) (hs : ∀ s ∈ L, s.size ≤ maxLen) :
    Calls Tryd.prog 7 #[.int .i64 d0, .slice ao L.length cap] w fun e w' => e = .returned (.bool true) ∧ Below w.heap.size w w' := by
  obtain ⟨d, hd, hand⟩ := and_le d0 3 (by omega)
  rw [show ((3 : Nat) : Int) = 3 from rfl] at hand
  have hp := wrap_pow d (by omega)
  have hp8 : 2 ^ d ≤ 8 := by
    have : 2 ^ d ≤ 2 ^ 3 := Nat.pow_le_pow_right (by decide) hd
    omega
  have HT := hid hT
  have HFW := hid (fun wx hx => few_any ao L cap 10 20 wx hx hL hs (by omega) (by omega))
  have HA := hid hA
  have hfl : (few L 10 20).length ≤ 10 := by rw [few_length]; omega
  have hfb := few_lt L 10 20
  have hfe0 := few_each L 10 20
  have hfe : ∀ t ∈ few L 10 20, t.length ≤ 1000000 := fun t ht => by have := hfe0 t ht; omega
  generalize few L 10 20 = F at *
  have HRA := hid (fun ao cap h1 h2 wx hx hy => root_any (d : Int) ao F cap h1 h2 (by omega) hfb hfe wx hx hy)
  have HSA := hid (fun i ao cap h1 h2 wx hx hy => show_any (d : Int) i ao F cap h1 h2 (by omega) hfb hfe wx hx hy)
  rw [limit_of d (by omega)] at HRA HSA
  have ga := Tx.sumAt_good d F (by omega) d 0
  rw [show Tx.sumAt d F d 0 = Tx.root d F from rfl] at ga
  have sza : (ints .u8 (Tx.root d F)).size = 32 := by rw [ints_size, ga.1]
  have HHA := hid (fun (n : Nat) (hn : n < 2 ^ d) ao cap wx hx hy => holds_any (Tx.root d F) ga.1 ga.2 (n : Int) (F.getD n []) (fun x hx => hfb x (getD_mem_flatten F n x hx)) (by have := mem_flat_len hfe0 n; omega) (Tx.shows d n F d) (fun f hf => (Tx.shows_good d n F (by omega) d f hf).1) (fun f hf => (Tx.shows_good d n F (by omega) d f hf).2) (by rw [Tx.shows_length]; omega) ao cap wx hx hy)
  have HHS := hid (fun (n : Nat) (hn : n < 2 ^ d) => Tx.holds_shown d n F (by omega) hn)
  have HPO := hid (fun (n : Nat) (hn : n < 2 ^ d) => show Tx.showL d (n : Int) F = Tx.shows d n F d from by unfold Tx.showL; rw [if_pos (Tx.isPos_in d n (by omega) hn)]; rfl)
  have HPN := hid (show Tx.showL d (-1) F = [] from by unfold Tx.showL; rw [Tx.isPos_neg]; rfl)
  have HPP := hid (show Tx.showL d ((2 ^ d : Nat) : Int) F = [] from by unfold Tx.showL; rw [Tx.isPos_out d _ (Nat.le_refl _)]; rfl)
  have HSL := hid (fun n => Tx.shows_length d n F d)
  clear ga hfb hfe hfe0 hT hA hL hs
  generalize hRT : Tx.root d F = R at *
  clear hRT
  generalize 2 ^ d = p at *
  go_enter Tryd.func7, Tryd.ntmps7
  go_wp2_with fail
  refine (tawake_any _ HT.out).mono ?_
  rintro e w1 ⟨rfl, hb1⟩
  have HB1 := hid hb1
  clear hb1
  go_wp2_with fail
  refine (HFW.out _ (HA.out.below HB1.out)).mono ?_
  rintro e w2 ⟨v, rfl, hown, hb2⟩
  obtain ⟨ao', cap', rfl, hstr, hc1, hc2⟩ := hown.capd
  have HB2 := hid (HB1.out.next (Nat.le_refl _) hb2)
  have HT2 := hid (HT.out.below HB2.out (Nat.le_refl _))
  have HS2 := hid hstr
  have HC := hid (And.intro hc1 hc2)
  clear hown hb2 hstr hc1 hc2 HB1 HFW HA
  go_wp2_with fail
  refine (HRA.out _ _ HC.out.1 HC.out.2 _ HT2.out HS2.out).mono ?_
  rintro e w3 ⟨rfl, hb3⟩
  have HB3 := hid (HB2.out.next (Nat.le_refl _) hb3)
  have HS3 := hid (HS2.out.below hb3)
  clear hb3 HB2 HT2 HS2 HRA
  go_upto_region 7 with (refine wpList_store_row rfl _ _ _ rfl w3.heap.size _ rfl rfl _ _ (heap_alloc_new _ _) (by rw [sza]; exact info27) (by rw [sza]; rfl) (ints_one _ _) ?_)
  generalize hw4 : (w3.alloc _).setRow _ _ = w4
  have HE0 := hid (show Es w w3.heap.size R ao' F w4 from by
    have hb4 : Below w3.heap.size w3 w4 := by rw [← hw4]; exact below_setRow ((Below.refl _ _).alloc (Nat.le_refl _) _) (Nat.le_refl _) _
    have hbw := HB3.out.next (Nat.le_refl _) hb4
    refine ⟨?_, HS3.out.below hb4, HT.out.below hbw (Nat.le_refl _), hbw⟩
    rw [← hw4]; exact setRow_heap _ _ _ _ _ _ (heap_alloc_new _ _))
  clear hw4 HB3 HS3
  generalize w3.heap.size = q at *
  go_loopw [6, 7, 8] (fun i _ _ wr => ∃ z : Int, -1 ≤ z ∧ z ≤ p + 1 ∧ i = .int .i64 z ∧ Es w q R ao' F wr)
    (fun i _ _ _ => ((p : Int) + 1 - intOf i).toNat)
  case atStart => exact ⟨-1, by omega, by omega, rfl, HE0.out⟩
  case round =>
    clear HE0
    obtain ⟨z, hz1, hz2, rfl, hE⟩ := hrel
    have HE := hid hE
    clear hE
    by_cases hneg : z = -1
    · subst hneg
      have HS := hid (fun wx hx hy => HSA.out (-1) ao' cap' HC.out.1 HC.out.2 wx hx hy)
      rw [HPN.out] at HS
      have g0 : (-1 : Int) ≤ (p : Int) := by omega
      go_wp2_with fail
      refine (HS.out _ HE.out.tab HE.out.strs).mono ?_
      rintro e w5 ⟨v, rfl, ho, hb5⟩
      obtain ⟨ao1, cap1, rfl, _⟩ := ho.sums
      have HE2 := hid (HE.out.keep hb5)
      clear ho hb5 HE HS HSA HHA
      rw [show ([] : List (List Nat)).length = 0 from rfl]
      go_wp2
      exact ⟨⟨_, by omega, by omega, rfl, HE2.out⟩, by simp only [intOf]; omega⟩
    · by_cases hend : z = p + 1
      · subst hend
        have g0 : ¬ ((p : Int) + 1 ≤ (p : Int)) := by omega
        go_wp2
        go_ret
        exact ⟨rfl, HE.out.bel⟩
      · obtain ⟨n, rfl⟩ : ∃ n : Nat, z = (n : Int) := ⟨z.toNat, by omega⟩
        have g0 : (n : Int) ≤ (p : Int) := by omega
        have g1 : (0 : Int) ≤ (n : Int) := by omega
        clear hz1 hneg
        by_cases hn : n < p
        · have HS := hid (fun wx hx hy => HSA.out (n : Int) ao' cap' HC.out.1 HC.out.2 wx hx hy)
          rw [HPO.out n hn] at HS
          have HH := hid (HHA.out n hn)
          rw [HHS.out n hn] at HH
          have hSl := HSL.out n
          generalize Tx.shows d n F d = S at *
          have g2 : ((n : Int) == (p : Int)) = false := by simp; omega
          have g4 : ¬ (n : Int) < 0 := by omega
          by_cases hnf : n < F.length
          · obtain ⟨sb, so, rfl, hc⟩ := HE.out.strs n hnf
            have g3 : (n : Int) < F.length := by omega
            have hblt := block_lt_of_cell hc
            have HCELL := hid hc
            clear hc
            go_wp2_with fail
            refine (HS.out _ HE.out.tab HE.out.strs).mono ?_
            rintro e w5 ⟨v, rfl, ho, hb5⟩
            obtain ⟨ao1, cap1, rfl, hsm⟩ := ho.sums
            have HSM := hid (show Sums w5 (.slice ao1 d cap1) S from ⟨ao1, cap1, by rw [hSl], hsm⟩)
            have HE1 := hid (HE.out.keep hb5)
            have HR := hid HE1.out.ra
            rw [hSl] at HH
            rw [hSl]
            have hcell : w5.cell? ⟨sb, so + n, none⟩ = some (.string (str (F.getD n []))) := (hb5.cell hblt).trans HCELL.out
            clear ho hb5 hsm hSl HCELL
            generalize str (F.getD n []) = X at *
            go_wp2_with (refine wpList_load_row_g rfl _ _ rfl q rfl _ _ _ _ HR.out Tryd.underlying27 rfl (by rw [sza]; exact info27) ?_)
            refine (HH.out ao1 cap1 _ HE1.out.tab HSM.out).mono ?_
            rintro e w6 ⟨rfl, hb6⟩
            have HE2 := hid (HE1.out.keep hb6)
            clear hb6 HE1 HR HSM HE HS HSA HHA
            go_wp2
            exact ⟨⟨_, by omega, by omega, rfl, HE2.out⟩, by simp only [intOf]; omega⟩
          · have g3 : ¬ (n : Int) < F.length := by omega
            rw [Tx.getD_out F [] n (by omega)] at HH
            go_wp2_with fail
            refine (HS.out _ HE.out.tab HE.out.strs).mono ?_
            rintro e w5 ⟨v, rfl, ho, hb5⟩
            obtain ⟨ao1, cap1, rfl, hsm⟩ := ho.sums
            have HSM := hid (show Sums w5 (.slice ao1 d cap1) S from ⟨ao1, cap1, by rw [hSl], hsm⟩)
            have HE1 := hid (HE.out.keep hb5)
            have HR := hid HE1.out.ra
            rw [hSl] at HH
            rw [hSl]
            clear ho hb5 hsm hSl
            go_wp2_with (refine wpList_load_row_g rfl _ _ rfl q rfl _ _ _ _ HR.out Tryd.underlying27 rfl (by rw [sza]; exact info27) ?_)
            refine (HH.out ao1 cap1 _ HE1.out.tab HSM.out).mono ?_
            rintro e w6 ⟨rfl, hb6⟩
            have HE2 := hid (HE1.out.keep hb6)
            clear hb6 HE1 HR HSM HE HS HSA HHA
            go_wp2
            exact ⟨⟨_, by omega, by omega, rfl, HE2.out⟩, by simp only [intOf]; omega⟩
        · obtain rfl : n = p := by omega
          have HS := hid (fun wx hx hy => HSA.out (n : Int) ao' cap' HC.out.1 HC.out.2 wx hx hy)
          rw [HPP.out] at HS
          by_cases hnf : n < F.length
          · obtain ⟨sb, so, rfl, hc⟩ := HE.out.strs n hnf
            have g3 : (n : Int) < F.length := by omega
            have hblt := block_lt_of_cell hc
            have HCELL := hid hc
            clear hc
            go_wp2_with fail
            refine (HS.out _ HE.out.tab HE.out.strs).mono ?_
            rintro e w5 ⟨v, rfl, ho, hb5⟩
            obtain ⟨ao1, cap1, rfl, _⟩ := ho.sums
            have HE2 := hid (HE.out.keep hb5)
            rw [show ([] : List (List Nat)).length = 0 from rfl]
            have hcell : w5.cell? ⟨sb, so + n, none⟩ = some (.string (str (F.getD n []))) := (hb5.cell hblt).trans HCELL.out
            clear ho hb5 HCELL
            generalize str (F.getD n []) = X at *
            go_wp2
            exact ⟨⟨_, by omega, by omega, rfl, HE2.out⟩, by simp only [intOf]; omega⟩
          · have g3 : ¬ (n : Int) < F.length := by omega
            go_wp2_with fail
            refine (HS.out _ HE.out.tab HE.out.strs).mono ?_
            rintro e w5 ⟨v, rfl, ho, hb5⟩
            obtain ⟨ao1, cap1, rfl, _⟩ := ho.sums
            have HE2 := hid (HE.out.keep hb5)
            rw [show ([] : List (List Nat)).length = 0 from rfl]
            clear ho hb5
            go_wp2
            exact ⟨⟨_, by omega, by omega, rfl, HE2.out⟩, by simp only [intOf]; omega⟩


set_option maxRecDepth 100000 in
theorem contract (H : Type) (enc : TypeId × Value → H) (W : World) (base : Nat) (args : Array Value) (ds gs : List (DataW H)) (before : List MemPlace)
    (hval : ∀ (j : Nat) t v, Tryd.f7.params[j]? = some t → args[j]? = some v → Value.okWide Tryd.prog W .any base t v)
    (hW : DataW.Whole enc Tryd.prog Tryd.f7.params.toList Rows.treeEachSpec.vars false W args.toList ds gs before) (hL : laidMetH Tryd.prog Rows.treeEachRow.laid W) :
    Calls Tryd.prog 7 args W fun e W' => ∃ v, e = .returned v ∧ Rows.treeEachSpec.post enc Tryd.prog Tryd.f7 false true false false W args v W' := by
  have hW' := hW
  obtain ⟨p, q, hA0, hV, rfl, hfz, hnd⟩ := hW
  have hA : DataW.TrodAll enc Tryd.prog W 0 (fun _ => true) true Tryd.f7.params.toList args.toList ds p := hA0
  rw [Tryd.params7] at hA hval
  obtain ⟨v0, vs0, d0, ds0, p0, q0, hargs, rfl, rfl, h0, r0⟩ := trodAll_cons hA
  obtain ⟨v1, vs1, d1, ds1, p1, q1, rfl, rfl, rfl, h1, r1⟩ := trodAll_cons r0
  obtain ⟨rfl, rfl, rfl⟩ := trodAll_nil r1
  obtain rfl : args = #[v0, v1] := by cases args; simp_all
  obtain ⟨n0, rfl, rfl, rfl, wn0⟩ := open_int Tryd.underlying3 (hval 0 3 v0 rfl rfl) h0
  obtain ⟨ao1, L1, cap1, rfl, hL1, hb1⟩ := open_strs (hval 1 22 v1 rfl rfl) h1
  refine (walk n0 ao1 L1 cap1 W (tabs_of hL) hL1 hb1.1 hb1.2).mono fun e W' ⟨he, hb⟩ => ?_
  subst he
  exact ⟨_, rfl, law_post rfl rfl (by rw [Tryd.params7]; decide +kernel) hW' rfl hb⟩

theorem laid_met (os : Os) : laidMet Tryd.prog Rows.treeEachRow.laid ((laidWorld os).forCall (fun _ _ => 0) ⟨#[], #[.int .i64 0, .slice none 0 0], []⟩).memory :=
  laidMet_of_run' 8 (by kernel_rfl) (by kernel_rfl)
theorem reads (os : Os) {H : Type} (enc : TypeId × Value → H) : ∃ places, DataW.whole enc Tryd.prog ((laidWorld os).forCall (fun _ _ => 0) ⟨#[], #[.int .i64 0, .slice none 0 0], []⟩).memory Tryd.f7.params.toList Rows.treeEachSpec.vars false (#[.int .i64 0, .slice none 0 0] : Array Value).toList 8
    = some ([.lit (.int .i64 0), .nil], [], places) :=
  ⟨[], by kernel_rfl⟩

set_option maxRecDepth 100000 in
theorem lifted (os : Os) (started : os.Started) (H : Type) (enc : TypeId × Value → H) (F : Stop.Interp) :
    ReturnsInHanded {} Tryd.checked os 7 .any ((OpenSpec.ofChange Rows.treeEachSpec).preRow enc Tryd.prog Tryd.f7 Rows.treeEachRow.domain false Rows.treeEachRow.laid) (((OpenSpec.ofChange Rows.treeEachSpec).at F).post enc Tryd.prog Tryd.f7 false true false false) := by
  obtain ⟨places, hx⟩ := reads os enc
  refine returnsInHanded_of_row (C := Tryd.checked) (s := OpenSpec.ofChange Rows.treeEachSpec) own started (by kernel_rfl) Tryd.func7
    (witness_row_at (enc := enc) (C := Tryd.checked) false (laidWorld os) #[.int .i64 0, .slice none 0 0] rfl (by kernel_rfl) (by kernel_rfl) (by kernel_rfl)
      (OpenSpec.preRow_of_cond 8 hx (by kernel_rfl) (fun k hk => by cases hk) (by kernel_rfl) (laid_met os))) ?_
  intro W base args ds gs before hval hW _ _ _ hL _ _
  exact contract H enc W base args ds gs before hval hW hL

theorem said : Rows.TreeEachSaid :=
  OpenClaim.holds_of_cond 7 Tryd.f7 rfl rfl rfl rfl rfl rfl rfl ⟨rfl, rfl, rfl, rfl, rfl⟩ rfl rfl rfl rfl rfl (by kernel_rfl) Tryd.func7 (by kernel_rfl)
    (of_decide_eq_true (by kernel_rfl)) (by unfold Func.isWrapper; first | (rw [if_pos (by decide +kernel)]; kernel_rfl) | (rw [if_neg (by decide +kernel)]; exact ⟨rfl, rfl⟩))
    (fun os started H enc _ F => by rw [OpenClaim.pre_eq_preRow]; exact lifted os started H enc F)

theorem plain (f : FuncId) (fn : Func) (hf : Tryd.pinned.checked.prog.funcNamed "sealwax/sealwaxlaw07.TreeEach" = some f) (hfn : Tryd.pinned.checked.prog.funcs[f]? = some fn) :
    false = Tryd.pinned.checked.prog.looks [] ∧ ∀ (j : Nat) t, fn.params[j]? = some t → Tryd.pinned.checked.prog.wantsStandIn t = false := by
  obtain rfl : f = 7 := Option.some.inj ((show Tryd.prog.funcNamed "sealwax/sealwaxlaw07.TreeEach" = some 7 by kernel_rfl).symm.trans hf) |>.symm
  obtain rfl : fn = Tryd.f7 := (Option.some.inj (Tryd.func7.symm.trans hfn)).symm
  refine ⟨by kernel_rfl, fun j t ht => ?_⟩
  rw [Tryd.params7] at ht
  have hmem := Array.mem_of_getElem? ht
  exact (show ∀ t ∈ (Tryd.f7.params), Tryd.prog.wantsStandIn t = false from by rw [Tryd.params7]; decide +kernel) t (by rw [Tryd.params7]; exact hmem)

theorem card : Rows.TreeEachCardSaid :=
  Claim7.holds_tied_plain_at .later [] _ _ _ _ said (fun _ h => by cases h) (by kernel_rfl) (fun _ h => by cases h) treeEach_row_tie rfl ⟨rfl, rfl⟩ (by kernel_rfl) rfl plain (by kernel_rfl)

end TreeEach
theorem treeEach_card : Rows.TreeEachCardSaid := TreeEach.card
end Go.Proofs.YtabhdjahdhhgiaaDoor
