/-
  The words of any text are just the document's, rising, each once (law WordsOf); for every input.
-/
import Derived.Test.YtaipaifnkpgmhaaWs8
namespace Go.Proofs.Ytaipaifnkpgmhaa
open Go.ChangeShapes Go.WideShapes Go.ChangeAt Go.RowKit Go.Shelf
open Go.Lib (hid)

attribute [local go_sem] Oper.semAt_some

theorem string_geq_w (t : TypeId) (a b : ByteArray) : binOp .geq t (.string a) (.string b) = pure (.bool !(Op.bytesLess a.toList b.toList)) := by simp [binOp, Op.stringOp]
namespace WordsOf
set_option maxHeartbeats 4000000 in
set_option maxRecDepth 100000 in
theorem walk (s : ByteArray) (ao : Option Addr) (L : List ByteArray) (cap : Nat) (w : World) (hs : s.size ≤ maxLen) (hA : StrsB w ao L) (hL : L.length ≤ maxLen) (hb : ∀ s ∈ L, s.size ≤ maxLen) :
    Calls Try.prog 3 #[.string s, .slice ao L.length cap] w fun e w' => e = .returned (.bool true) ∧ Below w.heap.size w w' := by
  have HA := hid hA
  have HAW := hid (awake15_any w)
  have HFW := hid (fun wx hx => few_any ao L cap 6 20 wx hx hL hb (by omega) (by omega))
  have HCU := hid (fun (wx : World) => cut_any s 300 wx hs (by decide))
  obtain ⟨M, hM⟩ : ∃ M, M = few L 6 20 := ⟨_, rfl⟩
  have hMl : M.length ≤ 6 := by rw [hM, few_length]; omega
  have HMB := hid (show ∀ l ∈ M, ∀ b ∈ l, b < 256 from fun l hl b hb' => few_lt L 6 20 b (by rw [← hM]; exact List.mem_flatten.2 ⟨l, hl, hb'⟩))
  rw [← hM] at HFW
  obtain ⟨T, hTT⟩ : ∃ T, T = (nums s).take 300 := ⟨_, rfl⟩
  have hT : ∀ x ∈ T, x < 256 := by rw [hTT]; exact cut_lt' s 300
  have hTl : T.length ≤ 300 := by rw [hTT]; exact cut_le' s 300
  rw [← hTT] at HCU
  have HOF := hid (fun wx => of_any T hT (by omega) wx)
  have HRO := hid (fun wx => rof_any T hT (by omega) wx)
  have HHA := hid (fun a2 L2 c2 wx h1 h2 h3 => has_any T hT (by omega) a2 L2 c2 wx h1 h2 h3)
  have HRH := hid (fun a2 L2 c2 wx h1 h2 h3 => rhas_any T hT (by omega) a2 L2 c2 wx h1 h2 h3)
  have HWL := hid (Wd.words_lt T)
  have HWN := hid (Wd.words_length T)
  have HWI := hid (Wd.words_isW T)
  have HWS := hid (Wd.sorted_words T)
  have hT' := hid hT
  generalize Wd.words T = WT at *
  have HSA := hid (fun (a1 a2 : Option Addr) (c1 c2 : Nat) (wx : World) (h1 : Strs wx a1 WT) (h2 : Strs wx a2 WT) => (same15_any a1 WT c1 a2 WT c2 wx h1 h2 HWL.out HWL.out (by have := HWN.out; omega) (by have := HWN.out; omega)).mono (R' := fun e w' => e = .returned (.bool true) ∧ Below wx.heap.size wx w') (fun e w' ⟨he, hw⟩ => ⟨by rw [he, decide_eq_true rfl], hw⟩))
  clear hA hL hb hM hTT hT hTl hs
  go_enter Try.func3, Try.ntmps3
  go_upto_region 3 with (go_at_call 8; refine HAW.out.mono ?_; rintro e w0 ⟨rfl, hb0⟩)
  have HA0 := hid (HA.out.below hb0)
  have HB0 := hid hb0
  clear hb0 HA HAW
  go_upto_region 4 with (first
    | (go_at_call 9; refine (HCU.out _).mono ?_; rintro e wz ⟨rfl, hwz⟩; subst hwz)
    | (go_at_call 10; refine (HFW.out _ HA0.out).mono ?_; rintro e w1 ⟨v, rfl, hown, hb1⟩; obtain ⟨a1, c1, rfl, hs1⟩ := hown.strs))
  have HB1 := hid (HB0.out.trans (hb1.mono HB0.out.size))
  have HS1 := hid hs1
  clear hb1 hs1 hown HA0 HB0 HFW HCU
  go_upto_region 5 with (go_at_call 11; refine (HOF.out _).mono ?_; rintro e w2 ⟨v2, rfl, ho2, hb2⟩; obtain ⟨a2, c2, rfl, hs2⟩ := ho2.strs)
  have HB2 := hid (HB1.out.trans (hb2.mono HB1.out.size))
  have HS1b := hid (HS1.out.below hb2)
  have HS2 := hid hs2
  clear hb2 hs2 ho2 HB1 HS1 HOF
  go_wp2_with fail
  refine (HRO.out _).mono ?_
  rintro e w3 ⟨v3, rfl, ho3, hb3⟩
  obtain ⟨a3, c3, rfl, hs3⟩ := ho3.strs
  have HB3 := hid (HB2.out.trans (hb3.mono HB2.out.size))
  have HS1c := hid (HS1b.out.below hb3)
  have HS2c := hid (HS2.out.below hb3)
  clear HS1b HS2 hb3 ho3 HB2 HRO
  go_wp2_with fail
  refine (HSA.out a2 a3 c2 c3 _ HS2c.out hs3).mono ?_
  rintro e w4 ⟨rfl, hb4⟩
  have HB4 := hid (HB3.out.trans (hb4.mono HB3.out.size))
  have HS1d := hid (HS1c.out.below hb4)
  have HS2d := hid (HS2c.out.below hb4)
  clear HS1c HS2c hb4 HB3 HSA hs3
  obtain ⟨pb, hpb⟩ : ∃ pb, pb = decide (∀ x ∈ M, x ∈ WT) := ⟨_, rfl⟩
  have H1 := hid (HHA.out a1 M c1 w4 HS1d.out (by omega) HMB.out)
  rw [← hpb] at H1
  go_wp2_with fail
  refine H1.out.mono ?_
  rintro e w5 ⟨rfl, hb5⟩
  have HB5 := hid (HB4.out.trans (hb5.mono HB4.out.size))
  have HS1e := hid (HS1d.out.below hb5)
  have HS2e := hid (HS2d.out.below hb5)
  clear HS1d HS2d hb5 HB4 H1
  have H2 := hid (HRH.out a1 M c1 w5 HS1e.out (by omega) HMB.out)
  rw [← hpb] at H2
  clear hpb
  go_wp2_with fail
  refine H2.out.mono ?_
  rintro e w6 ⟨rfl, hb6⟩
  have HB6 := hid (HB5.out.trans (hb6.mono HB5.out.size))
  have HS2f := hid (HS2e.out.below hb6)
  clear HS1e HS2e hb6 HB5 H2
  have H3 := hid (HHA.out a2 WT c2 w6 HS2f.out (by have := HWN.out; omega) HWL.out)
  rw [show decide (∀ x ∈ WT, x ∈ WT) = true from decide_eq_true fun x h => h] at H3
  have hpp : (pb == pb) = true := by cases pb <;> rfl
  go_wp2_with fail
  refine H3.out.mono ?_
  rintro e w7 ⟨rfl, hb7⟩
  have HB7 := hid (HB6.out.trans (hb7.mono HB6.out.size))
  have HS7 := hid (HS2f.out.below hb7)
  clear HS2f hb7 HB6 H3 hpp HHA HRH HMB
  go_wp2
  go_loopw [38] (fun i wq => ∃ k : Nat, k ≤ WT.length ∧ i = .int .i64 (k : Nat) ∧ wq = w7)
    (fun i _ => WT.length - (intOf i).toNat)
  case atStart => exact ⟨0, by omega, rfl, rfl⟩
  case round =>
    obtain ⟨k, hk, rfl, rfl⟩ := hrel
    by_cases hkl : k < WT.length
    · have g1 : (k : Int) < WT.length := by omega
      have g64 : (k : Int) < 64 := by have := HWN.out; omega
      obtain ⟨sb, so, rfl, hc⟩ := HS7.out k hkl
      have hmem : WT.getD k [] ∈ WT := by rw [List.getD_eq_getElem?_getD, List.getElem?_eq_getElem hkl]; exact List.getElem_mem hkl
      have HCH := hid (fun wx => check_any (WT.getD k []) (HWL.out _ hmem) (by have := (HWI.out _ hmem).2.1; omega) wx)
      rw [(Wd.chk_iff _).2 (HWI.out _ hmem)] at HCH
      have HM := hid hmem
      clear hmem
      by_cases hk0 : 0 < k
      · have g2 : (0 : Int) < k := by omega
        obtain ⟨sb2, so2, hao, hc2⟩ := HS7.out (k - 1) (by omega)
        simp only [Option.some.injEq, Addr.mk.injEq] at hao
        obtain ⟨rfl, rfl, _⟩ := hao
        have hm2 : WT.getD (k - 1) [] ∈ WT := by rw [List.getD_eq_getElem?_getD, List.getElem?_eq_getElem (by omega)]; exact List.getElem_mem _
        have hlt : Wd.lt (WT.getD (k - 1) []) (WT.getD k []) = true := by
          have := List.pairwise_iff_getElem.1 HWS.out (k - 1) k (by omega) hkl (by omega)
          rwa [List.getD_eq_getElem?_getD, List.getElem?_eq_getElem (by omega), List.getD_eq_getElem?_getD, List.getElem?_eq_getElem hkl]
        have hless : Op.bytesLess (str (WT.getD (k - 1) [])).toList (str (WT.getD k [])).toList = true := by rw [less_str _ _ (HWL.out _ hm2) (HWL.out _ HM.out)]; exact hlt
        have hgq := fun t a b => string_geq_w t a b
        have hkm : (k : Int) - 1 = ((k - 1 : Nat) : Int) := by omega
        have hkm2 : ((k - 1 : Nat) : Int) < WT.length := by omega
        clear hlt hm2
        generalize WT.getD k [] = y at *
        generalize WT.getD (k - 1) [] = x at *
        generalize k - 1 = km at *
        go_wp2_with (go_at_call 16; refine (HCH.out _).mono ?_; rintro e wz ⟨rfl, hwz⟩; replace hwz := hwz.symm; subst hwz)
        have hkk : (k : Int) + 1 = ((k + 1 : Nat) : Int) := by omega
        refine ⟨?_, ?_⟩
        · skip
          first
            | exact ⟨k + 1, by omega, congrArg (Value.int .i64) hkk, by trivial⟩
            | ((repeat apply Exists.intro); refine ⟨?_, rfl⟩; exact ⟨k + 1, by omega, congrArg (Value.int .i64) hkk, by trivial⟩)
        · simp [intOf]
          omega
      · have g2 : ¬ (0 : Int) < k := by omega
        generalize WT.getD k [] = y at *
        go_wp2_with (go_at_call 16; refine (HCH.out _).mono ?_; rintro e wz ⟨rfl, hwz⟩; replace hwz := hwz.symm; subst hwz)
        have hkk : (k : Int) + 1 = ((k + 1 : Nat) : Int) := by omega
        refine ⟨?_, ?_⟩
        · skip
          first
            | exact ⟨k + 1, by omega, congrArg (Value.int .i64) hkk, by trivial⟩
            | ((repeat apply Exists.intro); refine ⟨?_, rfl⟩; exact ⟨k + 1, by omega, congrArg (Value.int .i64) hkk, by trivial⟩)
        · simp [intOf]
          omega
    · obtain rfl : k = WT.length := by omega
      go_wp2
      exact bodyPost_ret (results_tmp rfl _ _ _) rfl ⟨rfl, HB7.out⟩
/-- A world for the witnesses: the settled one. -/
noncomputable def laidWorld (os : Os) : World := World.holding Try.prog os ⟨#[], #[], []⟩

set_option maxRecDepth 100000 in
theorem contract (H : Type) (enc : TypeId × Value → H) (W : World) (base : Nat) (args : Array Value) (ds gs : List (DataW H)) (before : List MemPlace)
    (hval : ∀ (j : Nat) t v, Try.f3.params[j]? = some t → args[j]? = some v → Value.okWide Try.prog W .any base t v)
    (hW : DataW.Whole enc Try.prog Try.f3.params.toList Rows.wordsOfSpec.vars false W args.toList ds gs before) (hL : laidMetH Try.prog Rows.wordsOfRow.laid W) :
    Calls Try.prog 3 args W fun e W' => ∃ v, e = .returned v ∧ Rows.wordsOfSpec.post enc Try.prog Try.f3 false true false false W args v W' := by
  have hW' := hW
  obtain ⟨p, q, hA0, hV, rfl, hfz, hnd⟩ := hW
  have hA : DataW.TrodAll enc Try.prog W 0 (fun _ => true) true Try.f3.params.toList args.toList ds p := hA0
  rw [Try.params3] at hA hval
  obtain ⟨v0, vs0, d0, ds0, p0, q0, hargs, rfl, rfl, h0, r0⟩ := trodAll_cons hA
  obtain ⟨v1, vs1, d1, ds1, p1, q1, rfl, rfl, rfl, h1, r1⟩ := trodAll_cons r0
  obtain ⟨rfl, rfl, rfl⟩ := trodAll_nil r1
  obtain rfl : args = #[v0, v1] := by cases args; simp_all
  obtain ⟨s0, rfl, rfl, rfl, hs0⟩ := Go.ChangeMaps.open_string Try.underlying9 (hval 0 9 v0 rfl rfl) h0
  obtain ⟨ao1, L1, cap1, rfl, hL1, hb1⟩ := open_strs (hval 1 22 v1 rfl rfl) h1
  refine (walk s0 ao1 L1 cap1 W hs0 hL1 hb1.1 hb1.2).mono fun e W' ⟨he, hb⟩ => ?_
  subst he
  exact ⟨_, rfl, law_post rfl rfl (by rw [Try.params3]; decide +kernel) hW' rfl hb⟩

theorem laid_met (os : Os) : laidMet Try.prog Rows.wordsOfRow.laid ((laidWorld os).forCall (fun _ _ => 0) ⟨#[], #[.string ByteArray.empty, .slice none 0 0], []⟩).memory :=
  laidMet_of_run' 8 (by kernel_rfl) (by kernel_rfl)
theorem reads (os : Os) {H : Type} (enc : TypeId × Value → H) : ∃ places, DataW.whole enc Try.prog ((laidWorld os).forCall (fun _ _ => 0) ⟨#[], #[.string ByteArray.empty, .slice none 0 0], []⟩).memory Try.f3.params.toList Rows.wordsOfSpec.vars false (#[.string ByteArray.empty, .slice none 0 0] : Array Value).toList 8
    = some ([.lit (.string []), .nil], [], places) :=
  ⟨[], by kernel_rfl⟩

set_option maxRecDepth 100000 in
theorem lifted (os : Os) (started : os.Started) (H : Type) (enc : TypeId × Value → H) (F : Stop.Interp) :
    ReturnsInHanded {} Try.checked os 3 .any ((OpenSpec.ofChange Rows.wordsOfSpec).preRow enc Try.prog Try.f3 Rows.wordsOfRow.domain false Rows.wordsOfRow.laid) (((OpenSpec.ofChange Rows.wordsOfSpec).at F).post enc Try.prog Try.f3 false true false false) := by
  obtain ⟨places, hx⟩ := reads os enc
  refine returnsInHanded_of_row (C := Try.checked) (s := OpenSpec.ofChange Rows.wordsOfSpec) own started (by kernel_rfl) Try.func3
    (witness_row_at (enc := enc) (C := Try.checked) false (laidWorld os) #[.string ByteArray.empty, .slice none 0 0] rfl (by kernel_rfl) (by kernel_rfl) (by kernel_rfl)
      (OpenSpec.preRow_of_cond 8 hx (by kernel_rfl) (fun k hk => by cases hk) (by kernel_rfl) (laid_met os))) ?_
  intro W base args ds gs before hval hW _ _ _ hL _ _
  exact contract H enc W base args ds gs before hval hW hL

theorem said : Rows.WordsOfSaid :=
  OpenClaim.holds_of_cond 3 Try.f3 rfl rfl rfl rfl rfl rfl rfl ⟨rfl, rfl, rfl, rfl, rfl⟩ rfl rfl rfl rfl rfl (by kernel_rfl) Try.func3 (by kernel_rfl)
    (of_decide_eq_true (by kernel_rfl)) (by unfold Func.isWrapper; first | (rw [if_pos (by decide +kernel)]; kernel_rfl) | (rw [if_neg (by decide +kernel)]; exact ⟨rfl, rfl⟩))
    (fun os started H enc _ F => by rw [OpenClaim.pre_eq_preRow]; exact lifted os started H enc F)


end WordsOf
theorem wordsOf_said : Rows.WordsOfSaid := WordsOf.said
end Go.Proofs.Ytaipaifnkpgmhaa
