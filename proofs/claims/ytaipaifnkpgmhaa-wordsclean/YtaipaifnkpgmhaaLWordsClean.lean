/-
  Words that are asked for are cleaned as the document says (law WordsClean); for every input.
-/
import Derived.Test.YtaipaifnkpgmhaaWs9
import Derived.Test.YtaipaifnkpgmhaaWs12
namespace Go.Proofs.Ytaipaifnkpgmhaa
open Go.ChangeShapes Go.WideShapes Go.ChangeAt Go.RowKit Go.Shelf
open Go.Lib (hid)

attribute [local go_sem] Oper.semAt_some

namespace Wd
theorem words_self (T : List Nat) : words T = [T] ↔ chk T = true := by
  rw [chk_iff]
  constructor
  · intro h
    exact words_isW T T (by rw [h]; simp)
  · intro h
    rw [words_eq, seqs_self T h]
    rfl
end Wd
theorem rcheck2_any (T : List Nat) (hT : ∀ x ∈ T, x < 256) (hTl : T.length ≤ 900) (w : World) :
    Calls Try.prog 17 #[.string (str T)] w fun e w' => e = .returned (.bool (Wd.chk T)) ∧ Below w.heap.size w w' := by
  refine (rcheck_any T hT hTl w).mono ?_
  rintro e w' ⟨rfl, hb⟩
  refine ⟨?_, hb⟩
  congr 2
  rw [Bool.eq_iff_iff, decide_eq_true_eq]
  exact Wd.words_self T
set_option maxHeartbeats 2000000 in
set_option maxRecDepth 100000 in
theorem rclean_any (ao : Option Addr) (L : List (List Nat)) (cap : Nat) (w : World) (hA : Strs w ao L) (hL : L.length ≤ 1000) (hb : ∀ l ∈ L, ∀ b ∈ l, b < 256) (hl20 : ∀ l ∈ L, l.length ≤ 900) :
    Calls Try.prog 19 #[.slice ao L.length cap] w fun e w' => ∃ v, e = .returned (.tuple #[v, .int .i64 (cleanE L : Int)]) ∧ OwnS w' w.heap.size v (cleanL L) ∧ Below w.heap.size w w' := by
  have HA := hid hA
  clear hA
  have hn := hid (fun (h : ¬ (1 ≤ L.length ∧ L.length ≤ 8 ∧ ∀ x ∈ L, Wd.chk x = true)) => cleanE_no h)
  go_enter Try.func19, Try.ntmps19
  by_cases h1 : 1 ≤ L.length
  · have g1 : ¬ (L.length : Int) = 0 := by omega
    have gN : ¬ L = [] := by intro h; rw [h] at h1; simp at h1
    by_cases h8 : L.length ≤ 8
    · have g8 : ¬ (8 : Int) < L.length := by omega
      go_upto_region 4 with (fail)
      have ho0 := ownS_empty w w.heap.size (Nat.le_refl _)
      have hb0 : Below w.heap.size w (w.alloc (.cells #[] 9)) := (Below.refl _ _).alloc (Nat.le_refl _) _
      have HA1 := hid (HA.out.below hb0)
      have HO0 := hid ho0
      have HB0 := hid hb0
      generalize w.alloc (.cells #[] 9) = w1 at *
      clear ho0 hb0
      go_wp2
      go_loopw [4, 18] (fun sv i wr => ∃ k : Nat, k ≤ L.length ∧ i = .int .i64 (k : Nat) ∧ (∀ j, j < k → Wd.chk (L.getD j []) = true) ∧ Strs wr ao L ∧ OwnS wr w.heap.size sv ((L.take k).foldl Wd.ins []) ∧ sv ≠ .slice none 0 0 ∧ Below w.heap.size w wr)
        (fun _ i _ => L.length - (intOf i).toNat)
      case atStart => exact ⟨0, by omega, rfl, fun j h => by omega, HA1.out, HO0.out, by simp, HB0.out⟩
      case round =>
        obtain ⟨k, hk, rfl, hall, hst, hown, hnn, hbl⟩ := hrel
        have HALL := hid hall
        have HST := hid hst
        have HOWN := hid hown
        have HNN := hid hnn
        have HBL := hid hbl
        clear hall hst hown hnn hbl HA1 HO0 HB0
        by_cases hkl : k < L.length
        · have gk : (k : Int) < L.length := by omega
          have g9 : (k : Int) < 8 := by omega
          obtain ⟨sb, so, rfl, hc⟩ := HST.out k hkl
          have hmem : L.getD k [] ∈ L := by rw [List.getD_eq_getElem?_getD, List.getElem?_eq_getElem hkl]; exact List.getElem_mem hkl
          have HCH := hid (fun wx => rcheck2_any (L.getD k []) (hb _ hmem) (hl20 _ hmem) wx)
          have hacl := Wd.foldl_ins_length (L.take k) []
          rw [List.length_take, List.length_nil] at hacl
          have hacb : ∀ l ∈ (L.take k).foldl Wd.ins [], ∀ b ∈ l, b < 256 := by
            intro l hl
            rcases (Wd.mem_foldl (L.take k) [] l).1 hl with h | h
            · exact hb l (List.mem_of_mem_take h)
            · cases h
          have hnext : (L.take (k + 1)).foldl Wd.ins [] = Wd.ins ((L.take k).foldl Wd.ins []) (L.getD k []) := by
            rw [List.take_succ_eq_append_getElem hkl, List.foldl_append, List.getD_eq_getElem?_getD, List.getElem?_eq_getElem hkl]
            rfl
          have hsr : Wd.Sorted ((L.take k).foldl Wd.ins []) := Wd.sorted_foldl _ _ List.Pairwise.nil
          by_cases hw : Wd.chk (L.getD k []) = true
          · rw [hw] at HCH
            have HW := hid hw
            have HPU := hid (fun wx u (ho : OwnS wx w.heap.size u ((L.take k).foldl Wd.ins [])) (hbx : w.heap.size ≤ wx.heap.size) hu => rput_any wx w.heap.size u _ ho hbx (L.getD k []) hsr (by omega) hacb (hb _ hmem) hu)
            have HN := hid hnext
            generalize hx : L.getD k [] = x at *
            have HX := hid hx
            clear hw hx hmem hacl hacb hnext hsr
            generalize (L.take k).foldl Wd.ins [] = acc at *
            go_wp2_with fail
            refine (HCH.out _).mono ?_
            rintro e w5 ⟨rfl, hb5⟩
            have HB5 := hid (HBL.out.trans (hb5.mono HBL.out.size))
            have HST5 := hid (HST.out.below hb5)
            have ho5 := HOWN.out.below hb5
            have HP := hid (HPU.out w5 _ ho5 HB5.out.size HNN.out)
            clear hb5 ho5 hc
            go_wp2_with fail
            refine HP.out.mono ?_
            rintro e w6 ⟨v6, rfl, ho6, hn6, hb6⟩
            have HB6 := hid (HB5.out.trans (hb6.mono HB5.out.size))
            have HST6 := hid (HST5.out.below hb6)
            have HO6 := hid ho6
            clear hb6 ho6
            go_wp2
            have hkk : (k : Int) + 1 = ((k + 1 : Nat) : Int) := by omega
            have hal : ∀ j, j < k + 1 → Wd.chk (L.getD j []) = true := by
              intro j hj
              by_cases h3 : j = k
              · subst h3; rw [HX.out]; exact HW.out
              · exact HALL.out j (by omega)
            refine ⟨?_, ?_⟩
            · skip
              first
                | exact ⟨k + 1, by omega, congrArg (Value.int .i64) hkk, hal, HST6.out, by rw [HN.out]; exact HO6.out, hn6, HB6.out⟩
                | ((repeat apply Exists.intro); refine ⟨?_, rfl⟩; exact ⟨k + 1, by omega, congrArg (Value.int .i64) hkk, hal, HST6.out, by rw [HN.out]; exact HO6.out, hn6, HB6.out⟩)
            · simp [intOf]
              omega
          · rw [show Wd.chk (L.getD k []) = false from by rw [Bool.eq_false_iff]; exact hw] at HCH
            obtain ⟨he, hl⟩ := hn.out (fun h => hw (h.2.2 _ hmem))
            have HE := hid he
            have HLL := hid hl
            generalize L.getD k [] = x at *
            clear hw hmem he hl hacl hacb hnext hsr
            go_wp2_with fail
            refine (HCH.out _).mono ?_
            rintro e w5 ⟨rfl, hb5⟩
            have HB5 := hid (HBL.out.trans (hb5.mono HBL.out.size))
            clear hb5
            go_wp2
            refine bodyPost_ret (results_tmp2 rfl _ _ _) rfl ⟨_, by rw [HE.out]; rfl, by rw [HLL.out]; exact OwnS.nil _ _, HB5.out⟩
        · obtain rfl : k = L.length := by omega
          have hok : 1 ≤ L.length ∧ L.length ≤ 8 ∧ ∀ x ∈ L, Wd.chk x = true := ⟨h1, h8, fun x hx => by
            obtain ⟨j, hj, rfl⟩ := List.mem_iff_getElem.1 hx
            have := HALL.out j hj
            rwa [List.getD_eq_getElem?_getD, List.getElem?_eq_getElem hj] at this⟩
          obtain ⟨he, hl⟩ := cleanE_ok hok
          have HE := hid he
          have HLL := hid hl
          have hown := HOWN.out
          rw [List.take_length] at hown
          have HOW := hid hown
          clear he hl hok hown HOWN
          go_wp2
          refine bodyPost_ret (results_tmp2 rfl _ _ _) rfl ⟨_, by rw [HE.out]; rfl, by rw [HLL.out]; exact HOW.out, HBL.out⟩
    · have g8 : (8 : Int) < L.length := by omega
      obtain ⟨he, hl⟩ := hn.out (fun h => h8 h.2.1)
      have HE := hid he
      have HLL := hid hl
      clear he hl
      go_wp2
      refine bodyPost_ret (results_tmp2 rfl _ _ _) rfl ⟨_, by rw [HE.out]; rfl, by rw [HLL.out]; exact OwnS.nil _ _, Below.refl _ _⟩
  · have g1 : (L.length : Int) = 0 := by omega
    obtain ⟨he, hl⟩ := hn.out (fun h => h1 h.1)
    have HE := hid he
    have HLL := hid hl
    clear he hl
    go_wp2
    refine bodyPost_ret (results_tmp2 rfl _ _ _) rfl ⟨_, by rw [HE.out]; rfl, by rw [HLL.out]; exact OwnS.nil _ _, Below.refl _ _⟩
namespace WordsClean
set_option maxHeartbeats 4000000 in
set_option maxRecDepth 100000 in
theorem walk (ao : Option Addr) (L : List ByteArray) (cap : Nat) (w : World) (hA : StrsB w ao L) (hL : L.length ≤ maxLen) (hb : ∀ s ∈ L, s.size ≤ maxLen) :
    Calls Try.prog 4 #[.slice ao L.length cap] w fun e w' => e = .returned (.bool true) ∧ Below w.heap.size w w' := by
  have HA := hid hA
  have HAW := hid (awake15_any w)
  have HFW := hid (fun wx hx => few_any ao L cap 10 20 wx hx hL hb (by omega) (by omega))
  obtain ⟨M, hM⟩ : ∃ M, M = few L 10 20 := ⟨_, rfl⟩
  have hMl : M.length ≤ 10 := by rw [hM, few_length]; omega
  have HMB := hid (show ∀ l ∈ M, ∀ b ∈ l, b < 256 from fun l hl b hb' => few_lt L 10 20 b (by rw [← hM]; exact List.mem_flatten.2 ⟨l, hl, hb'⟩))
  have HML := hid (show ∀ l ∈ M, l.length ≤ 900 from fun l hl => by
    rw [hM] at hl
    obtain ⟨s, _, rfl⟩ := List.mem_map.1 hl
    have := cut_le' s 20
    omega)
  rw [← hM] at HFW
  have HCL := hid (fun (a : Option Addr) (c : Nat) (wx : World) (hx : Strs wx a M) => clean_any a M c wx hx (by omega) HMB.out (fun l hl => by have := HML.out l hl; omega))
  have HRC := hid (fun (a : Option Addr) (c : Nat) (wx : World) (hx : Strs wx a M) => rclean_any a M c wx hx (by omega) HMB.out HML.out)
  have hcl := Wd.foldl_ins_length M []
  have hcll : (cleanL M).length ≤ 10 := by
    unfold cleanL
    split
    · simp only [List.length_nil] at hcl; omega
    · simp
  have hclb : ∀ l ∈ cleanL M, ∀ x ∈ l, x < 256 := by
    unfold cleanL
    split
    · intro l hl
      rcases (Wd.mem_foldl M [] l).1 hl with h | h
      · exact HMB.out l h
      · cases h
    · intro l hl; cases hl
  have HSA := hid (fun (a1 a2 : Option Addr) (c1 c2 : Nat) (wx : World) (h1 : Strs wx a1 (cleanL M)) (h2 : Strs wx a2 (cleanL M)) => (same15_any a1 (cleanL M) c1 a2 (cleanL M) c2 wx h1 h2 hclb hclb (by omega) (by omega)).mono (R' := fun e w' => e = .returned (.bool true) ∧ Below wx.heap.size wx w') (fun e w' ⟨he, hw⟩ => ⟨by rw [he, decide_eq_true rfl], hw⟩))
  generalize cleanL M = CL at *
  generalize cleanE M = ce at *
  clear hA hL hb hM hcl hclb
  go_enter Try.func4, Try.ntmps4
  go_upto_region 3 with (go_at_call 8; refine HAW.out.mono ?_; rintro e w0 ⟨rfl, hb0⟩)
  have HA0 := hid (HA.out.below hb0)
  have HB0 := hid hb0
  clear hb0 HA HAW
  go_upto_region 4 with (go_at_call 10; refine (HFW.out _ HA0.out).mono ?_; rintro e w1 ⟨v, rfl, hown, hb1⟩; obtain ⟨a1, c1, rfl, hs1⟩ := hown.strs)
  have HB1 := hid (HB0.out.trans (hb1.mono HB0.out.size))
  have HS1 := hid hs1
  clear hb1 hs1 hown HA0 HB0 HFW
  go_wp2
  go_loopw [15] (fun i wr => ∃ k : Nat, k ≤ M.length ∧ i = .int .i64 (k : Nat) ∧ Strs wr a1 M ∧ Below w.heap.size w wr)
    (fun i _ => M.length - (intOf i).toNat)
  case atStart => exact ⟨0, by omega, rfl, HS1.out, HB1.out⟩
  case round =>
    obtain ⟨k, hk, rfl, hst, hbl⟩ := hrel
    have HST := hid hst
    have HBL := hid hbl
    clear hst hbl HS1 HB1
    by_cases hkl : k < M.length
    · have gk : (k : Int) < M.length := by omega
      have g9 : (k : Int) < 10 := by omega
      obtain ⟨sb, so, rfl, hc⟩ := HST.out k hkl
      have hmem : M.getD k [] ∈ M := by rw [List.getD_eq_getElem?_getD, List.getElem?_eq_getElem hkl]; exact List.getElem_mem hkl
      have HC1 := hid (fun wx => check_any (M.getD k []) (HMB.out _ hmem) (by have := HML.out _ hmem; omega) wx)
      have HC2 := hid (fun wx => rcheck2_any (M.getD k []) (HMB.out _ hmem) (HML.out _ hmem) wx)
      generalize M.getD k [] = x at *
      generalize Wd.chk x = q at *
      clear hmem
      have hqq : (q == q) = true := by cases q <;> rfl
      go_wp2_with fail
      refine (HC1.out _).mono ?_
      rintro e wz ⟨rfl, hwz⟩
      replace hwz := hwz.symm
      subst hwz
      go_wp2_with fail
      refine (HC2.out _).mono ?_
      rintro e w5 ⟨rfl, hb5⟩
      have HS5 := hid (HST.out.below hb5)
      have HB5 := hid (HBL.out.trans (hb5.mono HBL.out.size))
      clear hb5 hc
      go_wp2
      have hkk : (k : Int) + 1 = ((k + 1 : Nat) : Int) := by omega
      refine ⟨?_, ?_⟩
      · skip
        first
          | exact ⟨k + 1, by omega, congrArg (Value.int .i64) hkk, HS5.out, HB5.out⟩
          | ((repeat apply Exists.intro); refine ⟨?_, rfl⟩; exact ⟨k + 1, by omega, congrArg (Value.int .i64) hkk, HS5.out, HB5.out⟩)
      · simp [intOf]
        omega
    · obtain rfl : k = M.length := by omega
      go_wp2_with fail
      refine (HCL.out a1 c1 _ HST.out).mono ?_
      rintro e w3 ⟨v3, rfl, ho3, hb3⟩
      obtain ⟨a3, c3, rfl, hs3⟩ := ho3.strs
      have HS3 := hid (HST.out.below hb3)
      have HB3 := hid (HBL.out.trans (hb3.mono HBL.out.size))
      have HT3 := hid hs3
      clear ho3 hb3 hs3 HST HBL HCL
      go_wp2_with fail
      refine (HRC.out a1 c1 _ HS3.out).mono ?_
      rintro e w4 ⟨v4, rfl, ho4, hb4⟩
      obtain ⟨a4, c4, rfl, hs4⟩ := ho4.strs
      have HB4 := hid (HB3.out.trans (hb4.mono HB3.out.size))
      have HT3b := hid (HT3.out.below hb4)
      have HT4 := hid hs4
      clear ho4 hb4 hs4 HS3 HB3 HT3 HRC
      go_wp2_with fail
      refine (HSA.out a3 a4 c3 c4 _ HT3b.out HT4.out).mono ?_
      rintro e w5 ⟨rfl, hb5⟩
      have HB5 := hid (HB4.out.trans (hb5.mono HB4.out.size))
      clear hb5 HB4 HT3b HT4
      go_wp2
      exact bodyPost_ret (results_tmp rfl _ _ _) rfl ⟨rfl, HB5.out⟩
/-- A world for the witnesses: the settled one. -/
noncomputable def laidWorld (os : Os) : World := World.holding Try.prog os ⟨#[], #[], []⟩

set_option maxRecDepth 100000 in
theorem contract (H : Type) (enc : TypeId × Value → H) (W : World) (base : Nat) (args : Array Value) (ds gs : List (DataW H)) (before : List MemPlace)
    (hval : ∀ (j : Nat) t v, Try.f4.params[j]? = some t → args[j]? = some v → Value.okWide Try.prog W .any base t v)
    (hW : DataW.Whole enc Try.prog Try.f4.params.toList Rows.wordsCleanSpec.vars false W args.toList ds gs before) (hL : laidMetH Try.prog Rows.wordsCleanRow.laid W) :
    Calls Try.prog 4 args W fun e W' => ∃ v, e = .returned v ∧ Rows.wordsCleanSpec.post enc Try.prog Try.f4 false true false false W args v W' := by
  have hW' := hW
  obtain ⟨p, q, hA0, hV, rfl, hfz, hnd⟩ := hW
  have hA : DataW.TrodAll enc Try.prog W 0 (fun _ => true) true Try.f4.params.toList args.toList ds p := hA0
  rw [Try.params4] at hA hval
  obtain ⟨v0, vs0, d0, ds0, p0, q0, hargs, rfl, rfl, h0, r0⟩ := trodAll_cons hA
  obtain ⟨rfl, rfl, rfl⟩ := trodAll_nil r0
  obtain rfl : args = #[v0] := by cases args; simp_all
  obtain ⟨ao0, L0, cap0, rfl, hL0, hb0⟩ := open_strs (hval 0 22 v0 rfl rfl) h0
  refine (walk ao0 L0 cap0 W hL0 hb0.1 hb0.2).mono fun e W' ⟨he, hb⟩ => ?_
  subst he
  exact ⟨_, rfl, law_post rfl rfl (by rw [Try.params4]; decide +kernel) hW' rfl hb⟩

theorem laid_met (os : Os) : laidMet Try.prog Rows.wordsCleanRow.laid ((laidWorld os).forCall (fun _ _ => 0) ⟨#[], #[.slice none 0 0], []⟩).memory :=
  laidMet_of_run' 8 (by kernel_rfl) (by kernel_rfl)
theorem reads (os : Os) {H : Type} (enc : TypeId × Value → H) : ∃ places, DataW.whole enc Try.prog ((laidWorld os).forCall (fun _ _ => 0) ⟨#[], #[.slice none 0 0], []⟩).memory Try.f4.params.toList Rows.wordsCleanSpec.vars false (#[.slice none 0 0] : Array Value).toList 8
    = some ([.nil], [], places) :=
  ⟨[], by kernel_rfl⟩

set_option maxRecDepth 100000 in
theorem lifted (os : Os) (started : os.Started) (H : Type) (enc : TypeId × Value → H) (F : Stop.Interp) :
    ReturnsInHanded {} Try.checked os 4 .any ((OpenSpec.ofChange Rows.wordsCleanSpec).preRow enc Try.prog Try.f4 Rows.wordsCleanRow.domain false Rows.wordsCleanRow.laid) (((OpenSpec.ofChange Rows.wordsCleanSpec).at F).post enc Try.prog Try.f4 false true false false) := by
  obtain ⟨places, hx⟩ := reads os enc
  refine returnsInHanded_of_row (C := Try.checked) (s := OpenSpec.ofChange Rows.wordsCleanSpec) own started (by kernel_rfl) Try.func4
    (witness_row_at (enc := enc) (C := Try.checked) false (laidWorld os) #[.slice none 0 0] rfl (by kernel_rfl) (by kernel_rfl) (by kernel_rfl)
      (OpenSpec.preRow_of_cond 8 hx (by kernel_rfl) (fun k hk => by cases hk) (by kernel_rfl) (laid_met os))) ?_
  intro W base args ds gs before hval hW _ _ _ hL _ _
  exact contract H enc W base args ds gs before hval hW hL

theorem said : Rows.WordsCleanSaid :=
  OpenClaim.holds_of_cond 4 Try.f4 rfl rfl rfl rfl rfl rfl rfl ⟨rfl, rfl, rfl, rfl, rfl⟩ rfl rfl rfl rfl rfl (by kernel_rfl) Try.func4 (by kernel_rfl)
    (of_decide_eq_true (by kernel_rfl)) (by unfold Func.isWrapper; first | (rw [if_pos (by decide +kernel)]; kernel_rfl) | (rw [if_neg (by decide +kernel)]; exact ⟨rfl, rfl⟩))
    (fun os started H enc _ F => by rw [OpenClaim.pre_eq_preRow]; exact lifted os started H enc F)


end WordsClean
theorem wordsClean_said : Rows.WordsCleanSaid := WordsClean.said
end Go.Proofs.Ytaipaifnkpgmhaa
