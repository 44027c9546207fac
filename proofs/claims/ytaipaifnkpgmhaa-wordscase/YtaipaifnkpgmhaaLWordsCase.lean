/-
  Letters of either case are one; all other bytes part words (law WordsCase); for every input.
-/
import Derived.Test.YtaipaifnkpgmhaaWs9
namespace Go.Proofs.Ytaipaifnkpgmhaa
open Go.ChangeShapes Go.WideShapes Go.ChangeAt Go.RowKit Go.Shelf
open Go.Lib (hid)

attribute [local go_sem] Oper.semAt_some

theorem Wd.Byt.other {w : World} {b c i : Nat} {l : List Nat} (h : Wd.Byt w b l) (v : Value) (hne : b ≠ c) : Wd.Byt (w.setCell ⟨c, i, none⟩ v) b l := by
  obtain ⟨r, h⟩ := h
  exact ⟨r, (heap_setCell_other w ⟨c, i, none⟩ b v hne).trans h⟩
namespace WordsCase
open Wd in
set_option maxHeartbeats 4000000 in
set_option maxRecDepth 100000 in
theorem walk (s : ByteArray) (w : World) (hs : s.size ≤ maxLen) :
    Calls Try.prog 6 #[.string s] w fun e w' => e = .returned (.bool true) ∧ Below w.heap.size w w' := by
  have HAW := hid (awake15_any w)
  have HCU := hid (fun (wx : World) => cut_any s 200 wx hs (by decide))
  obtain ⟨T, hTT⟩ : ∃ T, T = (nums s).take 200 := ⟨_, rfl⟩
  have hT : ∀ x ∈ T, x < 256 := by rw [hTT]; exact cut_lt' s 200
  have hTl : T.length ≤ 200 := by rw [hTT]; exact cut_le' s 200
  rw [← hTT] at HCU
  have HT := hid hT
  have HOF := hid (fun wx => of_any T hT (by omega) wx)
  have HOS := hid (fun wx => of_any (T.map Wd.small) (fun x hx => by obtain ⟨y, hy, rfl⟩ := List.mem_map.1 hx; exact Wd.small_lt y (hT y hy)) (by rw [List.length_map]; omega) wx)
  have HOU := hid (fun wx => of_any (T.map Wd.up) (fun x hx => by obtain ⟨y, hy, rfl⟩ := List.mem_map.1 hx; exact Wd.up_lt y (hT y hy)) (by rw [List.length_map]; omega) wx)
  rw [Wd.words_map Wd.small Wd.small_small T] at HOS
  rw [Wd.words_map Wd.up Wd.small_up T] at HOU
  have HWL := hid (Wd.words_lt T)
  have HWN := hid (Wd.words_length T)
  have HWC := hid (Wd.words_count T)
  generalize Wd.words T = WT at *
  have HSA := hid (fun (a1 a2 : Option Addr) (c1 c2 : Nat) (wx : World) (h1 : Strs wx a1 WT) (h2 : Strs wx a2 WT) => (same15_any a1 WT c1 a2 WT c2 wx h1 h2 HWL.out HWL.out (by have := HWN.out; omega) (by have := HWN.out; omega)).mono (R' := fun e w' => e = .returned (.bool true) ∧ Below wx.heap.size wx w') (fun e w' ⟨he, hw⟩ => ⟨by rw [he, decide_eq_true rfl], hw⟩))
  clear hTT hs
  go_enter Try.func6, Try.ntmps6
  go_upto_region 3 with (go_at_call 8; refine HAW.out.mono ?_; rintro e w0 ⟨rfl, hb0⟩)
  go_upto_region 4 with (go_at_call 9; refine (HCU.out _).mono ?_; rintro e wz ⟨rfl, hwz⟩; subst hwz)
  clear HCU HAW
  have hsz : (str T).size = T.length := str_size T
  have hcv := Lib.run_convert_string_bytes (P := Try.prog) w0 9 38 5 (str T) Try.underlying9 Try.underlying38 Try.underlying5
  have hby := Byt.made w0 T hT
  have hbb := bytes_below w0 (str T)
  rw [hsz] at hcv
  have hgc : T.length ≤ grownCap w0 T.length 0 5 := grownCap_ge _ _ _ _
  generalize grownCap w0 T.length 0 5 = gc at *
  generalize Lib.bytesWorld w0 5 (str T) = w1 at *
  have hcv2 := Lib.run_convert_string_bytes (P := Try.prog) w1 9 38 5 (str T) Try.underlying9 Try.underlying38 Try.underlying5
  have hby2 := Byt.made w1 T hT
  have hbb2 := bytes_below w1 (str T)
  rw [hsz] at hcv2
  have hgc2 : T.length ≤ grownCap w1 T.length 0 5 := grownCap_ge _ _ _ _
  generalize grownCap w1 T.length 0 5 = gc2 at *
  generalize Lib.bytesWorld w1 5 (str T) = w2 at *
  have h01 : w0.heap.size < w1.heap.size := hby.lt
  have HBY := hid (hby.below hbb2 h01)
  have HBY2 := hid hby2
  have HB2 := hid (show Below w.heap.size w w2 from (hb0.trans (hbb.mono hb0.size)).trans (hbb2.mono (Nat.le_trans hb0.size hbb.size)))
  have hw0 := hb0.size
  generalize w0.heap.size = p at *
  generalize w1.heap.size = q at *
  clear hby hby2 hbb hbb2 hb0
  go_wp2
  go_loopw [16] (fun i wr => ∃ k : Nat, k ≤ T.length ∧ i = .int .i64 (k : Nat) ∧ Byt wr p ((T.take k).map Wd.small ++ T.drop k) ∧ Byt wr q ((T.take k).map Wd.up ++ T.drop k) ∧ Below w.heap.size w wr)
    (fun i _ => T.length - (intOf i).toNat)
  case atStart => exact ⟨0, by omega, rfl, by simpa using HBY.out, by simpa using HBY2.out, HB2.out⟩
  case round =>
    obtain ⟨k, hk, rfl, hb1, hb2, hbl⟩ := hrel
    have H1 := hid hb1
    have H2 := hid hb2
    have HBL := hid hbl
    clear hb1 hb2 hbl HBY HBY2 HB2 hcv hcv2
    have hll : ∀ f : Nat → Nat, ((T.take k).map f ++ T.drop k).length = T.length := fun f => by simp; omega
    by_cases hkl : k < T.length
    · have g1 : (k : Int) < T.length := by omega
      have hx := getD_ltw HT.out k hkl
      have hget : ∀ f : Nat → Nat, ((T.take k).map f ++ T.drop k).getD k 0 = T.getD k 0 := fun f => by
        rw [List.getD_eq_getElem?_getD, List.getElem?_append_right (by simp; omega), List.getElem?_drop, List.getD_eq_getElem?_getD]
        congr 2
        simp
        omega
      have hset : ∀ f : Nat → Nat, ((T.take k).map f ++ T.drop k).set k (f (T.getD k 0)) = (T.take (k + 1)).map f ++ T.drop (k + 1) := fun f => by
        rw [List.set_append_right _ _ (by simp; omega), List.length_map, List.length_take, Nat.min_eq_left hk, Nat.sub_self, List.drop_eq_getElem_cons hkl, List.set_cons_zero, List.take_succ_eq_append_getElem hkl, List.map_append, List.getD_eq_getElem?_getD, List.getElem?_eq_getElem hkl, List.append_assoc]
        rfl
      have hc1 := H1.out.cell k (by rw [hll]; omega)
      have hf1 := H1.out.free k (by rw [hll]; omega)
      have hc2 := H2.out.cell k (by rw [hll]; omega)
      have hf2 := H2.out.free k (by rw [hll]; omega)
      rw [hget] at hc1 hc2
      have HS1 := hid (hset Wd.small)
      have HS2 := hid (hset Wd.up)
      have HL := hid hll
      clear hget hset hll
      have hsame : ∀ f : Nat → Nat, f (T.getD k 0) = T.getD k 0 → (T.take k).map f ++ T.drop k = (T.take (k + 1)).map f ++ T.drop (k + 1) := fun f hf => by
        rw [List.getD_eq_getElem?_getD, List.getElem?_eq_getElem hkl] at hf
        simp only [Option.getD_some] at hf
        rw [List.take_succ_eq_append_getElem hkl, List.map_append, List.append_assoc]
        conv => lhs; rw [List.drop_eq_getElem_cons hkl]
        rw [List.map_singleton, hf]
        rfl
      have HSAME := hid hsame
      clear hsame
      have hpq : p ≠ q := by omega
      generalize T.getD k 0 = b at *
      by_cases hu : 65 ≤ b ∧ b ≤ 90
      · have u1 : (65 : Int) ≤ b := by omega
        have u2 : (b : Int) ≤ 90 := by omega
        have u3 : ¬ (97 : Int) ≤ b := by omega
        obtain ⟨sb, hsb⟩ : ∃ sb, sb = b + 32 := ⟨_, rfl⟩
        have hq : (b : Int) + 32 = (sb : Int) := by omega
        have hsb2 : (sb : Int) < 256 := by omega
        have hsm : Wd.small b = sb := by rw [hsb]; unfold Wd.small; rw [if_pos hu]
        have hup : Wd.up b = b := by unfold Wd.up; rw [if_neg (by omega)]
        have hn1 := H1.out.set k sb (by rw [HL.out]; omega)
        rw [← hsm, HS1.out, hsm] at hn1
        have hn2 := H2.out.other (i := k) (.int .u8 (sb : Int)) (Ne.symm hpq)
        have hbl5 := HBL.out.setCell (p := ⟨p, k, none⟩) hw0 (.int .u8 (sb : Int))
        have hc5 := hn2.cell k (by rw [HL.out]; omega)
        have hg5 : ((T.take k).map Wd.up ++ T.drop k).getD k 0 = b := by
          have h1 := H2.out.cell k (by rw [HL.out]; omega)
          rw [hc2] at h1
          simp only [Option.some.injEq, Value.int.injEq, true_and] at h1
          omega
        rw [hg5] at hc5
        rw [HSAME.out Wd.up hup] at hn2
        have HN1 := hid hn1
        have HN2 := hid hn2
        have HBL5 := hid hbl5
        clear hu hsm hsb hup hn1 hn2 hbl5 hc2 hf2 hg5 hpq
        go_upto_region 10 with (fail)
        generalize wr.setCell ⟨p, k, none⟩ (.int .u8 (sb : Int)) = w5 at *
        go_wp2
        have hkk : (k : Int) + 1 = ((k + 1 : Nat) : Int) := by omega
        refine ⟨?_, ?_⟩
        · skip
          first
            | exact ⟨k + 1, by omega, congrArg (Value.int .i64) hkk, HN1.out, HN2.out, HBL5.out⟩
            | ((repeat apply Exists.intro); refine ⟨?_, rfl⟩; exact ⟨k + 1, by omega, congrArg (Value.int .i64) hkk, HN1.out, HN2.out, HBL5.out⟩)
        · simp [intOf]
          omega
      · have hu' : ¬ (65 : Int) ≤ b ∨ ((65 : Int) ≤ b ∧ ¬ (b : Int) ≤ 90) := by omega
        have hsm : Wd.small b = b := by unfold Wd.small; rw [if_neg hu]
        have hn1 := H1.out
        rw [HSAME.out Wd.small hsm] at hn1
        have HN1 := hid hn1
        clear hu hsm hn1
        rcases hu' with u1 | ⟨u1, u2⟩
        · have v1 : ¬ (97 : Int) ≤ b := by omega
          have hn2 := H2.out
          rw [HSAME.out Wd.up (by unfold Wd.up; rw [if_neg (by omega)])] at hn2
          have HN2 := hid hn2
          clear hn2
          go_wp2
          have hkk : (k : Int) + 1 = ((k + 1 : Nat) : Int) := by omega
          refine ⟨?_, ?_⟩
          · skip
            first
              | exact ⟨k + 1, by omega, congrArg (Value.int .i64) hkk, HN1.out, HN2.out, HBL.out⟩
              | ((repeat apply Exists.intro); refine ⟨?_, rfl⟩; exact ⟨k + 1, by omega, congrArg (Value.int .i64) hkk, HN1.out, HN2.out, HBL.out⟩)
          · simp [intOf]
            omega
        · by_cases hlo : 97 ≤ b ∧ b ≤ 122
          · have v1 : (97 : Int) ≤ b := by omega
            have v2 : (b : Int) ≤ 122 := by omega
            obtain ⟨sb, hsb⟩ : ∃ sb, sb = b - 32 := ⟨_, rfl⟩
            have hq : (b : Int) - 32 = (sb : Int) := by omega
            have hsb2 : (sb : Int) < 256 := by omega
            have hup : Wd.up b = sb := by rw [hsb]; unfold Wd.up; rw [if_pos hlo]
            have hn2 := H2.out.set k sb (by rw [HL.out]; omega)
            rw [← hup, HS2.out, hup] at hn2
            have hn1 := HN1.out.other (i := k) (.int .u8 (sb : Int)) hpq
            have hbl5 := HBL.out.setCell (p := ⟨q, k, none⟩) (Nat.le_trans hw0 (Nat.le_of_lt h01)) (.int .u8 (sb : Int))
            have HN2 := hid hn2
            have HN1b := hid hn1
            have HBL5 := hid hbl5
            clear hlo hup hsb hn1 hn2 hbl5 hpq
            go_wp2
            have hkk : (k : Int) + 1 = ((k + 1 : Nat) : Int) := by omega
            refine ⟨?_, ?_⟩
            · skip
              first
                | exact ⟨k + 1, by omega, congrArg (Value.int .i64) hkk, HN1b.out, HN2.out, HBL5.out⟩
                | ((repeat apply Exists.intro); refine ⟨?_, rfl⟩; exact ⟨k + 1, by omega, congrArg (Value.int .i64) hkk, HN1b.out, HN2.out, HBL5.out⟩)
            · simp [intOf]
              omega
          · have hlo' : ¬ (97 : Int) ≤ b ∨ ((97 : Int) ≤ b ∧ ¬ (b : Int) ≤ 122) := by omega
            have hn2 := H2.out
            rw [HSAME.out Wd.up (by unfold Wd.up; rw [if_neg hlo])] at hn2
            have HN2 := hid hn2
            clear hn2 hlo
            rcases hlo' with v1 | ⟨v1, v2⟩
            all_goals
              go_wp2
              have hkk : (k : Int) + 1 = ((k + 1 : Nat) : Int) := by omega
              refine ⟨?_, ?_⟩
              · skip
                first
                  | exact ⟨k + 1, by omega, congrArg (Value.int .i64) hkk, HN1.out, HN2.out, HBL.out⟩
                  | ((repeat apply Exists.intro); refine ⟨?_, rfl⟩; exact ⟨k + 1, by omega, congrArg (Value.int .i64) hkk, HN1.out, HN2.out, HBL.out⟩)
              · simp [intOf]
                omega
    · obtain rfl : k = T.length := by omega
      have hs1 := H1.out.str T.length gc (by rw [hll]; omega)
      have hs2 := H2.out.str T.length gc2 (by rw [hll]; omega)
      rw [List.take_of_length_le (by rw [hll]; omega)] at hs1 hs2
      simp only [List.take_length, List.drop_length, List.append_nil] at hs1 hs2
      have HSB := hid (fun wx => (show ∀ wx : World, Wd.Byt wx q (T.map Wd.up) → (convert 38 9 (.slice (some ⟨q, 0, none⟩) T.length gc2)).run Try.prog wx = .ok (.string (str (T.map Wd.up))) wx from fun wx h => by
        have := h.str T.length gc2 (by rw [List.length_map]; omega)
        rwa [List.take_of_length_le (by rw [List.length_map]; omega)] at this) wx)
      have HU := hid (show Wd.Byt wr q (T.map Wd.up) from by have := H2.out; simpa using this)
      have hlq : q < wr.heap.size := H2.out.lt
      have HBL2 := hid HBL.out
      clear hs2 H1 H2 HBL hll
      go_wp2_with fail
      refine (HOS.out _).mono ?_
      rintro e wa ⟨va, rfl, hoa, hba⟩
      obtain ⟨a1, c1, rfl, hs1a⟩ := hoa.strs
      clear hs1 hoa HOS
      go_wp2_with fail
      refine (HOF.out _).mono ?_
      rintro e wb ⟨vb, rfl, hob, hbb⟩
      obtain ⟨a2, c2, rfl, hs2a⟩ := hob.strs
      have hs1b := hs1a.below hbb
      clear hob hs1a
      go_wp2_with fail
      refine (HSA.out a1 a2 c1 c2 _ hs1b hs2a).mono ?_
      rintro e wc ⟨rfl, hbc⟩
      clear hs1b hs2a
      have hba2 := HBL2.out.trans (hba.mono HBL2.out.size)
      have hbb2 := hba2.trans (hbb.mono hba2.size)
      have hbc2 := hbb2.trans (hbc.mono hbb2.size)
      have hqa : q < wa.heap.size := Nat.lt_of_lt_of_le hlq hba.size
      have hqb : q < wb.heap.size := Nat.lt_of_lt_of_le hqa hbb.size
      have hUc : Wd.Byt wc q (T.map Wd.up) := ((HU.out.below hba hlq).below hbb hqa).below hbc hqb
      have HBC := hid hbc2
      have hsu := HSB.out wc hUc
      clear hba hbb hbc hba2 hbb2 hbc2 hUc HU HSB hqa hqb hlq HBL2
      go_wp2_with fail
      refine (HOU.out _).mono ?_
      rintro e wd ⟨vd, rfl, hod, hbd⟩
      obtain ⟨a3, c3, rfl, hs3a⟩ := hod.strs
      have HBD := hid (HBC.out.trans (hbd.mono HBC.out.size))
      clear hsu hod HOU hbd HBC
      go_wp2_with fail
      refine (HOF.out _).mono ?_
      rintro e we ⟨ve, rfl, hoe, hbe⟩
      obtain ⟨a4, c4, rfl, hs4a⟩ := hoe.strs
      have hs3b := hs3a.below hbe
      have HBE := hid (HBD.out.trans (hbe.mono HBD.out.size))
      clear hoe hs3a hbe HBD
      go_wp2_with fail
      refine (HSA.out a3 a4 c3 c4 _ hs3b hs4a).mono ?_
      rintro e wf ⟨rfl, hbf⟩
      have HBF := hid (HBE.out.trans (hbf.mono HBE.out.size))
      clear hs3b hs4a hbf HBE
      have hle : (WT.length : Int) ≤ ((T.length : Int) + 1) / 2 := by have := HWC.out; omega
      go_wp2_with fail
      refine (HOF.out _).mono ?_
      rintro e wg ⟨vg, rfl, hog, hbg⟩
      obtain ⟨a5, c5, rfl, _⟩ := hog.strs
      have HBG := hid (HBF.out.trans (hbg.mono HBF.out.size))
      clear hog hbg HBF
      go_wp2
      exact bodyPost_ret (results_tmp rfl _ _ _) rfl ⟨rfl, HBG.out⟩
/-- A world for the witnesses: the settled one. -/
noncomputable def laidWorld (os : Os) : World := World.holding Try.prog os ⟨#[], #[], []⟩

set_option maxRecDepth 100000 in
theorem contract (H : Type) (enc : TypeId × Value → H) (W : World) (base : Nat) (args : Array Value) (ds gs : List (DataW H)) (before : List MemPlace)
    (hval : ∀ (j : Nat) t v, Try.f6.params[j]? = some t → args[j]? = some v → Value.okWide Try.prog W .any base t v)
    (hW : DataW.Whole enc Try.prog Try.f6.params.toList Rows.wordsCaseSpec.vars false W args.toList ds gs before) (hL : laidMetH Try.prog Rows.wordsCaseRow.laid W) :
    Calls Try.prog 6 args W fun e W' => ∃ v, e = .returned v ∧ Rows.wordsCaseSpec.post enc Try.prog Try.f6 false true false false W args v W' := by
  have hW' := hW
  obtain ⟨p, q, hA0, hV, rfl, hfz, hnd⟩ := hW
  have hA : DataW.TrodAll enc Try.prog W 0 (fun _ => true) true Try.f6.params.toList args.toList ds p := hA0
  rw [Try.params6] at hA hval
  obtain ⟨v0, vs0, d0, ds0, p0, q0, hargs, rfl, rfl, h0, r0⟩ := trodAll_cons hA
  obtain ⟨rfl, rfl, rfl⟩ := trodAll_nil r0
  obtain rfl : args = #[v0] := by cases args; simp_all
  obtain ⟨s0, rfl, rfl, rfl, hs0⟩ := Go.ChangeMaps.open_string Try.underlying9 (hval 0 9 v0 rfl rfl) h0
  refine (walk s0 W hs0).mono fun e W' ⟨he, hb⟩ => ?_
  subst he
  exact ⟨_, rfl, law_post rfl rfl (by rw [Try.params6]; decide +kernel) hW' rfl hb⟩

theorem laid_met (os : Os) : laidMet Try.prog Rows.wordsCaseRow.laid ((laidWorld os).forCall (fun _ _ => 0) ⟨#[], #[.string ByteArray.empty], []⟩).memory :=
  laidMet_of_run' 8 (by kernel_rfl) (by kernel_rfl)
theorem reads (os : Os) {H : Type} (enc : TypeId × Value → H) : ∃ places, DataW.whole enc Try.prog ((laidWorld os).forCall (fun _ _ => 0) ⟨#[], #[.string ByteArray.empty], []⟩).memory Try.f6.params.toList Rows.wordsCaseSpec.vars false (#[.string ByteArray.empty] : Array Value).toList 8
    = some ([.lit (.string [])], [], places) :=
  ⟨[], by kernel_rfl⟩

set_option maxRecDepth 100000 in
theorem lifted (os : Os) (started : os.Started) (H : Type) (enc : TypeId × Value → H) (F : Stop.Interp) :
    ReturnsInHanded {} Try.checked os 6 .any ((OpenSpec.ofChange Rows.wordsCaseSpec).preRow enc Try.prog Try.f6 Rows.wordsCaseRow.domain false Rows.wordsCaseRow.laid) (((OpenSpec.ofChange Rows.wordsCaseSpec).at F).post enc Try.prog Try.f6 false true false false) := by
  obtain ⟨places, hx⟩ := reads os enc
  refine returnsInHanded_of_row (C := Try.checked) (s := OpenSpec.ofChange Rows.wordsCaseSpec) own started (by kernel_rfl) Try.func6
    (witness_row_at (enc := enc) (C := Try.checked) false (laidWorld os) #[.string ByteArray.empty] rfl (by kernel_rfl) (by kernel_rfl) (by kernel_rfl)
      (OpenSpec.preRow_of_cond 8 hx (by kernel_rfl) (fun k hk => by cases hk) (by kernel_rfl) (laid_met os))) ?_
  intro W base args ds gs before hval hW _ _ _ hL _ _
  exact contract H enc W base args ds gs before hval hW hL

theorem said : Rows.WordsCaseSaid :=
  OpenClaim.holds_of_cond 6 Try.f6 rfl rfl rfl rfl rfl rfl rfl ⟨rfl, rfl, rfl, rfl, rfl⟩ rfl rfl rfl rfl rfl (by kernel_rfl) Try.func6 (by kernel_rfl)
    (of_decide_eq_true (by kernel_rfl)) (by unfold Func.isWrapper; first | (rw [if_pos (by decide +kernel)]; kernel_rfl) | (rw [if_neg (by decide +kernel)]; exact ⟨rfl, rfl⟩))
    (fun os started H enc _ F => by rw [OpenClaim.pre_eq_preRow]; exact lifted os started H enc F)


end WordsCase
theorem wordsCase_said : Rows.WordsCaseSaid := WordsCase.said
end Go.Proofs.Ytaipaifnkpgmhaa
