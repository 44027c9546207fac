/-
  Words of two texts, with something else between, are those of both (law WordsJoin); for every input.
-/
import Derived.Test.YtaipaifnkpgmhaaWs9
namespace Go.Proofs.Ytaipaifnkpgmhaa
open Go.ChangeShapes Go.WideShapes Go.ChangeAt Go.RowKit Go.Shelf
open Go.Lib (hid)

attribute [local go_sem] Oper.semAt_some

namespace WordsJoin
set_option maxHeartbeats 4000000 in
set_option maxRecDepth 100000 in
theorem walk (s t : ByteArray) (w : World) (hs : s.size ≤ maxLen) (ht : t.size ≤ maxLen) :
    Calls Try.prog 5 #[.string s, .string t] w fun e w' => e = .returned (.bool true) ∧ Below w.heap.size w w' := by
  have HAW := hid (awake15_any w)
  have HC1 := hid (fun (wx : World) => cut_any s 60 wx hs (by decide))
  have HC2 := hid (fun (wx : World) => cut_any t 60 wx ht (by decide))
  obtain ⟨A, hAA⟩ : ∃ T, T = (nums s).take 60 := ⟨_, rfl⟩
  obtain ⟨B, hBB⟩ : ∃ T, T = (nums t).take 60 := ⟨_, rfl⟩
  have hA : ∀ x ∈ A, x < 256 := by rw [hAA]; exact cut_lt' s 60
  have hAl : A.length ≤ 60 := by rw [hAA]; exact cut_le' s 60
  have hB : ∀ x ∈ B, x < 256 := by rw [hBB]; exact cut_lt' t 60
  have hBl : B.length ≤ 60 := by rw [hBB]; exact cut_le' t 60
  rw [← hAA] at HC1
  rw [← hBB] at HC2
  clear hAA hBB hs ht
  have hJ : ∀ c, c < 256 → ∀ x ∈ A ++ c :: B, x < 256 := by
    intro c hc x hx
    rcases List.mem_append.1 hx with h | h
    · exact hA x h
    · rcases List.mem_cons.1 h with rfl | h
      · exact hc
      · exact hB x h
  have hJl : ∀ c : Nat, (A ++ c :: B).length ≤ 121 := fun c => by rw [List.length_append, List.length_cons]; omega
  have hjm : ∀ c, Wd.pt c = false → ∀ x, x ∈ Wd.words (A ++ c :: B) ↔ x ∈ Wd.words A ∨ x ∈ Wd.words B := by
    intro c hc x
    rw [Wd.words_mem _ (by have := hJl c; omega), Wd.words_mem A (by omega), Wd.words_mem B (by omega), Wd.seqs_join A B c hc, List.mem_append]
  have m32 : str A ++ ({ data := #[32] } : ByteArray) = str (A ++ [32]) := str_append A [32]
  have m45 : str A ++ ({ data := #[45] } : ByteArray) = str (A ++ [45]) := str_append A [45]
  have e32 : str (A ++ [32]) ++ str B = str (A ++ 32 :: B) := by rw [str_append, List.append_assoc]; rfl
  have e45 : str (A ++ [45]) ++ str B = str (A ++ 45 :: B) := by rw [str_append, List.append_assoc]; rfl
  have zA : (str A).size = A.length := str_size A
  have zB : (str B).size = B.length := str_size B
  have z32 : ({ data := #[32] } : ByteArray).size = 1 := rfl
  have z45 : ({ data := #[45] } : ByteArray).size = 1 := rfl
  have zA32 : (str (A ++ [32])).size = A.length + 1 := by rw [str_size, List.length_append]; rfl
  have zA45 : (str (A ++ [45])).size = A.length + 1 := by rw [str_size, List.length_append]; rfl
  have b1 : ¬ 9223372036854775807 < A.length + 1 := by omega
  have b2 : ¬ 9223372036854775807 < A.length + 1 + B.length := by omega
  have HOJ := hid (fun wx => of_any (A ++ 32 :: B) (hJ 32 (by decide)) (by have := hJl 32; omega) wx)
  have HOA := hid (fun wx => of_any A hA (by omega) wx)
  have HOB := hid (fun wx => of_any B hB (by omega) wx)
  have HHA := hid (fun x (hx : ∀ b ∈ x, b < 256) a2 c2 wx h1 => has_any A hA (by omega) a2 [x] c2 wx h1 (by simp) (by simpa using hx))
  have HHB := hid (fun x (hx : ∀ b ∈ x, b < 256) a2 c2 wx h1 => has_any B hB (by omega) a2 [x] c2 wx h1 (by simp) (by simpa using hx))
  have HJA := hid (fun (a2 : Option Addr) (c2 : Nat) (wx : World) (h1 : Strs wx a2 (Wd.words A)) => (has_any (A ++ 45 :: B) (hJ 45 (by decide)) (by have := hJl 45; omega) a2 (Wd.words A) c2 wx h1 (by have := Wd.words_length A; omega) (Wd.words_lt A)).mono (R' := fun e w' => e = .returned (.bool true) ∧ Below wx.heap.size wx w') (fun e w' ⟨he, hw⟩ => ⟨by rw [he, decide_eq_true (fun x h => (hjm 45 (by decide) x).2 (Or.inl h))], hw⟩))
  have HJB := hid (fun (a2 : Option Addr) (c2 : Nat) (wx : World) (h1 : Strs wx a2 (Wd.words B)) => (has_any (A ++ 45 :: B) (hJ 45 (by decide)) (by have := hJl 45; omega) a2 (Wd.words B) c2 wx h1 (by have := Wd.words_length B; omega) (Wd.words_lt B)).mono (R' := fun e w' => e = .returned (.bool true) ∧ Below wx.heap.size wx w') (fun e w' ⟨he, hw⟩ => ⟨by rw [he, decide_eq_true (fun x h => (hjm 45 (by decide) x).2 (Or.inr h))], hw⟩))
  have HJM := hid (hjm 32 (by decide))
  have HWL := hid (Wd.words_lt (A ++ 32 :: B))
  have HWN := hid (Wd.words_length (A ++ 32 :: B))
  generalize hsj : str (A ++ 32 :: B) = SJ at *
  generalize hsk : str (A ++ 45 :: B) = SK at *
  clear hsj hsk
  generalize Wd.words (A ++ 32 :: B) = WJ at *
  generalize Wd.words A = WA at *
  generalize Wd.words B = WB at *
  generalize str (A ++ [32]) = SA32 at *
  generalize str (A ++ [45]) = SA45 at *
  generalize str A = SA at *
  generalize str B = SB at *
  generalize A.length = na at *
  generalize B.length = nb at *
  clear hJ hjm hJl hA hB
  go_enter Try.func5, Try.ntmps5
  go_upto_region 3 with (go_at_call 8; refine HAW.out.mono ?_; rintro e w0 ⟨rfl, hb0⟩)
  have HB0 := hid hb0
  clear HAW hb0
  go_wp2_with fail
  refine (HC1.out _).mono ?_
  rintro e wz ⟨rfl, hwz⟩
  subst hwz
  go_wp2_with fail
  refine (HC2.out _).mono ?_
  rintro e wz ⟨rfl, hwz⟩
  subst hwz
  clear HC1 HC2
  go_upto_region 5 with (go_at_call 11; refine (HOJ.out _).mono ?_; rintro e w2 ⟨v2, rfl, ho2, hb2⟩; obtain ⟨a2, c2, rfl, hs2⟩ := ho2.strs)
  have HB2 := hid (HB0.out.trans (hb2.mono HB0.out.size))
  have HS2 := hid hs2
  clear hb2 hs2 ho2 HB0 HOJ
  go_wp2
  go_loopw [6, 22] (fun nv i wq => ∃ k : Nat, k ≤ WJ.length ∧ i = .int .i64 (k : Nat) ∧ nv = .int .i64 (k : Nat) ∧ Strs wq a2 WJ ∧ Below w.heap.size w wq)
    (fun _ i _ => WJ.length - (intOf i).toNat)
  case atStart => exact ⟨0, by omega, rfl, rfl, HS2.out, HB2.out⟩
  case round =>
    obtain ⟨k, hk, rfl, rfl, hst, hbl⟩ := hrel
    have HST := hid hst
    have HBL := hid hbl
    clear hst hbl HS2 HB2
    by_cases hkl : k < WJ.length
    · have g1 : (k : Int) < WJ.length := by omega
      have g64 : (k : Int) < 64 := by have := HWN.out; omega
      obtain ⟨sb, so, rfl, hc⟩ := HST.out k hkl
      have hmem : WJ.getD k [] ∈ WJ := by rw [List.getD_eq_getElem?_getD, List.getElem?_eq_getElem hkl]; exact List.getElem_mem hkl
      have hx := HWL.out _ hmem
      have hor := (HJM.out _).1 hmem
      generalize WJ.getD k [] = x at *
      clear hmem
      have HA1 := hid (HHA.out x hx)
      have HB1 := hid (HHB.out x hx)
      have hba : Below wr.heap.size wr (wr.alloc (.cells #[.string (str x)] 9)) := (Below.refl _ _).alloc (Nat.le_refl _) _
      have hsa := strs_one wr x 9
      by_cases hxa : x ∈ WA
      · have hda : decide (∀ y ∈ [x], y ∈ WA) = true := decide_eq_true (by simpa using hxa)
        rw [hda] at HA1
        clear hxa hor hda
        go_wp2_with fail
        generalize wr.alloc (.cells #[.string (str x)] 9) = w3 at *
        refine (HA1.out (some ⟨_, 0, none⟩) 1 _ hsa).mono ?_
        rintro e w4 ⟨rfl, hb4⟩
        have hbb := hba.trans (hb4.mono hba.size)
        have HS4 := hid (HST.out.below hbb)
        have HB4 := hid (HBL.out.trans (hbb.mono HBL.out.size))
        clear hbb hb4 hba hsa hc
        go_wp2
        have hkk : (k : Int) + 1 = ((k + 1 : Nat) : Int) := by omega
        refine ⟨?_, ?_⟩
        · skip
          first
            | exact ⟨k + 1, by omega, congrArg (Value.int .i64) hkk, congrArg (Value.int .i64) hkk, HS4.out, HB4.out⟩
            | ((repeat apply Exists.intro); refine ⟨?_, rfl⟩; exact ⟨k + 1, by omega, congrArg (Value.int .i64) hkk, congrArg (Value.int .i64) hkk, HS4.out, HB4.out⟩)
        · simp [intOf]
          omega
      · have hxb : x ∈ WB := hor.resolve_left hxa
        have hda : decide (∀ y ∈ [x], y ∈ WA) = false := decide_eq_false (by simpa using hxa)
        have hdb : decide (∀ y ∈ [x], y ∈ WB) = true := decide_eq_true (by simpa using hxb)
        rw [hda] at HA1
        rw [hdb] at HB1
        clear hxa hor hda hdb hxb
        go_wp2_with fail
        generalize wr.alloc (.cells #[.string (str x)] 9) = w3 at *
        refine (HA1.out (some ⟨_, 0, none⟩) 1 _ hsa).mono ?_
        rintro e w4 ⟨rfl, hb4⟩
        have hbb := hba.trans (hb4.mono hba.size)
        have HS4 := hid (HST.out.below hbb)
        have HB4 := hid (HBL.out.trans (hbb.mono HBL.out.size))
        clear hbb hb4 hba hsa hc
        have hba : Below w4.heap.size w4 (w4.alloc (.cells #[.string (str x)] 9)) := (Below.refl _ _).alloc (Nat.le_refl _) _
        have hsa := strs_one w4 x 9
        go_wp2_with fail
        generalize w4.alloc (.cells #[.string (str x)] 9) = w5 at *
        refine (HB1.out (some ⟨_, 0, none⟩) 1 _ hsa).mono ?_
        rintro e w6 ⟨rfl, hb6⟩
        have hbb := hba.trans (hb6.mono hba.size)
        have HS6 := hid (HS4.out.below hbb)
        have HB6 := hid (HB4.out.trans (hbb.mono HB4.out.size))
        clear hbb hb6 hba hsa
        go_wp2
        have hkk : (k : Int) + 1 = ((k + 1 : Nat) : Int) := by omega
        refine ⟨?_, ?_⟩
        · skip
          first
            | exact ⟨k + 1, by omega, congrArg (Value.int .i64) hkk, congrArg (Value.int .i64) hkk, HS6.out, HB6.out⟩
            | ((repeat apply Exists.intro); refine ⟨?_, rfl⟩; exact ⟨k + 1, by omega, congrArg (Value.int .i64) hkk, congrArg (Value.int .i64) hkk, HS6.out, HB6.out⟩)
        · simp [intOf]
          omega
    · obtain rfl : k = WJ.length := by omega
      clear HST HJM HHA HHB
      go_wp2_with fail
      refine (HOA.out _).mono ?_
      rintro e w3 ⟨v3, rfl, ho3, hb3⟩
      obtain ⟨a3, c3, rfl, hs3⟩ := ho3.strs
      have HB3 := hid (HBL.out.trans (hb3.mono HBL.out.size))
      clear ho3 hb3 HBL
      go_wp2_with fail
      refine (HJA.out a3 c3 _ hs3).mono ?_
      rintro e w4 ⟨rfl, hb4⟩
      have HB4 := hid (HB3.out.trans (hb4.mono HB3.out.size))
      clear hb4 HB3 hs3
      go_wp2_with fail
      refine (HOB.out _).mono ?_
      rintro e w5 ⟨v5, rfl, ho5, hb5⟩
      obtain ⟨a5, c5, rfl, hs5⟩ := ho5.strs
      have HB5 := hid (HB4.out.trans (hb5.mono HB4.out.size))
      clear ho5 hb5 HB4
      go_wp2_with fail
      refine (HJB.out a5 c5 _ hs5).mono ?_
      rintro e w6 ⟨rfl, hb6⟩
      have HB6 := hid (HB5.out.trans (hb6.mono HB5.out.size))
      clear hb6 HB5 hs5
      go_wp2
      exact bodyPost_ret (results_tmp rfl _ _ _) rfl ⟨rfl, HB6.out⟩
/-- A world for the witnesses: the settled one. -/
noncomputable def laidWorld (os : Os) : World := World.holding Try.prog os ⟨#[], #[], []⟩

set_option maxRecDepth 100000 in
theorem contract (H : Type) (enc : TypeId × Value → H) (W : World) (base : Nat) (args : Array Value) (ds gs : List (DataW H)) (before : List MemPlace)
    (hval : ∀ (j : Nat) t v, Try.f5.params[j]? = some t → args[j]? = some v → Value.okWide Try.prog W .any base t v)
    (hW : DataW.Whole enc Try.prog Try.f5.params.toList Rows.wordsJoinSpec.vars false W args.toList ds gs before) (hL : laidMetH Try.prog Rows.wordsJoinRow.laid W) :
    Calls Try.prog 5 args W fun e W' => ∃ v, e = .returned v ∧ Rows.wordsJoinSpec.post enc Try.prog Try.f5 false true false false W args v W' := by
  have hW' := hW
  obtain ⟨p, q, hA0, hV, rfl, hfz, hnd⟩ := hW
  have hA : DataW.TrodAll enc Try.prog W 0 (fun _ => true) true Try.f5.params.toList args.toList ds p := hA0
  rw [Try.params5] at hA hval
  obtain ⟨v0, vs0, d0, ds0, p0, q0, hargs, rfl, rfl, h0, r0⟩ := trodAll_cons hA
  obtain ⟨v1, vs1, d1, ds1, p1, q1, rfl, rfl, rfl, h1, r1⟩ := trodAll_cons r0
  obtain ⟨rfl, rfl, rfl⟩ := trodAll_nil r1
  obtain rfl : args = #[v0, v1] := by cases args; simp_all
  obtain ⟨s0, rfl, rfl, rfl, hs0⟩ := Go.ChangeMaps.open_string Try.underlying9 (hval 0 9 v0 rfl rfl) h0
  obtain ⟨s1, rfl, rfl, rfl, hs1⟩ := Go.ChangeMaps.open_string Try.underlying9 (hval 1 9 v1 rfl rfl) h1
  refine (walk s0 s1 W hs0 hs1).mono fun e W' ⟨he, hb⟩ => ?_
  subst he
  exact ⟨_, rfl, law_post rfl rfl (by rw [Try.params5]; decide +kernel) hW' rfl hb⟩

theorem laid_met (os : Os) : laidMet Try.prog Rows.wordsJoinRow.laid ((laidWorld os).forCall (fun _ _ => 0) ⟨#[], #[.string ByteArray.empty, .string ByteArray.empty], []⟩).memory :=
  laidMet_of_run' 8 (by kernel_rfl) (by kernel_rfl)
theorem reads (os : Os) {H : Type} (enc : TypeId × Value → H) : ∃ places, DataW.whole enc Try.prog ((laidWorld os).forCall (fun _ _ => 0) ⟨#[], #[.string ByteArray.empty, .string ByteArray.empty], []⟩).memory Try.f5.params.toList Rows.wordsJoinSpec.vars false (#[.string ByteArray.empty, .string ByteArray.empty] : Array Value).toList 8
    = some ([.lit (.string []), .lit (.string [])], [], places) :=
  ⟨[], by kernel_rfl⟩

set_option maxRecDepth 100000 in
theorem lifted (os : Os) (started : os.Started) (H : Type) (enc : TypeId × Value → H) (F : Stop.Interp) :
    ReturnsInHanded {} Try.checked os 5 .any ((OpenSpec.ofChange Rows.wordsJoinSpec).preRow enc Try.prog Try.f5 Rows.wordsJoinRow.domain false Rows.wordsJoinRow.laid) (((OpenSpec.ofChange Rows.wordsJoinSpec).at F).post enc Try.prog Try.f5 false true false false) := by
  obtain ⟨places, hx⟩ := reads os enc
  refine returnsInHanded_of_row (C := Try.checked) (s := OpenSpec.ofChange Rows.wordsJoinSpec) own started (by kernel_rfl) Try.func5
    (witness_row_at (enc := enc) (C := Try.checked) false (laidWorld os) #[.string ByteArray.empty, .string ByteArray.empty] rfl (by kernel_rfl) (by kernel_rfl) (by kernel_rfl)
      (OpenSpec.preRow_of_cond 8 hx (by kernel_rfl) (fun k hk => by cases hk) (by kernel_rfl) (laid_met os))) ?_
  intro W base args ds gs before hval hW _ _ _ hL _ _
  exact contract H enc W base args ds gs before hval hW hL

theorem said : Rows.WordsJoinSaid :=
  OpenClaim.holds_of_cond 5 Try.f5 rfl rfl rfl rfl rfl rfl rfl ⟨rfl, rfl, rfl, rfl, rfl⟩ rfl rfl rfl rfl rfl (by kernel_rfl) Try.func5 (by kernel_rfl)
    (of_decide_eq_true (by kernel_rfl)) (by unfold Func.isWrapper; first | (rw [if_pos (by decide +kernel)]; kernel_rfl) | (rw [if_neg (by decide +kernel)]; exact ⟨rfl, rfl⟩))
    (fun os started H enc _ F => by rw [OpenClaim.pre_eq_preRow]; exact lifted os started H enc F)


end WordsJoin
theorem wordsJoin_said : Rows.WordsJoinSaid := WordsJoin.said
end Go.Proofs.Ytaipaifnkpgmhaa
