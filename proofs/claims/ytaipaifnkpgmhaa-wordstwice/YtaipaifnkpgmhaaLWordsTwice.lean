/-
  The words of a text's words are these (law WordsTwice); for every input.
-/
import Derived.Test.YtaipaifnkpgmhaaWs9
namespace Go.Proofs.Ytaipaifnkpgmhaa
open Go.ChangeShapes Go.WideShapes Go.ChangeAt Go.RowKit Go.Shelf
open Go.Lib (hid)

attribute [local go_sem] Oper.semAt_some

namespace WordsTwice
set_option maxHeartbeats 4000000 in
set_option maxRecDepth 100000 in
theorem walk (s : ByteArray) (w : World) (hs : s.size ≤ maxLen) :
    Calls Try.prog 7 #[.string s] w fun e w' => e = .returned (.bool true) ∧ Below w.heap.size w w' := by
  have HAW := hid (awake15_any w)
  have HCU := hid (fun (wx : World) => cut_any s 300 wx hs (by decide))
  obtain ⟨T, hTT⟩ : ∃ T, T = (nums s).take 300 := ⟨_, rfl⟩
  have hT : ∀ x ∈ T, x < 256 := by rw [hTT]; exact cut_lt' s 300
  have hTl : T.length ≤ 300 := by rw [hTT]; exact cut_le' s 300
  rw [← hTT] at HCU
  have HOF := hid (fun wx => of_any T hT (by omega) wx)
  have HWL := hid (Wd.words_lt T)
  have HWN := hid (Wd.words_length T)
  have HWI := hid (Wd.words_isW T)
  have hwl := Wd.words_line (Wd.words T) (Wd.words_isW T) (Wd.sorted_words T) (Wd.words_length T)
  generalize Wd.words T = WT at *
  obtain ⟨A, hA⟩ : ∃ A, A = Wd.line WT := ⟨_, rfl⟩
  have hAl : A.length ≤ 1088 := by rw [hA]; have := Wd.line_length WT (fun x hx => (HWI.out x hx).2.1); have := HWN.out; omega
  have hAb : ∀ x ∈ A, x < 256 := by
    intro x hx
    rw [hA] at hx
    obtain ⟨l, hl, hxl⟩ := List.mem_flatten.1 hx
    obtain ⟨y, hy, rfl⟩ := List.mem_map.1 hl
    rcases List.mem_append.1 hxl with h | h
    · exact HWL.out y hy x h
    · simp only [List.mem_singleton] at h; omega
  have HOA := hid (fun wx => of_any A hAb (by omega) wx)
  have HHA := hid (fun (a2 : Option Addr) (c2 : Nat) (wx : World) (h1 : Strs wx a2 WT) => (has_any A hAb (by omega) a2 WT c2 wx h1 (by have := HWN.out; omega) HWL.out).mono (R' := fun e w' => e = .returned (.bool true) ∧ Below wx.heap.size wx w') (fun e w' ⟨he, hw⟩ => ⟨by rw [he, decide_eq_true (by rw [hA, hwl]; exact fun x h => h)], hw⟩))
  rw [hA, hwl, ← hA] at HOA
  have HSA := hid (fun (a1 a2 : Option Addr) (c1 c2 : Nat) (wx : World) (h1 : Strs wx a1 WT) (h2 : Strs wx a2 WT) => (same15_any a1 WT c1 a2 WT c2 wx h1 h2 HWL.out HWL.out (by have := HWN.out; omega) (by have := HWN.out; omega)).mono (R' := fun e w' => e = .returned (.bool true) ∧ Below wx.heap.size wx w') (fun e w' ⟨he, hw⟩ => ⟨by rw [he, decide_eq_true rfl], hw⟩))
  have HA := hid hA
  clear hTT hs hA hAl hAb hwl hT hTl
  go_enter Try.func7, Try.ntmps7
  go_upto_region 3 with (go_at_call 8; refine HAW.out.mono ?_; rintro e w0 ⟨rfl, hb0⟩)
  have HB0 := hid hb0
  clear HAW hb0
  go_upto_region 4 with (first
    | (go_at_call 9; refine (HCU.out _).mono ?_; rintro e wz ⟨rfl, hwz⟩; subst hwz)
    | (go_at_call 11; refine (HOF.out _).mono ?_; rintro e w2 ⟨v2, rfl, ho2, hb2⟩; obtain ⟨a2, c2, rfl, hs2⟩ := ho2.strs))
  have HB2 := hid (HB0.out.trans (hb2.mono HB0.out.size))
  have HS2 := hid hs2
  clear hb2 hs2 ho2 HB0 HOF HCU
  go_wp2
  go_loopw [4, 14] (fun sv i wq => ∃ k : Nat, k ≤ WT.length ∧ i = .int .i64 (k : Nat) ∧ sv = .string (str (Wd.line (WT.take k))) ∧ wq = w2)
    (fun _ i _ => WT.length - (intOf i).toNat)
  case atStart => exact ⟨0, by omega, rfl, rfl, rfl⟩
  case round =>
    obtain ⟨k, hk, rfl, rfl, rfl⟩ := hrel
    by_cases hkl : k < WT.length
    · have g1 : (k : Int) < WT.length := by omega
      have g64 : (k : Int) < 64 := by have := HWN.out; omega
      obtain ⟨sb, so, rfl, hc⟩ := HS2.out k hkl
      have hmem : WT.getD k [] ∈ WT := by rw [List.getD_eq_getElem?_getD, List.getElem?_eq_getElem hkl]; exact List.getElem_mem hkl
      have hx16 := (HWI.out _ hmem).2.1
      have hll := Wd.line_length (WT.take k) (fun x hx => (HWI.out x (List.mem_of_mem_take hx)).2.1)
      rw [List.length_take, Nat.min_eq_left hk] at hll
      have hnext : str (Wd.line (WT.take k)) ++ str (WT.getD k [] ++ [32]) = str (Wd.line (WT.take (k + 1))) := by
        rw [str_append, List.take_succ_eq_append_getElem hkl, Wd.line_snoc, List.getD_eq_getElem?_getD, List.getElem?_eq_getElem hkl]
        rfl
      have h32 : str (WT.getD k []) ++ ({ data := #[32] } : ByteArray) = str (WT.getD k [] ++ [32]) := str_append (WT.getD k []) [32]
      have z1 : (str (WT.getD k [])).size = (WT.getD k []).length := str_size _
      have z2 : (str (WT.getD k [] ++ [32])).size = (WT.getD k []).length + 1 := by rw [str_size, List.length_append]; rfl
      have z3 : (str (Wd.line (WT.take k))).size = (Wd.line (WT.take k)).length := str_size _
      have z4 : ({ data := #[32] } : ByteArray).size = 1 := rfl
      have b1 : ¬ 9223372036854775807 < (WT.getD k []).length + 1 := by omega
      have b2 : ¬ 9223372036854775807 < (Wd.line (WT.take k)).length + ((WT.getD k []).length + 1) := by omega
      have HN := hid hnext
      generalize str (WT.getD k [] ++ [32]) = Y at *
      generalize str (WT.getD k []) = X at *
      generalize (WT.getD k []).length = nx at *
      generalize str (Wd.line (WT.take k)) = B at *
      generalize (Wd.line (WT.take k)).length = nb at *
      clear hmem hnext
      go_wp2
      have hkk : (k : Int) + 1 = ((k + 1 : Nat) : Int) := by omega
      refine ⟨?_, ?_⟩
      · skip
        first
          | exact ⟨k + 1, by omega, congrArg (Value.int .i64) hkk, congrArg Value.string HN.out, by trivial⟩
          | ((repeat apply Exists.intro); refine ⟨?_, rfl⟩; exact ⟨k + 1, by omega, congrArg (Value.int .i64) hkk, congrArg Value.string HN.out, by trivial⟩)
      · simp [intOf]
        omega
    · obtain rfl : k = WT.length := by omega
      rw [List.take_length, ← HA.out]
      have h64 : (WT.length : Int) ≤ 64 := by have := HWN.out; omega
      go_wp2_with fail
      refine (HOA.out _).mono ?_
      rintro e w3 ⟨v3, rfl, ho3, hb3⟩
      obtain ⟨a3, c3, rfl, hs3⟩ := ho3.strs
      have HB3 := hid (HB2.out.trans (hb3.mono HB2.out.size))
      have HS2b := hid (HS2.out.below hb3)
      clear ho3 hb3 HB2 HS2
      go_wp2_with fail
      refine (HSA.out a3 a2 c3 c2 _ hs3 HS2b.out).mono ?_
      rintro e w4 ⟨rfl, hb4⟩
      have HB4 := hid (HB3.out.trans (hb4.mono HB3.out.size))
      have HS2c := hid (HS2b.out.below hb4)
      clear hb4 HB3 HS2b hs3
      go_wp2_with fail
      refine (HHA.out a2 c2 _ HS2c.out).mono ?_
      rintro e w5 ⟨rfl, hb5⟩
      have HB5 := hid (HB4.out.trans (hb5.mono HB4.out.size))
      clear hb5 HB4 HS2c
      go_wp2
      exact bodyPost_ret (results_tmp rfl _ _ _) rfl ⟨rfl, HB5.out⟩
/-- A world for the witnesses: the settled one. -/
noncomputable def laidWorld (os : Os) : World := World.holding Try.prog os ⟨#[], #[], []⟩

set_option maxRecDepth 100000 in
theorem contract (H : Type) (enc : TypeId × Value → H) (W : World) (base : Nat) (args : Array Value) (ds gs : List (DataW H)) (before : List MemPlace)
    (hval : ∀ (j : Nat) t v, Try.f7.params[j]? = some t → args[j]? = some v → Value.okWide Try.prog W .any base t v)
    (hW : DataW.Whole enc Try.prog Try.f7.params.toList Rows.wordsTwiceSpec.vars false W args.toList ds gs before) (hL : laidMetH Try.prog Rows.wordsTwiceRow.laid W) :
    Calls Try.prog 7 args W fun e W' => ∃ v, e = .returned v ∧ Rows.wordsTwiceSpec.post enc Try.prog Try.f7 false true false false W args v W' := by
  have hW' := hW
  obtain ⟨p, q, hA0, hV, rfl, hfz, hnd⟩ := hW
  have hA : DataW.TrodAll enc Try.prog W 0 (fun _ => true) true Try.f7.params.toList args.toList ds p := hA0
  rw [Try.params7] at hA hval
  obtain ⟨v0, vs0, d0, ds0, p0, q0, hargs, rfl, rfl, h0, r0⟩ := trodAll_cons hA
  obtain ⟨rfl, rfl, rfl⟩ := trodAll_nil r0
  obtain rfl : args = #[v0] := by cases args; simp_all
  obtain ⟨s0, rfl, rfl, rfl, hs0⟩ := Go.ChangeMaps.open_string Try.underlying9 (hval 0 9 v0 rfl rfl) h0
  refine (walk s0 W hs0).mono fun e W' ⟨he, hb⟩ => ?_
  subst he
  exact ⟨_, rfl, law_post rfl rfl (by rw [Try.params7]; decide +kernel) hW' rfl hb⟩

theorem laid_met (os : Os) : laidMet Try.prog Rows.wordsTwiceRow.laid ((laidWorld os).forCall (fun _ _ => 0) ⟨#[], #[.string ByteArray.empty], []⟩).memory :=
  laidMet_of_run' 8 (by kernel_rfl) (by kernel_rfl)
theorem reads (os : Os) {H : Type} (enc : TypeId × Value → H) : ∃ places, DataW.whole enc Try.prog ((laidWorld os).forCall (fun _ _ => 0) ⟨#[], #[.string ByteArray.empty], []⟩).memory Try.f7.params.toList Rows.wordsTwiceSpec.vars false (#[.string ByteArray.empty] : Array Value).toList 8
    = some ([.lit (.string [])], [], places) :=
  ⟨[], by kernel_rfl⟩

set_option maxRecDepth 100000 in
theorem lifted (os : Os) (started : os.Started) (H : Type) (enc : TypeId × Value → H) (F : Stop.Interp) :
    ReturnsInHanded {} Try.checked os 7 .any ((OpenSpec.ofChange Rows.wordsTwiceSpec).preRow enc Try.prog Try.f7 Rows.wordsTwiceRow.domain false Rows.wordsTwiceRow.laid) (((OpenSpec.ofChange Rows.wordsTwiceSpec).at F).post enc Try.prog Try.f7 false true false false) := by
  obtain ⟨places, hx⟩ := reads os enc
  refine returnsInHanded_of_row (C := Try.checked) (s := OpenSpec.ofChange Rows.wordsTwiceSpec) own started (by kernel_rfl) Try.func7
    (witness_row_at (enc := enc) (C := Try.checked) false (laidWorld os) #[.string ByteArray.empty] rfl (by kernel_rfl) (by kernel_rfl) (by kernel_rfl)
      (OpenSpec.preRow_of_cond 8 hx (by kernel_rfl) (fun k hk => by cases hk) (by kernel_rfl) (laid_met os))) ?_
  intro W base args ds gs before hval hW _ _ _ hL _ _
  exact contract H enc W base args ds gs before hval hW hL

theorem said : Rows.WordsTwiceSaid :=
  OpenClaim.holds_of_cond 7 Try.f7 rfl rfl rfl rfl rfl rfl rfl ⟨rfl, rfl, rfl, rfl, rfl⟩ rfl rfl rfl rfl rfl (by kernel_rfl) Try.func7 (by kernel_rfl)
    (of_decide_eq_true (by kernel_rfl)) (by unfold Func.isWrapper; first | (rw [if_pos (by decide +kernel)]; kernel_rfl) | (rw [if_neg (by decide +kernel)]; exact ⟨rfl, rfl⟩))
    (fun os started H enc _ F => by rw [OpenClaim.pre_eq_preRow]; exact lifted os started H enc F)


end WordsTwice
theorem wordsTwice_said : Rows.WordsTwiceSaid := WordsTwice.said
end Go.Proofs.Ytaipaifnkpgmhaa
