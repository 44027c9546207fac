/-
  Texts of one class have as many pages, each of one size; what is packed of another text is other pages (law PadAlike); for every input.
-/
import Derived.Test.YtlehhalakjjnkaaLPad
namespace Go.Proofs.Ytlehhalakjjnkaa
open Go.ChangeShapes Go.WideShapes Go.ChangeAt Go.RowKit
open Go.Lib (hid)

theorem bool_self' (b : Bool) : (b == b) = true := by cases b <;> rfl
namespace PadAlike
/-- So far the pages are alike. -/
def So (A B : List (List Nat)) (k : Nat) (q : Bool) : Prop := q = true ↔ A.length = B.length ∧ ∀ j, j < k → A.getD j [] = B.getD j []
theorem So.zero (A B : List (List Nat)) (q : Bool) (h : q = true ↔ A.length = B.length) : So A B 0 q :=
  h.trans ⟨fun e => ⟨e, fun j hj => absurd hj (by omega)⟩, fun e => e.1⟩
theorem So.step {A B : List (List Nat)} {k : Nat} (h : So A B k true) : So A B (k + 1) (A.getD k [] == B.getD k []) := by
  have h1 := h.1 rfl
  unfold So
  rw [beq_iff_eq]
  constructor
  · intro e
    refine ⟨h1.1, fun j hj => ?_⟩
    by_cases hjk : j < k
    · exact h1.2 j hjk
    · obtain rfl : j = k := by omega
      exact e
  · intro e
    exact e.2 k (by omega)
theorem So.no {A B : List (List Nat)} {k : Nat} (h : So A B k false) : So A B (k + 1) false := by
  constructor
  · intro e; cases e
  · intro e
    exact absurd (h.2 ⟨e.1, fun j hj => e.2 j (by omega)⟩) (by decide)
theorem So.out {A B : List (List Nat)} {q : Bool} (h : So A B A.length q) : q = true ↔ A = B := by
  refine h.trans ⟨fun e => list_ext_getD e.1 e.2, fun e => by subst e; exact ⟨rfl, fun _ _ => rfl⟩⟩

set_option maxHeartbeats 2000000 in
set_option maxRecDepth 100000 in
theorem walk (x y : ByteArray) (hx : x.size ≤ maxLen) (hy : y.size ≤ maxLen) (w : World) :
    Calls Try.prog 6 #[.string x, .string y] w fun e w' => e = .returned (.bool true) ∧ Below w.heap.size w w' := by
  have HCX := hid (fun wx => cut_any x 700 wx hx (by omega))
  have HCY := hid (fun wx => cut_any y 700 wx hy (by omega))
  obtain ⟨s, hs⟩ : ∃ s, s = (nums x).take 700 := ⟨_, rfl⟩
  obtain ⟨t, ht⟩ : ∃ t, t = (nums y).take 700 := ⟨_, rfl⟩
  have sb : ∀ c ∈ s, c < 256 := by rw [hs]; exact fun c hc => nums_lt x c (List.mem_of_mem_take hc)
  have tb : ∀ c ∈ t, c < 256 := by rw [ht]; exact fun c hc => nums_lt y c (List.mem_of_mem_take hc)
  have sl : s.length ≤ 700 := by rw [hs, List.length_take]; omega
  have tl : t.length ≤ 700 := by rw [ht, List.length_take]; omega
  rw [← hs] at HCX
  rw [← ht] at HCY
  have hc := Pd.cls_some s.length (by omega)
  have hd := Pd.cls_some t.length (by omega)
  have HPS := hid (fun wx => pack_any s sb (by omega) wx)
  rw [decide_eq_true hc] at HPS
  have HPT := hid (fun wx => pack_any t tb (by omega) wx)
  rw [decide_eq_true hd] at HPT
  have HRS := hid (fun wx => rclass_any (s.length : Int) wx)
  have HRT := hid (fun wx => rclass_any (t.length : Int) wx)
  have HLS := hid (Pd.pages_length s)
  have HLT := hid (Pd.pages_length t)
  have HSB := hid (Pd.pages_lt s sb)
  have HTB := hid (Pd.pages_lt t tb)
  have HSE := hid (Pd.pages_each s)
  have HST := hid (str_beq s t sb tb)
  have HPI := hid (show Pd.pages s = Pd.pages t ↔ s = t from ⟨Pd.pages_inj s t hc hd, fun e => by rw [e]⟩)
  have hzs := str_size s
  have hzt := str_size t
  rw [← HLS.out] at HRS
  rw [← HLT.out] at HRT
  have hla : (Pd.pages s).length ≤ 32 := by rw [HLS.out]; exact Pd.cls_le _
  have hlb : (Pd.pages t).length ≤ 32 := by rw [HLT.out]; exact Pd.cls_le _
  clear hs ht sb tb hx hy HLS HLT hc hd
  generalize Pd.pages s = A at *
  generalize Pd.pages t = B at *
  generalize str s = S at *
  generalize str t = T at *
  go_enter Try.func6, Try.ntmps6
  go_upto_region 3 with (go_at_call 7; refine (awake12_any _).mono ?_; rintro e w0 ⟨rfl, hb0⟩)
  go_wp2_with fail
  refine (HCX.out _).mono ?_
  rintro e w1 ⟨rfl, hw1⟩
  obtain rfl : w0 = w1 := hw1
  go_wp2_with fail
  refine (HCY.out _).mono ?_
  rintro e w1 ⟨rfl, hw1⟩
  obtain rfl : w0 = w1 := hw1
  go_wp2_with fail
  refine (HPS.out _).mono ?_
  rintro e w2 ⟨v2, rfl, hown2, hb2⟩
  have HB2 := hid (hb0.trans (hb2.mono hb0.size))
  obtain ⟨a2, c2, rfl, hs2, _, _⟩ := hown2.capP
  have HS2 := hid hs2
  clear hb0 hb2 hown2 hs2 HPS HCX HCY
  go_wp2_with fail
  refine (HPT.out _).mono ?_
  rintro e w3 ⟨v3, rfl, hown3, hb3⟩
  have HB3 := hid (HB2.out.trans (hb3.mono HB2.out.size))
  have HS23 := hid (HS2.out.below hb3)
  obtain ⟨a3, c3, rfl, hs3, _, _⟩ := hown3.capP
  have HS3 := hid hs3
  clear hb3 hown3 hs3 HPT HS2 HB2
  obtain ⟨q0, hq0⟩ : ∃ q0 : Bool, ((A.length : Int) == (B.length : Int)) = q0 := ⟨_, rfl⟩
  have HQ := hid (show q0 = true ↔ A.length = B.length from by rw [← hq0, beq_iff_eq]; omega)
  have hq1 : (q0 != q0) = false := by cases q0 <;> rfl
  have hq2 : (!q0 == q0) = false := by cases q0 <;> rfl
  have hq3 : (q0 == q0) = true := by cases q0 <;> rfl
  go_wp2_with fail
  refine (HRS.out _).mono ?_
  rintro e w4 ⟨rfl, hb4⟩
  have HB4 := hid (HB3.out.trans (hb4.mono HB3.out.size))
  have HS24 := hid (HS23.out.below hb4)
  have HS34 := hid (HS3.out.below hb4)
  clear hb4 HB3 HS23 HS3
  go_wp2_with fail
  refine (HRT.out _).mono ?_
  rintro e w5 ⟨rfl, hb5⟩
  have HB5 := hid (HB4.out.trans (hb5.mono HB4.out.size))
  have HS25 := hid (HS24.out.below hb5)
  have HS35 := hid (HS34.out.below hb5)
  clear hb5 HB4 HS24 HS34
  go_upto_region 10 with (fail)
  clear hq1 hq2 hq3 hq0
  go_loopw [9, 10, 55] (fun s x i wr => ∃ (k : Nat) (q : Bool), k ≤ A.length ∧ i = .int .i64 k ∧ s = .bool q ∧ So A B k q ∧ Strs wr a2 A ∧ Strs wr a3 B ∧ Below w.heap.size w wr)
    (fun _ _ i _ => A.length - (intOf i).toNat)
  case atStart => exact ⟨0, q0, by omega, rfl, rfl, So.zero A B q0 HQ.out, HS25.out, HS35.out, HB5.out⟩
  case round =>
    clear HS25 HS35 HB5 HQ
    obtain ⟨k, q, hk, rfl, rfl, hso, h2, h3, hbel⟩ := hrel
    have H2 := hid h2
    have H3 := hid h3
    have HBEL := hid hbel
    have HSO := hid hso
    clear hbel hso
    by_cases hlt : k < A.length
    · obtain ⟨sb, so, hao, hc⟩ := h2 k hlt
      subst hao
      have hz : (str (A.getD k [])).size = 240 := by
        rw [str_size]
        refine HSE.out _ ?_
        rw [List.getD_eq_getElem?_getD, List.getElem?_eq_getElem hlt]
        exact List.getElem_mem hlt
      cases q with
      | true =>
        have hltb : k < B.length := by have := (HSO.out.1 rfl).1; omega
        obtain ⟨tb, tq, hbo, hd⟩ := h3 k hltb
        subst hbo
        clear h2 h3
        have HSN := hid (HSO.out.step)
        have hq : ((str (A.getD k [])).toList == (str (B.getD k [])).toList) = (A.getD k [] == B.getD k []) :=
          str_beq _ _ (fun x hx => HSB.out x (getD_mem_flatten A k x hx)) (fun x hx => HTB.out x (getD_mem_flatten B k x hx))
        generalize (A.getD k [] == B.getD k []) = q2 at *
        generalize str (A.getD k []) = P at *
        generalize str (B.getD k []) = R at *
        go_upto_region 12 with (fail)
        go_quiet (fail)
        go_wp2
        exact ⟨⟨k + 1, q2, by omega, by go_num, rfl, HSN.out, H2.out.below ⟨rfl, rfl, rfl, Nat.le_refl _, fun _ _ => rfl⟩, H3.out.below ⟨rfl, rfl, rfl, Nat.le_refl _, fun _ _ => rfl⟩, HBEL.out.trans ⟨rfl, rfl, rfl, Nat.le_refl _, fun _ _ => rfl⟩⟩, by simp [intOf]; omega⟩
      | false =>
        clear h2 h3
        have HSN := hid (HSO.out.no)
        generalize str (A.getD k []) = P at *
        go_upto_region 12 with (fail)
        go_quiet (fail)
        go_wp2
        exact ⟨⟨k + 1, false, by omega, by go_num, rfl, HSN.out, H2.out.below ⟨rfl, rfl, rfl, Nat.le_refl _, fun _ _ => rfl⟩, H3.out.below ⟨rfl, rfl, rfl, Nat.le_refl _, fun _ _ => rfl⟩, HBEL.out.trans ⟨rfl, rfl, rfl, Nat.le_refl _, fun _ _ => rfl⟩⟩, by simp [intOf]; omega⟩
    · obtain rfl : k = A.length := by omega
      have hst := HST.out
      have hqq : (s == t) = q := by
        rw [Bool.eq_iff_iff, beq_iff_eq, HSO.out.out]
        exact HPI.out.symm
      rw [hqq] at hst
      have hq3 : (q == q) = true := by cases q <;> rfl
      clear h2 h3 hqq
      go_wp2
      go_ret
      exact ⟨by rfl, HBEL.out⟩

set_option maxRecDepth 100000 in
theorem contract (H : Type) (enc : TypeId × Value → H) (W : World) (base : Nat) (args : Array Value) (ds gs : List (DataW H)) (before : List MemPlace)
    (hval : ∀ (j : Nat) t v, Try.f6.params[j]? = some t → args[j]? = some v → Value.okWide Try.prog W .any base t v)
    (hW : DataW.Whole enc Try.prog Try.f6.params.toList Rows.padAlikeSpec.vars false W args.toList ds gs before) (hL : laidMetH Try.prog Rows.padAlikeRow.laid W) :
    Calls Try.prog 6 args W fun e W' => ∃ v, e = .returned v ∧ Rows.padAlikeSpec.post enc Try.prog Try.f6 false true false false W args v W' := by
  have hW' := hW
  obtain ⟨p, q, hA0, hV, rfl, hfz, hnd⟩ := hW
  have hA : DataW.TrodAll enc Try.prog W 0 (fun _ => true) true Try.f6.params.toList args.toList ds p := hA0
  rw [Try.params6] at hA hval
  obtain ⟨v0, vs0, d0, ds0, p0, q0, hargs, rfl, rfl, h0, r0⟩ := trodAll_cons hA
  obtain ⟨v1, vs1, d1, ds1, p1, q1, rfl, rfl, rfl, h1, r1⟩ := trodAll_cons r0
  obtain ⟨rfl, rfl, rfl⟩ := trodAll_nil r1
  obtain rfl : args = #[v0, v1] := by cases args; simp_all
  obtain ⟨s0, rfl, rfl, rfl, hs0⟩ := Go.ChangeMaps.open_string Try.underlying9 (hval 0 9 v0 rfl rfl) h0
  obtain ⟨s1, rfl, rfl, rfl, hs1⟩ := Go.ChangeMaps.open_string Try.underlying9 (hval 1 9 v1 rfl rfl) h1
  refine (walk s0 s1 hs0 hs1 W).mono fun e W' ⟨he, hb⟩ => ?_
  subst he
  exact ⟨_, rfl, law_post rfl rfl (by rw [Try.params6]; decide +kernel) hW' rfl hb⟩

theorem laid_met (os : Os) : laidMet Try.prog Rows.padAlikeRow.laid ((laidWorld os).forCall (fun _ _ => 0) ⟨#[], #[.string ByteArray.empty, .string ByteArray.empty], []⟩).memory :=
  laidMet_of_run' 8 (by kernel_rfl) (by kernel_rfl)
theorem reads (os : Os) {H : Type} (enc : TypeId × Value → H) : ∃ places, DataW.whole enc Try.prog ((laidWorld os).forCall (fun _ _ => 0) ⟨#[], #[.string ByteArray.empty, .string ByteArray.empty], []⟩).memory Try.f6.params.toList Rows.padAlikeSpec.vars false (#[.string ByteArray.empty, .string ByteArray.empty] : Array Value).toList 8
    = some ([.lit (.string []), .lit (.string [])], [], places) :=
  ⟨[], by kernel_rfl⟩

set_option maxRecDepth 100000 in
theorem lifted (os : Os) (started : os.Started) (H : Type) (enc : TypeId × Value → H) (F : Stop.Interp) :
    ReturnsInHanded {} Try.checked os 6 .any ((OpenSpec.ofChange Rows.padAlikeSpec).preRow enc Try.prog Try.f6 Rows.padAlikeRow.domain false Rows.padAlikeRow.laid) (((OpenSpec.ofChange Rows.padAlikeSpec).at F).post enc Try.prog Try.f6 false true false false) := by
  obtain ⟨places, hx⟩ := reads os enc
  refine returnsInHanded_of_row (C := Try.checked) (s := OpenSpec.ofChange Rows.padAlikeSpec) own started (by kernel_rfl) Try.func6
    (witness_row_at (enc := enc) (C := Try.checked) false (laidWorld os) #[.string ByteArray.empty, .string ByteArray.empty] rfl (by kernel_rfl) (by kernel_rfl) (by kernel_rfl)
      (OpenSpec.preRow_of_cond 8 hx (by kernel_rfl) (fun k hk => by cases hk) (by kernel_rfl) (laid_met os))) ?_
  intro W base args ds gs before hval hW _ _ _ hL _ _
  exact contract H enc W base args ds gs before hval hW hL

theorem said : Rows.PadAlikeSaid :=
  OpenClaim.holds_of_cond 6 Try.f6 rfl rfl rfl rfl rfl rfl rfl ⟨rfl, rfl, rfl, rfl, rfl⟩ rfl rfl rfl rfl rfl (by kernel_rfl) Try.func6 (by kernel_rfl)
    (of_decide_eq_true (by kernel_rfl)) (by unfold Func.isWrapper; first | (rw [if_pos (by decide +kernel)]; kernel_rfl) | (rw [if_neg (by decide +kernel)]; exact ⟨rfl, rfl⟩))
    (fun os started H enc _ F => by rw [OpenClaim.pre_eq_preRow]; exact lifted os started H enc F)


end PadAlike
theorem padAlike_said : Rows.PadAlikeSaid := PadAlike.said
end Go.Proofs.Ytlehhalakjjnkaa
