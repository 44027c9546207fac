/-
  Just names are names: a part of one, and one with something else, is one as the document says (law NamesChecked); for every input.
-/
import Derived.Test.YthmhbefbjbkabaaNm4
import Derived.BigRegion
import Derived.Shelf.Vars
namespace Go.Proofs.Ythmhbefbjbkabaa
open Go.ChangeShapes Go.WideShapes Go.ChangeAt Go.RowKit Go.Shelf
open Go.Lib (hid)

attribute [local go_sem] Oper.semAt_some

theorem nm_create0 (T : List Nat) : (Nx.create ⟨[], 1⟩ T).2.2 = if Nx.chk T = true then 0 else 4 := by
  unfold Nx.create Nx.wants Nx.of
  cases Nx.chk T <;> simp [Mp.get]
theorem strs_six (w : World) (a b c d e f : List Nat) (t : TypeId) : Strs (w.alloc (.cells #[.string (str a), .string (str b), .string (str c), .string (str d), .string (str e), .string (str f)] t)) (some ⟨w.heap.size, 0, none⟩) [a, b, c, d, e, f] := by
  intro i hi
  refine ⟨w.heap.size, 0, rfl, ?_⟩
  rw [cell_of_row _ _ _ _ _ _ (heap_alloc_new _ _), Nat.zero_add]
  have : i = 0 ∨ i = 1 ∨ i = 2 ∨ i = 3 ∨ i = 4 ∨ i = 5 := by simp at hi; omega
  rcases this with rfl | rfl | rfl | rfl | rfl | rfl <;> rfl
theorem mxl_of {W : World} (h : W.ShapedOpen Try.prog) : MxL W := cell_of_shapedOpen_int (t := 3) (zero := #[.int .i64 0]) h (of_decide_eq_true (by kernel_rfl)) (by kernel_rfl) rfl (by kernel_rfl) (by kernel_rfl) Try.underlying3
namespace NamesChecked
set_option maxHeartbeats 4000000 in
set_option maxRecDepth 100000 in
theorem walk (s : ByteArray) (n : Int) (w : World) (hs : s.size ≤ maxLen) (hm : MxL w) :
    Calls Try.prog 4 #[.string s, .int .i64 n] w fun e w' => e = .returned (.bool true) ∧ Below w.heap.size w w' := by
  have HAW := hid (awake17_any w hm)
  have HM := hid hm
  have HCU := hid (fun (wx : World) => cut_any s 40 wx hs (by decide))
  obtain ⟨T, hTT⟩ : ∃ T, T = (nums s).take 40 := ⟨_, rfl⟩
  have hT : ∀ x ∈ T, x < 256 := by rw [hTT]; exact cut_lt' s 40
  have hTl : T.length ≤ 40 := by rw [hTT]; exact cut_le' s 40
  rw [← hTT] at HCU
  have HT := hid hT
  clear hTT hs hT
  have hstr : (str T).size = T.length := str_size T
  obtain ⟨k, hk⟩ : ∃ k : Nat, max 0 (min n (T.length : Int)) = (k : Int) := ⟨(max 0 (min n (T.length : Int))).toNat, by omega⟩
  have hkl : k ≤ T.length := by omega
  go_enter Try.func4, Try.ntmps4
  go_upto_region 3 with (go_at_call 6; refine HAW.out.mono ?_; rintro e w0 ⟨rfl, hb0⟩)
  have HB0 := hid hb0
  have HM0 := hid (HM.out.next hb0)
  clear hb0 HAW HM hm
  go_upto_region 5 with (go_at_call 14; refine (HCU.out _).mono ?_; rintro e wz ⟨rfl, hwz⟩; subst hwz)
  clear HCU
  have hex1 : (str T).extract 0 k = str (T.take k) := by
    have := extract_mid T HT.out 0 k
    rwa [Nat.zero_add, List.drop_zero] at this
  have hex2 : (str T).extract k T.length = str (T.drop k) := by
    have := extract_mid T HT.out k (T.length - k)
    rwa [show k + (T.length - k) = T.length from by omega, List.take_of_length_le (by simp)] at this
  have ha1 : str (T.take k) ++ ⟨#[47]⟩ = str (T.take k ++ [47]) := str_append _ [47]
  have ha2 : str (T.take k ++ [47]) ++ str (T.drop k) = str (T.take k ++ [47] ++ T.drop k) := str_append _ _
  have ha3 : str T ++ ⟨#[47]⟩ = str (T ++ [47]) := str_append _ [47]
  have ha4 : (⟨#[47]⟩ : ByteArray) ++ str T = str ([47] ++ T) := str_append [47] _
  have hz1 : (str (T.take k)).size ≤ 100 := by rw [str_size, List.length_take]; omega
  have hz2 : (str (T.take k ++ [47])).size ≤ 100 := by rw [str_size, List.length_append, List.length_take]; simp; omega
  have hz3 : (str (T.drop k)).size ≤ 100 := by rw [str_size, List.length_drop]; omega
  have hz4 : (⟨#[47]⟩ : ByteArray).size = 1 := rfl
  have hkl' : (k : Int) ≤ (T.length : Int) := by omega
  generalize hA : str (T.take k) = A at *
  generalize hB : str (T.drop k) = B at *
  generalize hC : str (T.take k ++ [47]) = C at *
  generalize hD : str (T.take k ++ [47] ++ T.drop k) = D at *
  generalize hE : str (T ++ [47]) = E at *
  generalize hF : str ([47] ++ T) = F at *
  generalize hS : str T = S at *
  go_region
  generalize hW : World.drew _ = w1
  obtain ⟨L, hL⟩ : ∃ L : List (List Nat), L = [T, T.take k, T.drop k, T.take k ++ [47] ++ T.drop k, T ++ [47], [47] ++ T] := ⟨_, rfl⟩
  have HS1 := hid (show Strs w1 (some ⟨w0.heap.size, 0, none⟩) L from by
    rw [hL, ← hW, ← hA, ← hB, ← hD, ← hE, ← hF, ← hS]
    exact strs_six w0 _ _ _ _ _ _ _)
  have HB1 := hid (show Below w.heap.size w w1 from by rw [← hW]; exact (HB0.out.alloc HB0.out.size _).drew)
  have HM1 := hid (show MxL w1 from by rw [← hW]; exact HM0.out.next ((Below.refl _ _).alloc (Nat.le_refl _) _).drew)
  have HG := hid (show w0.heap.size < w1.heap.size from by rw [← hW]; show _ < (w0.alloc _).heap.size; rw [World.size_alloc]; omega)
  have hl6 : L.length = 6 := by rw [hL]; rfl
  have HLB := hid (show ∀ l ∈ L, ∀ x ∈ l, x < 256 from by
    intro l hl x hx
    rw [hL] at hl
    simp only [List.mem_cons, List.not_mem_nil, or_false] at hl
    have h47 : ∀ y ∈ ([47] : List Nat), y < 256 := by decide
    rcases hl with rfl | rfl | rfl | rfl | rfl | rfl
    · exact HT.out x hx
    · exact HT.out x (List.mem_of_mem_take hx)
    · exact HT.out x (List.mem_of_mem_drop hx)
    · rcases List.mem_append.1 hx with hx | hx
      · rcases List.mem_append.1 hx with hx | hx
        · exact HT.out x (List.mem_of_mem_take hx)
        · exact h47 x hx
      · exact HT.out x (List.mem_of_mem_drop hx)
    · rcases List.mem_append.1 hx with hx | hx
      · exact HT.out x hx
      · exact h47 x hx
    · rcases List.mem_append.1 hx with hx | hx
      · exact h47 x hx
      · exact HT.out x hx)
  have HLL := hid (show ∀ l ∈ L, l.length ≤ 1000000 from by
    intro l hl
    rw [hL] at hl
    simp only [List.mem_cons, List.not_mem_nil, or_false] at hl
    rcases hl with rfl | rfl | rfl | rfl | rfl | rfl
    all_goals
      try simp only [List.length_append, List.length_take, List.length_drop, List.length_cons, List.length_nil]
      omega)
  clear hW hL hA hB hC hD hE hF hS ha1 ha2 ha3 ha4 hex1 hex2 hz1 hz2 hz3 hz4 hstr hkl hkl' HT hTl HM0 HB0 hk
  generalize w0.heap.size = g at *
  go_upto_region 6 with (fail)
  go_loopw [40] (fun i wr => ∃ j : Nat, j ≤ 6 ∧ i = .int .i64 (j : Nat) ∧ Strs wr (some ⟨g, 0, none⟩) L ∧ MxL wr ∧ g < wr.heap.size ∧ Below w.heap.size w wr)
    (fun i _ => 6 - (intOf i).toNat)
  case atStart => exact ⟨0, by omega, rfl, HS1.out, HM1.out, HG.out, HB1.out⟩
  case round =>
    clear HS1 HM1 HG HB1
    obtain ⟨j, hj, rfl, hs1, hm1, hg1, hb1⟩ := hrel
    have HS1 := hid hs1
    have HM1 := hid hm1
    have HG := hid hg1
    have HB1 := hid hb1
    clear hs1 hm1 hg1 hb1
    by_cases hlt : j < 6
    · have g1 : (j : Int) < 6 := by omega
      have hmem : L.getD j [] ∈ L := by rw [List.getD_eq_getElem?_getD, List.getElem?_eq_getElem (by omega)]; exact List.getElem_mem _
      have HUB := hid (HLB.out _ hmem)
      have HUL := hid (HLL.out _ hmem)
      have hc : wr.cell? ⟨g, j, none⟩ = some (.string (str (L.getD j []))) := by
        obtain ⟨b', o', h1, h2⟩ := HS1.out j (by omega)
        cases h1
        rwa [Nat.zero_add] at h2
      clear hmem
      generalize L.getD j [] = U at *
      have HCK := hid (fun wx (hm : MxL wx) => check_any U HUB.out HUL.out wx hm)
      have HRC := hid (fun wx => rcheck_any U HUB.out HUL.out wx)
      have HCR := hid (fun b m wx (h : IsN wx b m ⟨[], 1⟩) (hm : MxL wx) => create_any b m ⟨[], 1⟩ U HUB.out HUL.out lt1 le0 wx h hm)
      rw [nm_create0] at HCR
      obtain ⟨X, hX⟩ : ∃ X, X = Nx.create ⟨[], 1⟩ U := ⟨_, rfl⟩
      rw [← hX] at HCR
      clear hX HUB HUL
      generalize Nx.chk U = pb at *
      generalize str U = SU at *
      go_upto_region 11 with (go_at_call 7; refine (new_any _).mono ?_; rintro e w2 ⟨b, m, rfl, hN2, hb, hmm, hb2⟩)
      have HN2 := hid hN2
      have HM2 := hid (HM1.out.next hb2)
      have HB2 := hid (HB1.out.trans (hb2.mono HB1.out.size))
      have HS2 := hid (HS1.out.below hb2)
      have HG2 := hid (Nat.lt_of_lt_of_le HG.out hb2.size)
      have hbx := HM1.out.lt
      have hgx := HG.out
      have hwx := HB1.out.size
      clear hN2 hb2 HM1 HB1 HS1 HG hc
      go_upto_region 12 with (go_at_call 15; refine (HCR.out b m _ HN2.out HM2.out).mono ?_; rintro e w3 ⟨rfl, _, hk3⟩)
      have HM3 := hid (HM2.out.kept hk3 (by omega))
      have HB3 := hid (HB2.out.trans (hk3.below (B := w.heap.size) (fun k hk => by rcases hk with rfl | rfl <;> omega) HB2.out.size))
      have hbg := hk3.below (B := g + 1) (fun k hk => by rcases hk with rfl | rfl <;> omega) (by have := HG2.out; omega)
      have HS3 := hid (show Strs w3 (some ⟨g, 0, none⟩) L from by
        intro i hi
        obtain ⟨b', o', h1, h2⟩ := HS2.out i hi
        cases h1
        exact ⟨g, 0, rfl, (hbg.cell (Nat.lt_succ_self g)).trans h2⟩)
      have HG3 := hid (Nat.lt_of_lt_of_le HG2.out hk3.size)
      clear hk3 hbg HM2 HB2 HS2 HG2 HN2 HCR
      cases pb
      all_goals
        go_wp2_with (first
          | (go_at_call 11; refine (Calls.mono (by with_reducible exact HCK.out _ HM3.out) ?_); rintro e wz ⟨rfl, hwz⟩; subst hwz)
          | (go_at_call 12; refine (Calls.mono (by with_reducible exact HRC.out _) ?_); rintro e wz ⟨rfl, hwz⟩; subst hwz))
        exact ⟨⟨j + 1, by omega, congrArg (Value.int .i64) (by omega), HS3.out, HM3.out, HG3.out, HB3.out⟩, by simp [intOf]; omega⟩
    · obtain rfl : j = 6 := by omega
      go_wp2
      exact bodyPost_ret (results_tmp rfl _ _ _) rfl ⟨rfl, HB1.out⟩
/-- A world for the witnesses: the settled one. -/
noncomputable def laidWorld (os : Os) : World := World.holding Try.prog os ⟨#[], #[], []⟩

set_option maxRecDepth 100000 in
theorem contract (H : Type) (enc : TypeId × Value → H) (W : World) (base : Nat) (args : Array Value) (ds gs : List (DataW H)) (before : List MemPlace)
    (hval : ∀ (j : Nat) t v, Try.f4.params[j]? = some t → args[j]? = some v → Value.okWide Try.prog W .any base t v)
    (hW : DataW.Whole enc Try.prog Try.f4.params.toList Rows.namesCheckedSpec.vars false W args.toList ds gs before) (_hL : laidMetH Try.prog Rows.namesCheckedRow.laid W) (hm : MxL W) :
    Calls Try.prog 4 args W fun e W' => ∃ v, e = .returned v ∧ Rows.namesCheckedSpec.post enc Try.prog Try.f4 false true false false W args v W' := by
  have hW' := hW
  obtain ⟨p, q, hA0, hV, rfl, hfz, hnd⟩ := hW
  have hA : DataW.TrodAll enc Try.prog W 0 (fun _ => true) true Try.f4.params.toList args.toList ds p := hA0
  rw [Try.params4] at hA hval
  obtain ⟨v0, vs0, d0, ds0, p0, q0, hargs, rfl, rfl, h0, r0⟩ := trodAll_cons hA
  obtain ⟨v1, vs1, d1, ds1, p1, q1, rfl, rfl, rfl, h1, r1⟩ := trodAll_cons r0
  obtain ⟨rfl, rfl, rfl⟩ := trodAll_nil r1
  obtain rfl : args = #[v0, v1] := by cases args; simp_all
  obtain ⟨s0, rfl, rfl, rfl, hs0⟩ := Go.ChangeMaps.open_string Try.underlying9 (hval 0 9 v0 rfl rfl) h0
  obtain ⟨n1, rfl, rfl, rfl, wn1⟩ := open_int Try.underlying3 (hval 1 3 v1 rfl rfl) h1
  refine (walk s0 n1 W hs0 hm).mono fun e W' ⟨he, hb⟩ => ?_
  subst he
  exact ⟨_, rfl, law_post rfl rfl (by rw [Try.params4]; decide +kernel) hW' rfl hb⟩

theorem laid_met (os : Os) : laidMet Try.prog Rows.namesCheckedRow.laid ((laidWorld os).forCall (fun _ _ => 0) ⟨#[], #[.string ByteArray.empty, .int .i64 0], []⟩).memory :=
  laidMet_of_run' 8 (by kernel_rfl) (by kernel_rfl)
theorem reads (os : Os) {H : Type} (enc : TypeId × Value → H) : ∃ places, DataW.whole enc Try.prog ((laidWorld os).forCall (fun _ _ => 0) ⟨#[], #[.string ByteArray.empty, .int .i64 0], []⟩).memory Try.f4.params.toList Rows.namesCheckedSpec.vars false (#[.string ByteArray.empty, .int .i64 0] : Array Value).toList 8
    = some ([.lit (.string []), .lit (.int .i64 0)], [], places) :=
  ⟨[], by kernel_rfl⟩

set_option maxRecDepth 100000 in
theorem lifted (os : Os) (started : os.Started) (H : Type) (enc : TypeId × Value → H) (F : Stop.Interp) :
    ReturnsInHanded {} Try.checked os 4 .any ((OpenSpec.ofChange Rows.namesCheckedSpec).preRow enc Try.prog Try.f4 Rows.namesCheckedRow.domain false Rows.namesCheckedRow.laid) (((OpenSpec.ofChange Rows.namesCheckedSpec).at F).post enc Try.prog Try.f4 false true false false) := by
  obtain ⟨places, hx⟩ := reads os enc
  refine returnsInHanded_of_row (C := Try.checked) (s := OpenSpec.ofChange Rows.namesCheckedSpec) own started (by kernel_rfl) Try.func4
    (witness_row_at (enc := enc) (C := Try.checked) false (laidWorld os) #[.string ByteArray.empty, .int .i64 0] rfl (by kernel_rfl) (by kernel_rfl) (by kernel_rfl)
      (OpenSpec.preRow_of_cond 8 hx (by kernel_rfl) (fun k hk => by cases hk) (by kernel_rfl) (laid_met os))) ?_
  intro W base args ds gs before hval hW _ _ _ hL hsh _
  exact contract H enc W base args ds gs before hval hW hL (mxl_of hsh)

theorem said : Rows.NamesCheckedSaid :=
  OpenClaim.holds_of_cond 4 Try.f4 rfl rfl rfl rfl rfl rfl rfl ⟨rfl, rfl, rfl, rfl, rfl⟩ rfl rfl rfl rfl rfl (by kernel_rfl) Try.func4 (by kernel_rfl)
    (of_decide_eq_true (by kernel_rfl)) (by unfold Func.isWrapper; first | (rw [if_pos (by decide +kernel)]; kernel_rfl) | (rw [if_neg (by decide +kernel)]; exact ⟨rfl, rfl⟩))
    (fun os started H enc _ F => by rw [OpenClaim.pre_eq_preRow]; exact lifted os started H enc F)


end NamesChecked
theorem namesChecked_said : Rows.NamesCheckedSaid := NamesChecked.said
end Go.Proofs.Ythmhbefbjbkabaa
