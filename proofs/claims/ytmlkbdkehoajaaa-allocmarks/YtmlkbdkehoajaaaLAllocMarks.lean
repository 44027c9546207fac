/-
  What is marked is taken, just that, until it is given back (law AllocMarks); for every input.
-/
import Derived.Test.YtmlkbdkehoajaaaAl13
namespace Go.Proofs.Ytmlkbdkehoajaaa
open Go.ChangeShapes Go.WideShapes Go.ChangeAt Go.RowKit
open Go.Lib (hid)

namespace Al
theorem run_ge (L : List Bool) (F n : Nat) (t : Bool) (h : ∀ i, i < n → L[F + i]? = some t) : n ≤ run L F t := by
  rcases Nat.lt_or_ge (run L F t) n with hlt | hge
  · exact absurd (h _ hlt) (run_out L F t)
  · exact hge
/-- These spans, given back in their order, are all that is taken. -/
def Cov : List Bool → List (Nat × Nat) → Prop
  | L, [] => L = List.replicate 30 false
  | L, s :: r => 1 ≤ s.2 ∧ s.1 + s.2 ≤ L.length ∧ s.2 ≤ run L s.1 true ∧ Cov (setN L s.1 false s.2) r
theorem setN_swap (L : List Bool) (F n s m : Nat) (hF : F + n ≤ L.length) (hs : s + m ≤ L.length) (hr : n ≤ run L F false) (ht : m ≤ run L s true) :
    setN (setN L F true n) s false m = setN (setN L s false m) F true n := by
  apply List.ext_getElem?
  intro i
  rw [setN_get _ s false m i (by rw [setN_length]; omega), setN_get L F true n i hF, setN_get _ F true n i (by rw [setN_length]; omega), setN_get L s false m i hs]
  by_cases h1 : s ≤ i ∧ i < s + m
  · by_cases h2 : F ≤ i ∧ i < F + n
    · exfalso
      have a := run_has L F false (i - F) (by omega)
      have b := run_has L s true (i - s) (by omega)
      rw [show F + (i - F) = i from by omega] at a
      rw [show s + (i - s) = i from by omega] at b
      rw [a] at b
      cases b
    · rw [if_pos h1, if_neg h2, if_pos h1]
  · by_cases h2 : F ≤ i ∧ i < F + n
    · rw [if_neg h1, if_pos h2, if_pos h2]
    · rw [if_neg h1, if_neg h2, if_neg h2, if_neg h1]
theorem setN_on (L : List Bool) (F n : Nat) (h : F + n ≤ L.length) (hr : n ≤ run L F false) : setN (setN L F true n) F false n = L := by
  apply List.ext_getElem?
  intro i
  rw [setN_get _ F false n i (by rw [setN_length]; omega), setN_get L F true n i h]
  by_cases hi : F ≤ i ∧ i < F + n
  · rw [if_pos hi]
    have := run_has L F false (i - F) (by omega)
    rw [show F + (i - F) = i from by omega] at this
    exact this.symm
  · rw [if_neg hi, if_neg hi]
theorem Cov.snoc : ∀ (K : List (Nat × Nat)) (L : List Bool), Cov L K → ∀ F n, 1 ≤ n → F + n ≤ L.length → n ≤ run L F false → Cov (setN L F true n) (K ++ [(F, n)])
  | [], L, h, F, n, hn, hF, hr => by
    refine ⟨hn, by rw [setN_length]; exact hF, run_ge _ _ _ _ (fun i hi => ?_), ?_⟩
    · show (setN L F true n)[F + i]? = some true
      rw [setN_get L F true n _ hF, if_pos (by omega)]
    · show Cov (setN (setN L F true n) F false n) []
      rw [setN_on L F n hF hr]
      exact h
  | s :: r, L, ⟨h1, h2, h3, h4⟩, F, n, hn, hF, hr => by
    refine ⟨h1, by rw [setN_length]; exact h2, run_ge _ _ _ _ (fun i hi => ?_), ?_⟩
    · rw [setN_get L F true n _ hF]
      split
      · rfl
      · exact run_has L s.1 true i (by omega)
    · rw [setN_swap L F n s.1 s.2 hF h2 hr h3]
      refine Cov.snoc r _ h4 F n hn (by rw [setN_length]; exact hF) (run_ge _ _ _ _ fun i hi => ?_)
      rw [setN_get L s.1 false s.2 _ h2]
      split
      · rfl
      · exact run_has L F false i (by omega)
theorem ch_of (L : List Bool) (F n : Nat) (t : Bool) (hn : 1 ≤ n) (hF : F + n ≤ L.length) (hr : n ≤ run L F (!t)) : ch L (F : Int) (n : Int) t = true ∧ after L (F : Int) (n : Int) t = setN L F t n := by
  have h : ch L (F : Int) (n : Int) t = true := by
    unfold ch
    rw [Bool.and_eq_true, fits_iff, decide_eq_true_eq, Int.toNat_natCast]
    omega
  refine ⟨h, ?_⟩
  unfold after
  rw [h, if_pos rfl, Int.toNat_natCast, Int.toNat_natCast]
theorem of_ch (L : List Bool) (F C : Int) (t : Bool) (h : ch L F C t = true) : ∃ f n : Nat, F = (f : Int) ∧ C = (n : Int) ∧ 1 ≤ n ∧ f + n ≤ L.length ∧ n ≤ run L f (!t) ∧ after L F C t = setN L f t n := by
  have h' := h
  unfold ch at h'
  rw [Bool.and_eq_true, fits_iff, decide_eq_true_eq] at h'
  obtain ⟨⟨h1, h2, h3⟩, h4⟩ := h'
  refine ⟨F.toNat, C.toNat, by omega, by omega, by omega, by omega, by omega, ?_⟩
  unfold after
  rw [h, if_pos rfl]
end Al
theorem OwnSp.keptB {w w' : World} {base gm c : Nat} {L : List Bool} {v : Value} {l : List (Nat × Nat)} (h : OwnSp w base 31 v l) (hr : BRow w gm c L) (hk : KeptB gm w w') : OwnSp w' base 31 v l := by
  obtain ⟨h1, h2⟩ := h
  refine ⟨h1, ?_⟩
  rcases h2 with h2 | ⟨g, cap, cur, hv, hg, hh, r⟩
  · exact Or.inl h2
  · refine Or.inr ⟨g, cap, cur, hv, hg, ?_, r⟩
    rw [hk.block g (Array.getElem?_eq_some_iff.1 hh).1 (fun e => by
      subst e
      obtain ⟨ex, hr, _⟩ := hr
      rw [hr] at hh
      injection hh with hh
      injection hh with _ h2 _
      exact absurd h2 (by decide))]
    exact hh
theorem OwnSp.spansOf {w : World} {base : Nat} {T : TypeId} {ao : Option Addr} {n cap : Nat} {l : List (Nat × Nat)} (h : OwnSp w base T (.slice ao n cap) l) : Spans w ao l := by
  obtain ⟨ao', cap', e, hs⟩ := h.spans
  injection e with e1 _ _
  rw [e1]
  exact hs
theorem OwnSp.nil (w : World) (base : Nat) (T : TypeId) : OwnSp w base T (.slice none 0 0) [] := World.ownsRow_nil _ _ _ _
/-- append(s, x), s the call's own; what is of another type stays. -/
theorem wpList_appSpK {w : World} {ops : Array Oper} {rest : List Oper} {o : Oper} {a : Act} {Q : Exit → Act → World → Prop} (hgd : o.guard = none) (s x : Operand)
    (ho : o.op = .call { callee := .builtin .append, args := #[s, x], argTypes := #[46, 46] })
    (base : Nat) (v : Value) (l : List (Nat × Nat)) (n : Nat) (hn : l.length = n) (hs : a.eval s = v) (hown : OwnSp w base 31 v l)
    (ad : Addr) (y : Nat × Nat) (hx : a.eval x = .slice (some ad) 1 1) (hnews : ∀ j u, ([.int .i64 (y.1 : Int), .int .i64 (y.2 : Int)] : List Value)[j]? = some u → w.cell? (ad.add j) = some u)
    (hlen : n ≤ 5000) (hbase : base ≤ w.heap.size)
    (h : ∀ v' w', OwnSp w' base 31 v' (l ++ [y]) → Below base w w' → (∀ (k : Nat) (cs : Array Value) (T : TypeId), w.heap[k]? = some (Obj.cells cs T (0, 0)) → T ≠ 31 → w'.heap[k]? = w.heap[k]?) → wpList Try.prog ops Q rest (a.put o.dst v') w') : wpList Try.prog ops Q (o :: rest) a w := by
  obtain ⟨i, hi, hz0, hz1, hz2⟩ := info_parts infoRs
  subst hn
  refine wpList_append_own w hgd s x 46 ho base 31 i (.agg #[.int .i64 0, .int .i64 0]) 2 16 Try.underlying46 hi hz0 hz1 hz2 rfl (by decide) v l.length _ hs hown ad 1 1 [.int .i64 (y.1 : Int), .int .i64 (y.2 : Int)] hx rfl hnews ?_ (by unfold maxLen; omega) (by omega) hbase ?_
  · intro u hu
    simp only [List.mem_cons, List.not_mem_nil, or_false] at hu
    rcases hu with rfl | rfl <;> rfl
  · intro v' w' h2 h3 _
    refine h v' w' ?_ ((Below.refl base w).grown h3 hbase ?_) ?_
    · unfold OwnSp
      rw [List.length_append, spC_snoc]
      exact h2
    · intro k hk
      obtain ⟨_, h2' | ⟨g, cap, cur, hv, hg, _⟩⟩ := hown
      · rw [h2'.1] at hk; cases hk
      · rw [hv] at hk; simp only [Value.ownBlock, Option.some.injEq] at hk; omega
    · intro k cs T hk hT
      refine h3.block k (Array.getElem?_eq_some_iff.1 hk).1 (fun e => ?_)
      obtain ⟨_, h2' | ⟨g, cap, cur, hv, hg, hh, _⟩⟩ := hown
      · rw [h2'.1] at e; cases e
      · rw [hv] at e
        simp only [Value.ownBlock, Option.some.injEq] at e
        subst e
        rw [hh] at hk
        injection hk with hk
        injection hk with _ hk _
        exact hT hk.symm

theorem BRow.keep {w w' : World} {g c : Nat} {L : List Bool} (h : BRow w g c L) (hk : ∀ (k : Nat) (cs : Array Value) (T : TypeId), w.heap[k]? = some (Obj.cells cs T (0, 0)) → T ≠ 31 → w'.heap[k]? = w.heap[k]?) : BRow w' g c L := by
  obtain ⟨ex, h1, h2⟩ := h
  exact ⟨ex, (hk g _ _ h1 (by decide)).trans h1, h2⟩
theorem MapAt.keep {w w' : World} {b g c : Nat} {L : List Bool} (h : MapAt w b g c L) (hk : ∀ (k : Nat) (cs : Array Value) (T : TypeId), w.heap[k]? = some (Obj.cells cs T (0, 0)) → T ≠ 31 → w'.heap[k]? = w.heap[k]?) : MapAt w' b g c L :=
  ⟨(hk b _ _ h.ptr (by decide)).trans h.ptr, h.row.keep hk, h.pos, h.le⟩
theorem free30 : Al.sum (Al.spans (List.replicate 30 false) false) = 30 := by decide +kernel
theorem most30 : Al.most (Al.spans (List.replicate 30 false) false) = 30 := by decide +kernel
theorem none30 : Al.spans (List.replicate 30 false) true = [] := by decide +kernel
namespace AllocMarks
set_option maxHeartbeats 4000000 in
set_option maxRecDepth 100000 in
theorem walk (ao : Option Addr) (A : List (Int × Int)) (cap : Nat) (w : World) (hA : SpansA w ao A) (hAl : A.length ≤ maxLen) (hAb : ∀ i, i < A.length → (A.getD i (0, 0)).1 ≤ 9223372036854775807 ∧ (A.getD i (0, 0)).2 ≤ 9223372036854775807) :
    Calls Try.prog 6 #[.slice ao A.length cap] w fun e w' => e = .returned (.bool true) ∧ Below w.heap.size w w' := by
  have hAm : A.length ≤ 9223372036854775807 := hAl
  have HA := hid hA
  have HAB := hid hAb
  have HNW := hid (fun wx => new_any 30 30 (by decide) wx)
  have HRN := hid (fun wx => rnew_any 30 30 (by decide) wx)
  clear hA hAl hAb
  go_enter Try.func6, Try.ntmps6
  go_upto_region 3 with (go_at_call 7; refine (awake11_any _).mono ?_; rintro e w0 ⟨rfl, hb0⟩)
  go_wp2_with fail
  refine (HNW.out _).mono ?_
  rintro e w1 ⟨b, gm, rfl, hm1, hbb, hgm, hb1⟩
  have HB1 := hid (hb0.trans (hb1.mono hb0.size))
  have hs0 := hb0.size
  have HM1 := hid hm1
  clear hm1 hb1 hb0
  go_wp2_with fail
  refine (HRN.out _).mono ?_
  rintro e w2 ⟨gl, rfl, hr2, hgl, hb2⟩
  have HM2 := hid (HM1.out.below hb2)
  have HR2 := hid hr2
  have HB2 := hid (HB1.out.trans (hb2.mono HB1.out.size))
  have hgml := HM1.out.row.lt
  have hne : gl ≠ gm := by omega
  have hsw : w.heap.size ≤ gm := by omega
  have hgw : w.heap.size ≤ gl := by have := HB1.out.size; omega
  clear hr2 hb2 HM1 HB1 HNW HRN hgml hbb hgm hgl hs0
  go_upto_region 8 with (fail)
  have HL0 := hid (show (List.replicate 30 false).length = 30 from by simp)
  have HC0 := hid (show Al.Cov (List.replicate 30 false) [] from rfl)
  generalize List.replicate 30 false = L0 at HL0 HC0 HM2 HR2
  go_loopw [4, 5, 6, 7, 8] (fun x mk i y want wr => ∃ (j gl cl : Nat) (L : List Bool) (K : List (Nat × Nat)), i = .int .i64 j ∧ j ≤ A.length ∧ j ≤ 12 ∧ K.length ≤ j ∧ x = .slice (some ⟨gl, 0, none⟩) 30 cl ∧ L.length = 30 ∧ Al.Cov L K ∧ OwnSp wr w.heap.size 31 mk K ∧ MapAt wr b gm 30 L ∧ BRow wr gl cl L ∧ gl ≠ gm ∧ w.heap.size ≤ gl ∧ Below w.heap.size w wr)
    (fun _ _ i _ _ _ => 12 - (intOf i).toNat)
  case atStart => exact ⟨0, gl, 30, L0, [], rfl, by omega, by omega, by simp, rfl, HL0.out, HC0.out, OwnSp.nil _ _ _, HM2.out, HR2.out, hne, hgw, HB2.out⟩
  case round =>
    clear HM2 HR2 HB2 HL0 HC0 hne hgw
    obtain ⟨j, gl, cl, L, K, rfl, hj, hj12, hKl, rfl, hL, hcov, hown, hm, hr, hne, hgw, hbel⟩ := hrel
    have HM := hid hm
    have HR := hid hr
    have HBEL := hid hbel
    have HCOV := hid hcov
    have HOWN := hid hown
    by_cases hlt : j < A.length
    · by_cases h12 : j < 12
      · obtain ⟨sb, so, hao, c0, c1⟩ := HA.out.below hbel j hlt
        obtain ⟨hF, hC⟩ := HAB.out j hlt
        have HAC := hid (fun w' (hb : Below w.heap.size w w') => (HA.out.below hb) j hlt)
        subst hao
        generalize A.getD j (0, 0) = q at *
        obtain ⟨F, C⟩ := q
        simp only at c0 c1 hF hC HAC
        have HCH := hid (rchange_any gl cl L F C hF hC true wr hr (by omega) (by omega))
        rw [hL] at HCH
        have HMK := hid (fun wx hx => mark_any b gm 30 L F C hF wx hx)
        have HL2 := hid ((Al.after_length L F C true).trans hL)
        have hsl := hbel.size
        have hOF := Al.of_ch L F C true
        have hAN : Al.ch L F C true = false → Al.after L F C true = L := fun h => by unfold Al.after; rw [h]; rfl
        have HL := hid hL
        clear hm hr hbel hL hcov hown
        go_wp2_with fail
        refine HCH.out.mono ?_
        rintro e w3 ⟨gl', cl', rfl, hr3, hg3, hb3⟩
        have HR3 := hid hr3
        have HM3 := hid (HM.out.below hb3)
        have HO3 := hid (HOWN.out.below hb3)
        have HB3 := hid (HBEL.out.trans (hb3.mono HBEL.out.size))
        have hgmlt := HM.out.row.lt
        have hne' : gl' ≠ gm := by omega
        have hgw' : w.heap.size ≤ gl' := by omega
        obtain ⟨sb', so', e1, d0, d1⟩ := HAC.out w3 HB3.out
        have e1' := e1
        cases e1'
        clear e1 hr3 hb3 HM HR HBEL HOWN HCH c0 c1 hgmlt
        go_wp2_with fail
        refine (HMK.out _ HM3.out).mono ?_
        rintro e w4 ⟨rfl, hm4, hk4⟩
        have HM4 := hid hm4
        have HR4 := hid (HR3.out.keptB hk4 hne')
        have HO4 := hid (HO3.out.keptB HM3.out.row hk4)
        have HB4 := hid (HB3.out.trans (hk4.below hsw HB3.out.size))
        obtain ⟨sb2, so2, e1, f0, f1⟩ := HAC.out w4 HB4.out
        cases e1
        clear hm4 hk4 HM3 HR3 HO3 HB3 d0 d1
        cases hch : Al.ch L F C true with
        | false =>
          have h2 := hAN hch
          rw [h2] at HM4 HR4
          clear hch hOF hAN h2 HL2
          go_wp2
          exact ⟨⟨j + 1, gl', cl', L, K, by go_num, by omega, by omega, by omega, rfl, HL.out, HCOV.out, HO4.out, HM4.out, HR4.out, hne', hgw', HB4.out⟩, by simp [intOf]; omega⟩
        | true =>
          obtain ⟨f, n, rfl, rfl, hn1, hfn, hru, haf⟩ := hOF hch
          have HCV := hid (Al.Cov.snoc K L HCOV.out f n hn1 hfn hru)
          rw [← haf] at HCV
          clear hch hOF hAN haf hru
          generalize Al.after L (f : Int) (n : Int) true = L2 at *
          have hb5 : Below w4.heap.size w4 (w4.alloc (.cells #[.int .i64 (f : Int), .int .i64 (n : Int)] 31)) := (Below.refl _ w4).alloc (Nat.le_refl _) _
          have HM5 := hid (HM4.out.below hb5)
          have HR5 := hid (HR4.out.at (hb5.block gl' HR4.out.lt))
          have HO5 := hid (HO4.out.below hb5)
          have HB5 := hid (HB4.out.trans (hb5.mono HB4.out.size))
          have hbs := HB5.out.size
          clear hb5 HM4 HR4 HO4 HB4
          go_wp2_with (refine wpList_appSpK rfl _ _ rfl w.heap.size _ K _ rfl rfl HO5.out _ (f, n) rfl (cell_two_sp _ _ _ _) (by omega) hbs ?_; intro v' w' hown' hbel' hkeep)
          go_roundw
          case rel =>
            first
              | exact ⟨j + 1, gl', cl', L2, K ++ [(f, n)], by go_num, by omega, by omega, by simp; omega, rfl, HL2.out, HCV.out, hown', HM5.out.keep hkeep, HR5.out.keep hkeep, hne', hgw', HB5.out.trans hbel'⟩
              | ((repeat apply Exists.intro); refine ⟨?_, rfl⟩; exact ⟨j + 1, gl', cl', L2, K ++ [(f, n)], by go_num, by omega, by omega, by simp; omega, rfl, HL2.out, HCV.out, hown', HM5.out.keep hkeep, HR5.out.keep hkeep, hne', hgw', HB5.out.trans hbel'⟩)
          case measure => simp [intOf]; omega
      · obtain rfl : j = 12 := by omega
        have hji : (12 : Int) < (A.length : Int) := by omega
        rw [show ((12 : Nat) : Int) = 12 from rfl]
        have HIS := hid (isLaw_any b gm 30 gl cl L _ hm hr)
        rw [hL] at HIS
        have hK12 : K.length ≤ 12 := by omega
        clear hm hr hbel hL hcov hown
        go_wp2_with fail
        refine HIS.out.mono ?_
        rintro e w3 ⟨rfl, hb3⟩
        have HM3 := hid (HM.out.below hb3)
        have HO3 := hid (HOWN.out.below hb3)
        have HB3 := hid (HBEL.out.trans (hb3.mono HBEL.out.size))
        obtain ⟨am, cm, hv, _⟩ := HO3.out.spans
        subst hv
        have HS3 := hid HO3.out
        clear hb3 HM HR HBEL HOWN HIS HO3
        go_upto_region 19 with (fail)
        go_loopw [10, 59] (fun x i wr => ∃ (j : Nat) (L' : List Bool), i = .int .i64 j ∧ j ≤ K.length ∧ Al.Cov L' (K.drop j) ∧ MapAt wr b gm 30 L' ∧ OwnSp wr w.heap.size 31 (.slice am K.length cm) K ∧ Below w.heap.size w wr)
          (fun _ i _ => K.length - (intOf i).toNat)
        case atStart => exact ⟨0, L, rfl, by omega, HCOV.out, HM3.out, HS3.out, HB3.out⟩
        case round =>
          clear HM3 HS3 HB3 HCOV
          obtain ⟨j, L', rfl, hj, hcov, hm, hs, hbel⟩ := hrel
          by_cases hlt : j < K.length
          · obtain ⟨gs, hgs, c0, c1⟩ := hs.spansOf j hlt
            rw [List.drop_eq_getElem_cons hlt, show K[j] = K.getD j (0, 0) from by rw [List.getD_eq_getElem?_getD, List.getElem?_eq_getElem hlt]; rfl] at hcov
            subst hgs
            obtain ⟨h1, h2, h3, h4⟩ := hcov
            obtain ⟨hch, haf⟩ := Al.ch_of L' (K.getD j (0, 0)).1 (K.getD j (0, 0)).2 false h1 h2 h3
            rw [← haf] at h4
            have hF9 : ((K.getD j (0, 0)).1 : Int) ≤ 9223372036854775807 := by have := hm.le; omega
            have HGI := hid (fun wx hx => give_any b gm 30 L' ((K.getD j (0, 0)).1 : Int) ((K.getD j (0, 0)).2 : Int) hF9 wx hx)
            rw [hch] at HGI
            have HCV := hid h4
            clear h1 h2 h3 h4 hch haf hF9
            generalize Al.after L' ((K.getD j (0, 0)).1 : Int) ((K.getD j (0, 0)).2 : Int) false = L2 at *
            generalize K.getD j (0, 0) = s at *
            obtain ⟨f, n⟩ := s
            simp only at c0 c1 HGI
            have hb4 : Below wr.heap.size wr (wr.alloc (.cells #[.int .i64 (f : Int), .int .i64 (n : Int)] 31)) := (Below.refl _ wr).alloc (Nat.le_refl _) _
            have HM4 := hid (hm.below hb4)
            have HS4 := hid (hs.below hb4)
            have HB4 := hid (hbel.trans (hb4.mono hbel.size))
            clear hb4 hm hs hbel
            go_wp2_with fail
            refine (HGI.out _ HM4.out).mono ?_
            rintro e w5 ⟨rfl, hm5, hk5⟩
            have HM5 := hid hm5
            have HS5 := hid (HS4.out.keptB HM4.out.row hk5)
            have HB5 := hid (HB4.out.trans (hk5.below hsw HB4.out.size))
            clear hm5 hk5 HM4 HS4 HB4 c0 c1
            go_wp2
            exact ⟨⟨j + 1, L2, by go_num, by omega, HCV.out, HM5.out, HS5.out, HB5.out⟩, by simp [intOf]; omega⟩
          · obtain rfl : j = K.length := by omega
            rw [List.drop_length] at hcov
            have hcov' : L' = List.replicate 30 false := hcov
            subst hcov'
            have HFR := hid (fun wx hx => free_any b gm 30 (List.replicate 30 false) wx hx)
            rw [free30] at HFR
            have HMO := hid (fun wx hx => most_any b gm 30 (List.replicate 30 false) wx hx)
            rw [most30] at HMO
            have HTA := hid (fun wx hx => taken_any b gm 30 (List.replicate 30 false) wx hx)
            rw [none30] at HTA
            have HM := hid hm
            have HBEL := hid hbel
            clear hm hs hbel hcov
            generalize List.replicate 30 false = LL at *
            go_wp2_with fail
            refine (HFR.out _ HM.out).mono ?_
            rintro e w5 ⟨rfl, hb5⟩
            have HM5 := hid (HM.out.below hb5)
            have HB5 := hid (HBEL.out.trans (hb5.mono HBEL.out.size))
            clear hb5 HM HBEL
            go_wp2_with fail
            refine (HMO.out _ HM5.out).mono ?_
            rintro e w6 ⟨rfl, hb6⟩
            have HM6 := hid (HM5.out.below hb6)
            have HB6 := hid (HB5.out.trans (hb6.mono HB5.out.size))
            clear hb6 HM5 HB5
            go_wp2_with fail
            refine (HTA.out _ HM6.out).mono ?_
            rintro e w7 ⟨v, rfl, hv, hb7⟩
            have HB7 := hid (HB6.out.trans (hb7.mono HB6.out.size))
            obtain ⟨a7, c7, rfl, _⟩ := spans_of_own hv (n := 0) rfl
            clear hb7 hv
            go_wp2
            go_ret
            exact ⟨by first | rfl | simp, HB7.out⟩
    · obtain rfl : j = A.length := by omega
      have HIS := hid (isLaw_any b gm 30 gl cl L _ hm hr)
      rw [hL] at HIS
      have hK12 : K.length ≤ 12 := by omega
      clear hm hr hbel hL hcov hown
      go_wp2_with fail
      refine HIS.out.mono ?_
      rintro e w3 ⟨rfl, hb3⟩
      have HM3 := hid (HM.out.below hb3)
      have HO3 := hid (HOWN.out.below hb3)
      have HB3 := hid (HBEL.out.trans (hb3.mono HBEL.out.size))
      obtain ⟨am, cm, hv, _⟩ := HO3.out.spans
      subst hv
      have HS3 := hid HO3.out
      clear hb3 HM HR HBEL HOWN HIS HO3
      go_upto_region 19 with (fail)
      go_loopw [10, 59] (fun x i wr => ∃ (j : Nat) (L' : List Bool), i = .int .i64 j ∧ j ≤ K.length ∧ Al.Cov L' (K.drop j) ∧ MapAt wr b gm 30 L' ∧ OwnSp wr w.heap.size 31 (.slice am K.length cm) K ∧ Below w.heap.size w wr)
        (fun _ i _ => K.length - (intOf i).toNat)
      case atStart => exact ⟨0, L, rfl, by omega, HCOV.out, HM3.out, HS3.out, HB3.out⟩
      case round =>
        clear HM3 HS3 HB3 HCOV
        obtain ⟨j, L', rfl, hj, hcov, hm, hs, hbel⟩ := hrel
        by_cases hlt : j < K.length
        · obtain ⟨gs, hgs, c0, c1⟩ := hs.spansOf j hlt
          rw [List.drop_eq_getElem_cons hlt, show K[j] = K.getD j (0, 0) from by rw [List.getD_eq_getElem?_getD, List.getElem?_eq_getElem hlt]; rfl] at hcov
          subst hgs
          obtain ⟨h1, h2, h3, h4⟩ := hcov
          obtain ⟨hch, haf⟩ := Al.ch_of L' (K.getD j (0, 0)).1 (K.getD j (0, 0)).2 false h1 h2 h3
          rw [← haf] at h4
          have hF9 : ((K.getD j (0, 0)).1 : Int) ≤ 9223372036854775807 := by have := hm.le; omega
          have HGI := hid (fun wx hx => give_any b gm 30 L' ((K.getD j (0, 0)).1 : Int) ((K.getD j (0, 0)).2 : Int) hF9 wx hx)
          rw [hch] at HGI
          have HCV := hid h4
          clear h1 h2 h3 h4 hch haf hF9
          generalize Al.after L' ((K.getD j (0, 0)).1 : Int) ((K.getD j (0, 0)).2 : Int) false = L2 at *
          generalize K.getD j (0, 0) = s at *
          obtain ⟨f, n⟩ := s
          simp only at c0 c1 HGI
          have hb4 : Below wr.heap.size wr (wr.alloc (.cells #[.int .i64 (f : Int), .int .i64 (n : Int)] 31)) := (Below.refl _ wr).alloc (Nat.le_refl _) _
          have HM4 := hid (hm.below hb4)
          have HS4 := hid (hs.below hb4)
          have HB4 := hid (hbel.trans (hb4.mono hbel.size))
          clear hb4 hm hs hbel
          go_wp2_with fail
          refine (HGI.out _ HM4.out).mono ?_
          rintro e w5 ⟨rfl, hm5, hk5⟩
          have HM5 := hid hm5
          have HS5 := hid (HS4.out.keptB HM4.out.row hk5)
          have HB5 := hid (HB4.out.trans (hk5.below hsw HB4.out.size))
          clear hm5 hk5 HM4 HS4 HB4 c0 c1
          go_wp2
          exact ⟨⟨j + 1, L2, by go_num, by omega, HCV.out, HM5.out, HS5.out, HB5.out⟩, by simp [intOf]; omega⟩
        · obtain rfl : j = K.length := by omega
          rw [List.drop_length] at hcov
          have hcov' : L' = List.replicate 30 false := hcov
          subst hcov'
          have HFR := hid (fun wx hx => free_any b gm 30 (List.replicate 30 false) wx hx)
          rw [free30] at HFR
          have HMO := hid (fun wx hx => most_any b gm 30 (List.replicate 30 false) wx hx)
          rw [most30] at HMO
          have HTA := hid (fun wx hx => taken_any b gm 30 (List.replicate 30 false) wx hx)
          rw [none30] at HTA
          have HM := hid hm
          have HBEL := hid hbel
          clear hm hs hbel hcov
          generalize List.replicate 30 false = LL at *
          go_wp2_with fail
          refine (HFR.out _ HM.out).mono ?_
          rintro e w5 ⟨rfl, hb5⟩
          have HM5 := hid (HM.out.below hb5)
          have HB5 := hid (HBEL.out.trans (hb5.mono HBEL.out.size))
          clear hb5 HM HBEL
          go_wp2_with fail
          refine (HMO.out _ HM5.out).mono ?_
          rintro e w6 ⟨rfl, hb6⟩
          have HM6 := hid (HM5.out.below hb6)
          have HB6 := hid (HB5.out.trans (hb6.mono HB5.out.size))
          clear hb6 HM5 HB5
          go_wp2_with fail
          refine (HTA.out _ HM6.out).mono ?_
          rintro e w7 ⟨v, rfl, hv, hb7⟩
          have HB7 := hid (HB6.out.trans (hb7.mono HB6.out.size))
          obtain ⟨a7, c7, rfl, _⟩ := spans_of_own hv (n := 0) rfl
          clear hb7 hv
          go_wp2
          go_ret
          exact ⟨by first | rfl | simp, HB7.out⟩

set_option maxRecDepth 100000 in
theorem contract (H : Type) (enc : TypeId × Value → H) (W : World) (base : Nat) (args : Array Value) (ds gs : List (DataW H)) (before : List MemPlace)
    (hval : ∀ (j : Nat) t v, Try.f6.params[j]? = some t → args[j]? = some v → Value.okWide Try.prog W .any base t v)
    (hW : DataW.Whole enc Try.prog Try.f6.params.toList Rows.allocMarksSpec.vars false W args.toList ds gs before) (hL : laidMetH Try.prog Rows.allocMarksRow.laid W) :
    Calls Try.prog 6 args W fun e W' => ∃ v, e = .returned v ∧ Rows.allocMarksSpec.post enc Try.prog Try.f6 false true false false W args v W' := by
  have hW' := hW
  obtain ⟨p, q, hA0, hV, rfl, hfz, hnd⟩ := hW
  have hA : DataW.TrodAll enc Try.prog W 0 (fun _ => true) true Try.f6.params.toList args.toList ds p := hA0
  rw [Try.params6] at hA hval
  obtain ⟨v0, vs0, d0, ds0, p0, q0, hargs, rfl, rfl, h0, r0⟩ := trodAll_cons hA
  obtain ⟨rfl, rfl, rfl⟩ := trodAll_nil r0
  obtain rfl : args = #[v0] := by cases args; simp_all
  obtain ⟨ao0, L0, cap0, rfl, hR0, hL0, hb0⟩ := open_rspans (hval 0 46 v0 rfl rfl) h0
  refine (walk ao0 L0 cap0 W hR0 hL0 hb0).mono fun e W' ⟨he, hb⟩ => ?_
  subst he
  exact ⟨_, rfl, law_post rfl rfl (by rw [Try.params6]; decide +kernel) hW' rfl hb⟩

theorem laid_met (os : Os) : laidMet Try.prog Rows.allocMarksRow.laid ((laidWorld os).forCall (fun _ _ => 0) ⟨#[], #[.slice none 0 0], []⟩).memory :=
  laidMet_of_run' 8 (by kernel_rfl) (by kernel_rfl)
theorem reads (os : Os) {H : Type} (enc : TypeId × Value → H) : ∃ places, DataW.whole enc Try.prog ((laidWorld os).forCall (fun _ _ => 0) ⟨#[], #[.slice none 0 0], []⟩).memory Try.f6.params.toList Rows.allocMarksSpec.vars false (#[.slice none 0 0] : Array Value).toList 8
    = some ([.nil], [], places) :=
  ⟨[], by kernel_rfl⟩

set_option maxRecDepth 100000 in
theorem lifted (os : Os) (started : os.Started) (H : Type) (enc : TypeId × Value → H) (F : Stop.Interp) :
    ReturnsInHanded {} Try.checked os 6 .any ((OpenSpec.ofChange Rows.allocMarksSpec).preRow enc Try.prog Try.f6 Rows.allocMarksRow.domain false Rows.allocMarksRow.laid) (((OpenSpec.ofChange Rows.allocMarksSpec).at F).post enc Try.prog Try.f6 false true false false) := by
  obtain ⟨places, hx⟩ := reads os enc
  refine returnsInHanded_of_row (C := Try.checked) (s := OpenSpec.ofChange Rows.allocMarksSpec) own started (by kernel_rfl) Try.func6
    (witness_row_at (enc := enc) (C := Try.checked) false (laidWorld os) #[.slice none 0 0] rfl (by kernel_rfl) (by kernel_rfl) (by kernel_rfl)
      (OpenSpec.preRow_of_cond 8 hx (by kernel_rfl) (fun k hk => by cases hk) (by kernel_rfl) (laid_met os))) ?_
  intro W base args ds gs before hval hW _ _ _ hL _ _
  exact contract H enc W base args ds gs before hval hW hL

theorem said : Rows.AllocMarksSaid :=
  OpenClaim.holds_of_cond 6 Try.f6 rfl rfl rfl rfl rfl rfl rfl ⟨rfl, rfl, rfl, rfl, rfl⟩ rfl rfl rfl rfl rfl (by kernel_rfl) Try.func6 (by kernel_rfl)
    (of_decide_eq_true (by kernel_rfl)) (by unfold Func.isWrapper; first | (rw [if_pos (by decide +kernel)]; kernel_rfl) | (rw [if_neg (by decide +kernel)]; exact ⟨rfl, rfl⟩))
    (fun os started H enc _ F => by rw [OpenClaim.pre_eq_preRow]; exact lifted os started H enc F)


end AllocMarks
theorem allocMarks_said : Rows.AllocMarksSaid := AllocMarks.said
end Go.Proofs.Ytmlkbdkehoajaaa
