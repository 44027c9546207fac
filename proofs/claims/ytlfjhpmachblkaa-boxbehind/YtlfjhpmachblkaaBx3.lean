/-
  Layer 18: an entry is appended; Add.
-/
import Derived.Test.YtlfjhpmachblkaaBx2
import Derived.Deep.DeepAppendRoom
namespace Go.Proofs.Ytlfjhpmachblkaa
open Go.ChangeShapes Go.WideShapes Go.ChangeAt Go.RowKit
open Go.Lib (hid)

attribute [local go_sem] Oper.semAt_some

/-- What is known of the types of a row of entries. -/
structure EType (T sT : TypeId) : Prop where
  under : Try.prog.underlying sT = some (.slice T)
  info : (Try.prog.info? T).map (fun i => (i.zero, i.size, i.bytes)) = some (some (.agg #[.int .i64 0, .int .i64 0, .int .i64 0]), 3, 24)
theorem eBox : EType 38 43 := ⟨Try.underlying43, by kernel_rfl⟩
theorem run_append_ent {T sT : TypeId} (hT : EType T sT) (ty : TypeId) (w : World) (v : Value) (l : List Bv.E) (hown : OwnB w T v l) (ad : Addr) (c : Nat) (ys : List Bv.E)
    (hnews : ∀ j u, (besC ys)[j]? = some u → w.cell? (ad.add j) = some u) (hy : ys ≠ []) (hlen : l.length + ys.length ≤ 5000) :
    ∃ v' w', (Builtin.append_ #[sT, sT] ty #[v, .slice (some ad) ys.length c]).run Try.prog w = .ok v' w' ∧ OwnB w' T v' (l ++ ys) ∧ w.grownBy w' v.ownBlock ∧ VNext w v v' := by
  obtain ⟨i, hi, hz0, hz1, hz2⟩ := info_parts hT.info
  have ht := hT.under
  have hone := besC_one ys
  have hyl : 0 < ys.length := List.length_pos_iff.2 hy
  unfold OwnB at hown ⊢
  rw [List.length_append, besC_append]
  by_cases hv : v = .slice none 0 0
  · subst hv
    have hl : l = [] := by
      obtain ⟨_, ⟨_, h0⟩ | ⟨g, cap, cur, hv, _⟩⟩ := hown
      · exact List.eq_nil_of_length_eq_zero h0
      · cases hv
    subst hl
    obtain ⟨v', w', hr, hown', hg, _⟩ := run_append_own (P := Try.prog) w w.heap.size _ ty T i _ 3 24 ht hi hz0 hz1 hz2 rfl (by decide) _ 0 [] (World.ownsRow_nil _ _ _ _) ad ys.length c _ (besC_length ys) hnews hone (by unfold maxLen; simp at hlen ⊢; omega) (by simp at hlen ⊢; omega) (Nat.le_refl _)
    refine ⟨v', w', hr, ?_, hg, ?_⟩
    · obtain ⟨h1, h2 | ⟨g, cap, cur, hv, hg1, rest⟩⟩ := hown'
      · exact ⟨h1, Or.inl h2⟩
      · exact ⟨h1, Or.inr ⟨g, cap, cur, hv, Nat.zero_le _, rest⟩⟩
    · intro k hk
      obtain ⟨h1, h2 | ⟨g, cap, cur, hv, hg1, rest⟩⟩ := hown'
      · rw [h2.1] at hk; cases hk
      · rw [hv] at hk
        simp only [Value.ownBlock, Option.some.injEq] at hk
        exact Or.inr (by omega)
  · obtain ⟨hl3, ⟨h0, _⟩ | ⟨g, cap, cur, hvg, h2, h3, h4, h5, h6, h7⟩⟩ := id hown
    · exact absurd h0 hv
    · subst hvg
      by_cases hroom : l.length + ys.length ≤ cap
      · obtain ⟨w', hr, hown', hg⟩ := run_append_own_spare (P := Try.prog) (w := w) 0 _ ty T i 3 ht hi hz1 g l.length cap _ hown ad ys.length c _ (besC_length ys) hnews hone hroom
        exact ⟨_, w', hr, hown', hg, VNext.refl _ _⟩
      · have holds : ∀ j u, (besC l)[j]? = some u → w.cell? ((⟨g, 0, none⟩ : Addr).add j) = some u := by
          intro j u hj
          have hlt : j < l.length * 3 := by rw [← hl3]; exact (List.getElem?_eq_some_iff.1 hj).1
          rw [← h7, List.getElem?_take, if_pos hlt, Array.getElem?_toList] at hj
          rw [Addr.add_lit, Nat.zero_add]
          exact (cell_of_row w g j cur _ _ h3).trans hj
        have hr := run_append_grow (P := Try.prog) w _ ty T i _ ht hi hz0 ⟨g, 0, none⟩ l.length cap (besC l) (by rw [hz1]; exact hl3) holds ad ys.length c _ (by rw [hz1]; exact besC_length ys) hnews (by omega) (by omega) (growslice_fits (by omega) (by rw [hz2]; omega))
        have hge := grownCap_ge w (l.length + ys.length) cap T
        have hcm := grownCap_le_maxLen w (l.length + ys.length) cap T (by unfold maxLen; omega)
        have hln : (besC l ++ besC ys).length = (l.length + ys.length) * 3 := by rw [← besC_append, besC_length]; simp
        refine ⟨_, _, hr, ⟨hln, Or.inr ⟨w.heap.size, _, _, rfl, Nat.zero_le _, heap_alloc_new w.drew _, hge, hcm, ?_, ?_⟩⟩, ⟨rfl, rfl, rfl, by simp, fun k hk _ => Below.heap_alloc w.drew _ k hk⟩, fun k hk => Or.inr ?_⟩
        · simp only [Array.size_append, List.size_toArray, size_zeroCells, hl3, Value.cells, besC_length]
          simp
          omega
        · simp only [Array.toList_append, List.append_assoc]
          rw [← List.append_assoc, ← hln]
          exact List.take_left
        · simp only [Value.ownBlock, Option.some.injEq] at hk
          omega
theorem besC_at {w : World} {B : Nat} {T : TypeId} {y : Bv.E} (h : EntAt w B T y) : ∀ j u, (besC [y])[j]? = some u → w.cell? ((⟨B, 0, none⟩ : Addr).add j) = some u := by
  intro j u hj
  rw [Addr.add_lit, Nat.zero_add, cell_of_row _ _ _ _ _ _ h, List.getElem?_toArray]
  rw [← hj]
  simp [besC, beC]
theorem wp_appEnt {T sT : TypeId} (hT : EType T sT) {w : World} {o : Oper} {a : Act} {K : Act → World → Prop} {Q : Exit → Act → World → Prop} (s x : Operand)
    (ho : o.op = .call { callee := .builtin .append, args := #[s, x], argTypes := #[sT, sT] })
    (v : Value) (l : List Bv.E) (hs : a.eval s = v) (hown : OwnB w T v l)
    (B : Nat) (y : Bv.E) (hx : a.eval x = .slice (some ⟨B, 0, none⟩) 1 1) (hB : EntAt w B T y) (hlen : l.length + 1 ≤ 5000)
    (h : ∀ v' w', OwnB w' T v' (l ++ [y]) → w.grownBy w' v.ownBlock → VNext w v v' → K (a.put o.dst v') w') : o.wp Try.prog a w K Q := by
  obtain ⟨v', w', hr, h2, h3, h4⟩ := run_append_ent hT o.type w v l hown ⟨B, 0, none⟩ 1 [y] (besC_at hB) (by simp) hlen
  unfold Oper.wp execOp
  simp only [ho, resolve, invoke, builtin, Sem.run_bind, Sem.run_pure, Result.andThen_ok, List.map_toArray, List.map_cons, List.map_nil, hs, hx]
  rw [show (1 : Nat) = [y].length from rfl] at hx
  simp only [List.length_singleton] at hr
  rw [hr]
  exact h v' w' h2 h3 h4
theorem wpList_appEnt {T sT : TypeId} (hT : EType T sT) {w : World} {ops : Array Oper} {rest : List Oper} {o : Oper} {a : Act} {Q : Exit → Act → World → Prop} (hgd : o.guard = none) (s x : Operand)
    (ho : o.op = .call { callee := .builtin .append, args := #[s, x], argTypes := #[sT, sT] })
    (v : Value) (l : List Bv.E) (hs : a.eval s = v) (hown : OwnB w T v l)
    (B : Nat) (y : Bv.E) (hx : a.eval x = .slice (some ⟨B, 0, none⟩) 1 1) (hB : EntAt w B T y) (hlen : l.length + 1 ≤ 5000)
    (h : ∀ v' w', OwnB w' T v' (l ++ [y]) → w.grownBy w' v.ownBlock → VNext w v v' → wpList Try.prog ops Q rest (a.put o.dst v') w') : wpList Try.prog ops Q (o :: rest) a w := by
  have hw : Region.wanted o (yielded ops a.tmps) = true := by simp [Region.wanted, hgd]
  unfold wpList
  rw [if_pos hw]
  exact Or.inl (wp_appEnt hT s x ho v l hs hown B y hx hB hlen h)

theorem ints_oneB (w : World) (n : Int) (t : TypeId) : IntsB (w.alloc (.cells #[.int .i64 n] t)) (some ⟨w.heap.size, 0, none⟩) [n] := by
  intro i hi
  obtain rfl : i = 0 := by simpa using hi
  exact ⟨_, _, rfl, cell_of_row _ _ _ _ _ _ (heap_alloc_new _ _)⟩
set_option maxHeartbeats 4000000 in
set_option maxRecDepth 100000 in
theorem badd_any (b : Nat) (v : Value) (V X : Int) (L : List Bv.E) (m f : Int) (w : World) (h : IsB w b v V X L) (hl : L.length ≤ 1000) (hX : 0 ≤ X ∧ X < 4611686018427387904) :
    Calls Try.prog 14 #[.pointer (some ⟨b, 0, none⟩), .int .i64 m, .int .i64 f] w fun e w' => ∃ v', e = .returned (.tuple #[beV (Bv.addR X L m f), .int .i64 (Bv.addE L m f : Nat)]) ∧ IsB w' b v' V (Bv.addX X L m f) (Bv.addL X L m f) ∧ BxTo w b v w' v' := by
  have HI := hid h
  have HC := hid (fun wx => isCount_any m wx)
  have HFX := hid (fun (wx : World) => areFlags_any _ 1 _ _ (ints_oneB wx f 3) (by simp))
  rw [show ([f].all Bv.fl) = Bv.fl f from by simp] at HFX
  clear h
  cases hm : Bv.okc m with
  | false =>
    have hE : Bv.addE L m f = 4 := by unfold Bv.addE; rw [hm]; rfl
    have hR : Bv.addR X L m f = (0, 0, 0) ∧ Bv.addX X L m f = X ∧ Bv.addL X L m f = L := by unfold Bv.addR Bv.addX Bv.addL; rw [hE]; exact ⟨rfl, rfl, rfl⟩
    rw [hR.1, hR.2.1, hR.2.2, hE]
    clear hR hE
    rw [hm] at HC
    clear hm
    go_enter Try.func14, Try.ntmps14
    go_upto_region 1 with (fail)
    have HB0 := hid ((Below.refl w.heap.size w).alloc (Nat.le_refl _) (.cells #[.int .i64 0, .int .i64 0, .int .i64 0] 38))
    have HE0 := hid (show EntAt (w.alloc (.cells #[.int .i64 0, .int .i64 0, .int .i64 0] 38)) w.heap.size 38 (0, 0, 0) from heap_alloc_new _ _)
    generalize w.alloc _ = w0 at *
    go_wp2_with fail
    refine (HC.out w0).mono ?_
    rintro e w1 ⟨rfl, rfl⟩
    obtain ⟨⟨z0, s0⟩, f0, s1, f1, s2, f2⟩ := HE0.out.wr
    go_wp2
    refine ret_ent Try.results14 _ _ w.heap.size (0, 0, 0) (.int .i64 4) ?_ (HE0.out.set 0 0 0) ?_ ?_ ?_
    · rfl
    · rfl
    · rfl
    have hb := (EntAt.kept 0 0 0).below' HB0.out
    exact ⟨_, rfl, HI.out.below hb, BxTo.below hb⟩
  | true =>
    rw [hm] at HC
    cases hf : Bv.fl f with
    | false =>
      have hE : Bv.addE L m f = 4 := by unfold Bv.addE; rw [hm, hf]; rfl
      have hR : Bv.addR X L m f = (0, 0, 0) ∧ Bv.addX X L m f = X ∧ Bv.addL X L m f = L := by unfold Bv.addR Bv.addX Bv.addL; rw [hE]; exact ⟨rfl, rfl, rfl⟩
      rw [hR.1, hR.2.1, hR.2.2, hE]
      clear hR hE
      rw [hf] at HFX
      clear hm hf
      go_enter Try.func14, Try.ntmps14
      go_upto_region 1 with (fail)
      have HB0 := hid ((Below.refl w.heap.size w).alloc (Nat.le_refl _) (.cells #[.int .i64 0, .int .i64 0, .int .i64 0] 38))
      have HE0 := hid (show EntAt (w.alloc (.cells #[.int .i64 0, .int .i64 0, .int .i64 0] 38)) w.heap.size 38 (0, 0, 0) from heap_alloc_new _ _)
      generalize w.alloc _ = w0 at *
      go_wp2_with fail
      refine (HC.out w0).mono ?_
      rintro e w1 ⟨rfl, rfl⟩
      have HB1 := hid (HB0.out.trans (((Below.refl w1.heap.size w1).alloc (Nat.le_refl _) (.cells #[.int .i64 f] 3)).mono HB0.out.size))
      have HE1 := hid (HE0.out.below ((Below.refl w1.heap.size w1).alloc (Nat.le_refl _) (.cells #[.int .i64 f] 3)))
      go_wp2_with fail
      refine (HFX.out _).mono ?_
      rintro e w2 ⟨rfl, rfl⟩
      generalize w1.alloc _ = w2 at *
      clear HB0 HE0 HC HFX
      have HI2 := hid (HI.out.below HB1.out)
      obtain ⟨⟨z0, s0⟩, f0, s1, f1, s2, f2⟩ := HE1.out.wr
      go_wp2
      refine ret_ent Try.results14 _ _ w.heap.size (0, 0, 0) (.int .i64 4) ?_ (HE1.out.set 0 0 0) ?_ ?_ ?_
      · rfl
      · rfl
      · rfl
      have hb := (EntAt.kept 0 0 0).below' HB1.out
      exact ⟨_, rfl, HI.out.below hb, BxTo.below hb⟩
    | true =>
      rw [hf] at HFX
      obtain ⟨ao, cap, hv, _⟩ := HI.out.own.es
      obtain ⟨n, hn⟩ : ∃ n, L.length = n := ⟨_, rfl⟩
      rw [hn] at hl hv
      subst hv
      by_cases h256 : n < 256
      · have hE : Bv.addE L m f = 0 := by unfold Bv.addE; rw [hm, hf, hn, if_pos h256]; rfl
        have hR : Bv.addR X L m f = (X, f, m) ∧ Bv.addX X L m f = X + 1 ∧ Bv.addL X L m f = L ++ [(X, f, m)] := by unfold Bv.addR Bv.addX Bv.addL; rw [hE]; exact ⟨rfl, rfl, rfl⟩
        rw [hR.1, hR.2.1, hR.2.2, hE]
        have HN := hid hn
        have hi : (n : Int) < 256 := by omega
        clear hR hE hm hf
        go_enter Try.func14, Try.ntmps14
        go_upto_region 1 with (fail)
        have HB0 := hid ((Below.refl w.heap.size w).alloc (Nat.le_refl _) (.cells #[.int .i64 0, .int .i64 0, .int .i64 0] 38))
        have HE0 := hid (show EntAt (w.alloc (.cells #[.int .i64 0, .int .i64 0, .int .i64 0] 38)) w.heap.size 38 (0, 0, 0) from heap_alloc_new _ _)
        generalize w.alloc _ = w0 at *
        go_wp2_with fail
        refine (HC.out w0).mono ?_
        rintro e w1 ⟨rfl, rfl⟩
        have HB1 := hid (HB0.out.trans (((Below.refl w1.heap.size w1).alloc (Nat.le_refl _) (.cells #[.int .i64 f] 3)).mono HB0.out.size))
        have HE1 := hid (HE0.out.below ((Below.refl w1.heap.size w1).alloc (Nat.le_refl _) (.cells #[.int .i64 f] 3)))
        go_wp2_with fail
        refine (HFX.out _).mono ?_
        rintro e w2 ⟨rfl, rfl⟩
        generalize w1.alloc _ = w2 at *
        clear HB0 HE0 HC HFX
        have HI2 := hid (HI.out.below HB1.out)
        have c2 := HI2.out.c2
        have c1 := HI2.out.c1
        go_upto_region 6 with (fail)
        have HB3 := hid (HB1.out.trans (((Below.refl w2.heap.size w2).alloc (Nat.le_refl _) (.cells #[.int .i64 X, .int .i64 f, .int .i64 m] 38)).mono HB1.out.size))
        have HE3 := hid (HE1.out.below ((Below.refl w2.heap.size w2).alloc (Nat.le_refl _) (.cells #[.int .i64 X, .int .i64 f, .int .i64 m] 38)))
        have HX3 := hid (show EntAt (w2.alloc (.cells #[.int .i64 X, .int .i64 f, .int .i64 m] 38)) w2.heap.size 38 (X, f, m) from heap_alloc_new _ _)
        have hne2 : w2.heap.size ≠ w.heap.size := by have := HE1.out.lt; omega
        have hbE : b ≠ w2.heap.size := by have := HI2.out.lt; omega
        have hw2 := HB1.out.size
        generalize w2.heap.size = E at *
        generalize w2.alloc _ = w3 at *
        have HI3 := hid (HI.out.below HB3.out)
        have hbl := HI.out.lt
        clear HE1 HB1 HI2 c1 c2
        have hS1 : (fun W : World => W.heap[b]? = some (.cells #[.int .i64 V, .int .i64 X, .slice ao n cap] 62 (0, 0)) ∧ EntAt W E 38 (X, f, m)) w3.drew := ⟨HI3.out.row, HX3.out⟩
        refine wp_region_noPanic ?_
        refine wp_region_L 10 (fun W : World => W.heap[b]? = some (.cells #[.int .i64 V, .int .i64 X, .slice ao n cap] 62 (0, 0)) ∧ EntAt W E 38 (X, f, m)) (by kernel_rfl) 11 rfl (fun hcl0 => ?_)
        refine wpAnyL_take (i := 0) (oi := ?oi2) (v := .pointer (some ⟨b, 0, none⟩)) ?hi2 (by kernel_rfl) (by kernel_rfl) (by kernel_rfl) (by kernel_rfl) hcl0 (fun _ _ _ h => h) ?hy2 hS1 (fun hcl1 => ?_)
        case hi2 => simp only [List.getElem?_toArray, List.getElem?_cons_zero]; rfl
        case hy2 => exact Or.inl ⟨rfl, fun _ hSw => rfl⟩
        simp only [Act.put, List.setIfInBounds_toArray, List.set_cons_zero, List.set_cons_succ]
        refine wpAnyL_take (i := 1) (oi := ?oi3) (v := .pointer (some ⟨b, 0, none⟩)) ?hi3 (by kernel_rfl) (by kernel_rfl) (by kernel_rfl) (by kernel_rfl) hcl1 (fun _ _ _ h => h) ?hy3 hS1 (fun hcl2 => ?_)
        case hi3 => simp only [List.getElem?_toArray, List.getElem?_cons_succ, List.getElem?_cons_zero]; rfl
        case hy3 => exact Or.inl ⟨rfl, fun _ hSw => rfl⟩
        simp only [Act.put, List.setIfInBounds_toArray, List.set_cons_zero, List.set_cons_succ]
        refine wpAnyL_take (i := 2) (oi := ?oi4) (v := .pointer (some ⟨b, 0, none⟩)) ?hi4 (by kernel_rfl) (by kernel_rfl) (by kernel_rfl) (by kernel_rfl) hcl2 (fun _ _ _ h => h) ?hy4 hS1 (fun hcl3 => ?_)
        case hi4 => simp only [List.getElem?_toArray, List.getElem?_cons_succ, List.getElem?_cons_zero]; rfl
        case hy4 => exact Or.inl ⟨rfl, fun _ hSw => by go_simp⟩
        simp only [Act.put, List.setIfInBounds_toArray, List.set_cons_zero, List.set_cons_succ]
        refine wpAnyL_take (i := 3) (oi := ?oi5) (v := .pointer (some ⟨b, 2, none⟩)) ?hi5 (by kernel_rfl) (by kernel_rfl) (by kernel_rfl) (by kernel_rfl) hcl3 (fun _ _ _ h => h) ?hy5 hS1 (fun hcl4 => ?_)
        case hi5 => simp only [List.getElem?_toArray, List.getElem?_cons_succ, List.getElem?_cons_zero]; rfl
        case hy5 => exact Or.inl ⟨rfl, fun _ hSw => by go_simp⟩
        simp only [Act.put, List.setIfInBounds_toArray, List.set_cons_zero, List.set_cons_succ]
        refine wpAnyL_take (i := 4) (oi := ?oi6) (v := .slice ao n cap) ?hi6 (by kernel_rfl) (by kernel_rfl) (by kernel_rfl) (by kernel_rfl) hcl4 (fun _ _ _ h => h) ?hy6 hS1 (fun hcl5 => ?_)
        case hi6 => simp only [List.getElem?_toArray, List.getElem?_cons_succ, List.getElem?_cons_zero]; rfl
        case hy6 => exact Or.inl ⟨rfl, fun _ hSw => by have hc := cell_of_row _ b 2 _ _ _ hSw.1; go_simp⟩
        simp only [Act.put, List.setIfInBounds_toArray, List.set_cons_zero, List.set_cons_succ]
        refine wpAnyL_take (i := 5) (oi := ?oi7) (v := .agg (beC (X, f, m)).toArray) ?hi7 (by kernel_rfl) (by kernel_rfl) (by kernel_rfl) (by kernel_rfl) hcl5 (fun _ _ _ h => h) ?hy7 hS1 (fun hcl6 => ?_)
        case hi7 => simp only [List.getElem?_toArray, List.getElem?_cons_succ, List.getElem?_cons_zero]; rfl
        case hy7 => 
          refine yieldsIf_load_mid ?w7 _ ?x7 ?o7 E 0 ?e7 (beC (X, f, m)) _ ?s7 Try.underlying38 rfl infoBE
          case o7 => rfl
          case w7 => rfl
          case e7 => rfl
          case s7 => intro _ hSw; exact range_row hSw.2
        simp only [Act.put, List.setIfInBounds_toArray, List.set_cons_zero, List.set_cons_succ]
        try simp only [Array.toArray_toList]
        clear hcl0 hcl1 hcl2 hcl3 hcl4 hcl5 hcl6
        refine wpAnyL_one (i := 6) (o := ?oi8) (by kernel_rfl) ?hi8 ?hw8 ?step8
        case hi8 => simp only [List.getElem?_toArray, List.getElem?_cons_succ, List.getElem?_cons_zero]; rfl
        case hw8 => rfl
        intro K hK
        unfold beC
        go_simp
        have hb6 : Below w3.heap.size w3 (w3.alloc (.cells #[.int .i64 X, .int .i64 f, .int .i64 m] 38)).drew := ((Below.refl _ w3).alloc (Nat.le_refl _) _).drew
        have hn6 : EntAt (w3.alloc (.cells #[.int .i64 X, .int .i64 f, .int .i64 m] 38)).drew w3.heap.size 38 (X, f, m) := heap_alloc_new w3 (.cells #[.int .i64 X, .int .i64 f, .int .i64 m] 38)
        have hvlt : ∀ k, some k = (Value.slice ao n cap).ownBlock → k < w.heap.size := fun k hk => HI.out.own.lt hk
        have HVL := hid hvlt
        have hw3 := HB3.out.size
        have hE3 := HX3.out.lt
        generalize (w3.alloc (.cells #[.int .i64 X, .int .i64 f, .int .i64 m] 38)).drew = w6 at *
        have HN6 := hid hn6
        have HI6 := hid (HI3.out.below hb6)
        have HE6 := hid (HE3.out.below hb6)
        have HX6 := hid (HX3.out.below hb6)
        have HB6 := hid (HB3.out.trans (hb6.mono hw3))
        clear hb6 hn6 hvlt HE3 HX3 HI3 HB3
        refine hK.out _ _ (fun _ => ⟨HI6.out.row, HX6.out⟩) ?_
        clear hK K hS1
        try simp only [Act.put, List.setIfInBounds_toArray, List.set_cons_zero, List.set_cons_succ]
        refine wpAnyL_one (i := 7) (o := ?oi9) (by kernel_rfl) ?hi9 ?hw9 ?step9
        case hi9 => simp only [List.getElem?_toArray, List.getElem?_cons_succ, List.getElem?_cons_zero]; rfl
        case hw9 => rfl
        intro K hK
        refine wp_appEnt eBox _ _ rfl (.slice ao n cap) L rfl HI6.out.own w3.heap.size _ rfl HN6.out (by rw [HN.out]; omega) ?_
        intro v' w7 ho7 hg7 hv7
        have hne7 : ∀ k, w.heap.size ≤ k ∨ k = b → some k ≠ (Value.slice ao n cap).ownBlock := by
          rintro k (hk | rfl) e
          · have := HVL.out k e; omega
          · exact HI.out.ne e
        have hr7 := (hg7.block b HI6.out.lt (hne7 b (Or.inr rfl))).trans HI6.out.row
        have hx7 : EntAt w7 E 38 (X, f, m) := (hg7.block E HX6.out.lt (hne7 E (Or.inl hw2))).trans HX6.out
        have he7 : EntAt w7 w.heap.size 38 (0, 0, 0) := (hg7.block _ HE6.out.lt (hne7 _ (Or.inl (Nat.le_refl _)))).trans HE6.out
        refine hK.out _ _ (fun _ => ⟨hr7, hx7⟩) ?_
        clear hK K
        try simp only [Act.put, List.setIfInBounds_toArray, List.set_cons_zero, List.set_cons_succ]
        refine wpAnyL_one (i := 8) (o := ?oi10) (by kernel_rfl) ?hi10 ?hw10 ?step10
        case hi10 => simp only [List.getElem?_toArray, List.getElem?_cons_succ, List.getElem?_cons_zero]; rfl
        case hw10 => rfl
        intro K hK
        go_simp
        refine hK.out _ _ (fun _ => ⟨hr7, hx7⟩) ?_
        clear hK K
        try simp only [Act.put, List.setIfInBounds_toArray, List.set_cons_zero, List.set_cons_succ]
        refine wpAnyL_one (i := 9) (o := ?oi11) (by kernel_rfl) ?hi11 ?hw11 ?step11
        case hi11 => simp only [List.getElem?_toArray, List.getElem?_cons_succ, List.getElem?_cons_zero]; rfl
        case hw11 => rfl
        intro K hK
        go_simp
        refine hK.out _ _ (fun _ => ⟨hr7, hx7⟩) ?_
        clear hK K
        try simp only [Act.put, List.setIfInBounds_toArray, List.set_cons_zero, List.set_cons_succ]
        refine wpAnyL_one (i := 10) (o := ?oi12) (by kernel_rfl) ?hi12 ?hw12 ?step12
        case hi12 => simp only [List.getElem?_toArray, List.getElem?_cons_succ, List.getElem?_cons_zero]; rfl
        case hw12 => rfl
        intro K hK
        have hfz := frozen_of_row w7 b 2 _ _ hr7
        have hcz : w7.cell? ⟨b, 2, none⟩ = some (.slice ao n cap) := by rw [cell_of_row _ b 2 _ _ _ hr7]; rfl
        obtain ⟨ao7, cp7, hvv7⟩ := ownsRow_slice ho7
        have hvb : ∀ k, some k = v'.ownBlock → k < w.heap.size ∨ w3.heap.size < k := fun k hk => by
          rcases hv7 k hk with h1 | h1
          · exact Or.inl (HVL.out k h1)
          · have := HN6.out.lt; exact Or.inr (by omega)
        have hto7 : BxTo w b (.slice ao n cap) w7 v' := (BxTo.below HB6.out).trans ⟨⟨hg7.os, hg7.tape, hg7.output, hg7.size, fun k hk hp => hg7.block k hk (fun e => hp (Or.inr e))⟩, hv7⟩
        have hvnb : ∀ k, some k = v'.ownBlock → k ≠ b := by
          intro k hk he
          subst he
          rcases hv7 k hk with h1 | h1
          · exact HI.out.ne h1
          · have := HI6.out.lt; omega
        rw [List.length_append, List.length_singleton, HN.out] at hvv7
        subst hvv7
        go_simp
        refine hK.out _ _ (fun h => absurd rfl h) ?_
        clear hK K
        try simp only [Act.put, List.setIfInBounds_toArray, List.set_cons_zero, List.set_cons_succ]
        refine wpAnyL_done (by kernel_rfl) ?_ _
        refine NoPanic.normal ?_
        generalize hv' : Value.slice ao7 (n + 1) cp7 = v' at *
        generalize hW8 : w7.setCell _ _ = w8
        have hk8 : KeptQ (fun k => k = b) w7 w8 := by rw [← hW8]; exact KeptQ.setCell _ _ _ rfl
        have hrow8 : w8.heap[b]? = some (.cells #[.int .i64 V, .int .i64 X, v'] 62 (0, 0)) := by
          rw [← hW8, heap_setCell_same _ b 2 _ _ _ hr7]
          rfl
        have hx8 : EntAt w8 E 38 (X, f, m) := (hk8.block E hx7.lt (fun e => hbE e.symm)).trans hx7
        have he8 : EntAt w8 w.heap.size 38 (0, 0, 0) := (hk8.block _ he7.lt (by show ¬ w.heap.size = b; omega)).trans he7
        have ho8 : OwnB w8 38 v' (L ++ [(X, f, m)]) := OwnB.at ho7 (fun g hg => hk8.block g (OwnB.lt ho7 hg) (hvnb g hg))
        have H8 := hid (show IsB w8 b v' V X (L ++ [(X, f, m)]) from ⟨hrow8, ho8⟩)
        have HT8 := hid (hto7.trans (BxTo.of hk8 (fun k hk => Or.inl hk)))
        have HX8 := hid hx8
        have HE8 := hid he8
        have HVB := hid hvb
        have HVN := hid hvnb
        clear hW8 hk8 hrow8 hx8 he8 ho8 hto7 hvb hvnb hcz hfz hr7 hx7 he7 hv' ho7 hg7 hv7 hne7 HN6 HI6 HE6 HX6 HB6
        have c1 := H8.out.c1
        have f1 := H8.out.fr 1
        have hwX : IntKind.i64.wrap (X + 1) = X + 1 := by rw [IntKind.wrap_i64]; omega
        go_upto_region 8 with (fail)
        have hr8 := H8.out.row
        generalize hW9 : w8.setCell _ _ = w9
        have hk9 : KeptQ (fun k => k = b) w8 w9 := by rw [← hW9]; exact KeptQ.setCell _ _ _ rfl
        have hrow9 : w9.heap[b]? = some (.cells #[.int .i64 V, .int .i64 (X + 1), v'] 62 (0, 0)) := by
          rw [← hW9, heap_setCell_same _ b 1 _ _ _ hr8]
          rfl
        have hx9 : EntAt w9 E 38 (X, f, m) := (hk9.block E HX8.out.lt (fun e => hbE e.symm)).trans HX8.out
        have he9 : EntAt w9 w.heap.size 38 (0, 0, 0) := (hk9.block _ HE8.out.lt (by show ¬ w.heap.size = b; omega)).trans HE8.out
        have H9 := hid (show IsB w9 b v' V (X + 1) (L ++ [(X, f, m)]) from ⟨hrow9, H8.out.own.at (fun g hg => hk9.block g (H8.out.own.lt hg) (HVN.out g hg))⟩)
        have HT9 := hid (HT8.out.trans (BxTo.of hk9 (fun k hk => Or.inl hk)))
        have HX9 := hid hx9
        have HE9 := hid he9
        clear hW9 hk9 hrow9 hx9 he9 H8 HT8 HX8 HE8 c1 f1 hr8
        obtain ⟨q0, q1, q2⟩ := HX9.out.c
        dsimp only at q0 q1 q2
        obtain ⟨⟨z0, s0⟩, f0, s1, f1, s2, f2⟩ := HE9.out.wr
        go_wp2
        refine ret_ent Try.results14 _ _ w.heap.size (X, f, m) (.int .i64 0) ?_ (HE9.out.set X f m) ?_ ?_ ?_
        · rfl
        · rfl
        · rfl
        have hk5 := EntAt.kept (w := w9) (B := w.heap.size) X f m
        have hs9 := HT9.out.1.size
        refine ⟨rfl, v', H9.out.kept hk5 ?_, ⟨⟨hk5.os.trans HT9.out.1.os, hk5.tape.trans HT9.out.1.tape, hk5.output.trans HT9.out.1.output, Nat.le_trans hs9 hk5.size, fun k hk hn => (hk5.block k (by omega) (by show ¬ k = w.heap.size; omega)).trans (HT9.out.1.block k hk hn)⟩, HT9.out.2⟩⟩
        rintro k (rfl | hk)
        · show ¬ k = w.heap.size; omega
        · have := HVB.out k hk; show ¬ k = w.heap.size; omega
      · have hE : Bv.addE L m f = 8 := by unfold Bv.addE; rw [hm, hf, hn, if_neg h256]; rfl
        have hR : Bv.addR X L m f = (0, 0, 0) ∧ Bv.addX X L m f = X ∧ Bv.addL X L m f = L := by unfold Bv.addR Bv.addX Bv.addL; rw [hE]; exact ⟨rfl, rfl, rfl⟩
        rw [hR.1, hR.2.1, hR.2.2, hE]
        clear hR hE
        have HN := hid hn
        have hi : ¬ (n : Int) < 256 := by omega
        clear hm hf hn
        go_enter Try.func14, Try.ntmps14
        go_upto_region 1 with (fail)
        have HB0 := hid ((Below.refl w.heap.size w).alloc (Nat.le_refl _) (.cells #[.int .i64 0, .int .i64 0, .int .i64 0] 38))
        have HE0 := hid (show EntAt (w.alloc (.cells #[.int .i64 0, .int .i64 0, .int .i64 0] 38)) w.heap.size 38 (0, 0, 0) from heap_alloc_new _ _)
        generalize w.alloc _ = w0 at *
        go_wp2_with fail
        refine (HC.out w0).mono ?_
        rintro e w1 ⟨rfl, rfl⟩
        have HB1 := hid (HB0.out.trans (((Below.refl w1.heap.size w1).alloc (Nat.le_refl _) (.cells #[.int .i64 f] 3)).mono HB0.out.size))
        have HE1 := hid (HE0.out.below ((Below.refl w1.heap.size w1).alloc (Nat.le_refl _) (.cells #[.int .i64 f] 3)))
        go_wp2_with fail
        refine (HFX.out _).mono ?_
        rintro e w2 ⟨rfl, rfl⟩
        generalize w1.alloc _ = w2 at *
        clear HB0 HE0 HC HFX
        have HI2 := hid (HI.out.below HB1.out)
        have c2 := HI2.out.c2
        obtain ⟨⟨z0, s0⟩, f0, s1, f1, s2, f2⟩ := HE1.out.wr
        go_wp2
        refine ret_ent Try.results14 _ _ w.heap.size (0, 0, 0) (.int .i64 8) ?_ (HE1.out.set 0 0 0) ?_ ?_ ?_
        · rfl
        · rfl
        · rfl
        have hb := (EntAt.kept 0 0 0).below' HB1.out
        exact ⟨_, rfl, HI.out.below hb, BxTo.below hb⟩
end Go.Proofs.Ytlfjhpmachblkaa
