/-
  Layer 18: what the reference's Add returns.
-/
import Derived.Test.YtlfjhpmachblkaaBx14
import Derived.OrdersHeld
import Derived.Deep.RegionHeld
namespace Go.Proofs.Ytlfjhpmachblkaa
open Go.ChangeShapes Go.WideShapes Go.ChangeAt Go.RowKit
open Go.Lib (hid)

attribute [local go_sem] Oper.semAt_some

/-- Entries of another row are appended. -/
theorem run_append_ents {T sT : TypeId} (hT : EType T sT) (ty : TypeId) (w : World) (v : Value) (l : List Bv.E) (hown : OwnB w T v l) (x : Value) (ys : List Bv.E) (hx : OwnB w T x ys) (hlen : l.length + ys.length ≤ 5000) :
    ∃ v' w', (Builtin.append_ #[sT, sT] ty #[v, x]).run Try.prog w = .ok v' w' ∧ OwnB w' T v' (l ++ ys) ∧ w.grownBy w' v.ownBlock ∧ VNext w v v' := by
  by_cases hy : ys = []
  · subst hy
    obtain ⟨i, hi, hz0, hz1, hz2⟩ := info_parts hT.info
    obtain ⟨h1, h2⟩ := hx
    have hxs : ∃ ao c, x = .slice ao 0 c := by
      rcases h2 with ⟨hv, _⟩ | ⟨g, cap, cur, hv, _⟩
      · exact ⟨_, _, hv⟩
      · exact ⟨_, _, hv⟩
    obtain ⟨ao, c, rfl⟩ := hxs
    have hvs : ∃ bo n cp, v = .slice bo n cp ∧ n ≤ cp := by
      obtain ⟨_, ⟨hv, h0⟩ | ⟨g, cap, cur, hv, _, _, hn, _⟩⟩ := hown
      · exact ⟨none, 0, 0, hv, Nat.le_refl _⟩
      · exact ⟨_, _, _, hv, hn⟩
    obtain ⟨bo, n, cp, rfl, hn⟩ := hvs
    refine ⟨.slice bo n cp, w, ?_, by rw [List.append_nil]; exact hown, ⟨rfl, rfl, rfl, Nat.le_refl _, fun _ _ _ => rfl⟩, VNext.refl _ _⟩
    have hu := hT.under
    cases bo <;> cases ao <;> simp [Builtin.append_, run_underlying hu, sizeOf, typeInfo, hi, Builtin.lenOf, Builtin.firstCells, hn, storeCells, loadCells, loadCellsFrom]
  · obtain ⟨h1, ⟨hv, h0⟩ | ⟨g, cap, cur, hv, hg, hh, hn, hm, hs, hc⟩⟩ := hx
    · exact absurd (List.eq_nil_of_length_eq_zero h0) hy
    · subst hv
      refine run_append_ent hT ty w v l hown ⟨g, 0, none⟩ cap ys (fun j u hj => ?_) hy hlen
      have hlt : j < ys.length * 3 := by rw [← h1]; exact (List.getElem?_eq_some_iff.1 hj).1
      rw [← hc, List.getElem?_take, if_pos hlt, Array.getElem?_toList] at hj
      rw [Addr.add_lit, Nat.zero_add]
      exact (cell_of_row w g j cur _ _ hh).trans hj
theorem wp_appEnts {T sT : TypeId} (hT : EType T sT) {w : World} {o : Oper} {a : Act} {K : Act → World → Prop} {Q : Exit → Act → World → Prop} (s x : Operand)
    (ho : o.op = .call { callee := .builtin .append, args := #[s, x], argTypes := #[sT, sT] })
    (v : Value) (l : List Bv.E) (hs : a.eval s = v) (hown : OwnB w T v l)
    (xv : Value) (ys : List Bv.E) (hx : a.eval x = xv) (hxo : OwnB w T xv ys) (hlen : l.length + ys.length ≤ 5000)
    (h : ∀ v' w', OwnB w' T v' (l ++ ys) → w.grownBy w' v.ownBlock → VNext w v v' → K (a.put o.dst v') w') : o.wp Try.prog a w K Q := by
  obtain ⟨v', w', hr, h2, h3, h4⟩ := run_append_ents hT o.type w v l hown xv ys hxo hlen
  unfold Oper.wp execOp
  simp only [ho, resolve, invoke, builtin, Sem.run_bind, Sem.run_pure, Result.andThen_ok, List.map_toArray, List.map_cons, List.map_nil, hs, hx, hr]
  exact h v' w' h2 h3 h4


set_option maxHeartbeats 4000000 in
set_option maxRecDepth 100000 in
theorem radd18_any (V X : Int) (v : Value) (L : List Bv.E) (m f : Int) (w : World) (h : OwnB w 63 v L) (hl : L.length ≤ 1000) (hX : 0 ≤ X ∧ X < 4611686018427387904) :
    Calls Try.prog 27 #[rbV V X v, .int .i64 m, .int .i64 f] w fun e w' => ∃ vl, e = .returned (.tuple #[rbV V (Bv.addX X L m f) vl, beV (Bv.addR X L m f), .int .i64 (Bv.addE L m f : Nat)]) ∧ OwnB w' 63 vl (Bv.addL X L m f) ∧ Below w.heap.size w w' := by
  have HO := hid h
  clear h
  obtain ⟨ao, cap, hv⟩ := ownsRow_slice HO.out
  obtain ⟨n, hn⟩ : ∃ n, L.length = n := ⟨_, rfl⟩
  rw [hn] at hv hl
  subst hv
  unfold rbV beV
  by_cases hmf : (Bv.okc m && Bv.fl f) = true
  · have hm : 1 ≤ m ∧ m ≤ 1099511627776 := Bv.okc_le (by cases h1 : Bv.okc m <;> simp_all)
    have hf : 0 ≤ f ∧ f ≤ 31 := Bv.fl_le (by cases h1 : Bv.fl f <;> simp_all)
    by_cases h256 : n < 256
    · have hE : Bv.addE L m f = 0 := by unfold Bv.addE; rw [if_pos hmf, hn, if_pos h256]
      have hR : Bv.addR X L m f = (X, f, m) ∧ Bv.addX X L m f = X + 1 ∧ Bv.addL X L m f = L ++ [(X, f, m)] := by unfold Bv.addR Bv.addX Bv.addL; rw [hE]; exact ⟨rfl, rfl, rfl⟩
      rw [hR.1, hR.2.1, hR.2.2, hE]
      have HN := hid hn
      clear hE hR hmf hn
      go_enter Try.func27, Try.ntmps27
      go_upto_region 1 with (fail)
      generalize hW0 : World.alloc _ _ = w0
      obtain ⟨b0, b1, b2, hb0, hs0⟩ := three_blocks w _ _ _ w0 hW0
      have R0 := hid (show RbAt w0 w.heap.size V X (.slice ao n cap) from b0)
      have R1 := hid (show RbAt w0 (w.heap.size + 1) 0 0 (.slice none 0 0) from b1)
      have E2 := hid (show EntAt w0 (w.heap.size + 1 + 1) 63 (0, 0, 0) from b2)
      have HB0 := hid hb0
      have HS0 := hid hs0
      have OV := hid (HO.out.below hb0)
      clear hW0 b0 b1 b2 hb0 hs0
      obtain ⟨c0, c1, c2⟩ := R0.out.c
      go_upto_region 6 with (fail)
      clear c0 c1 c2
      have hz3 := HS0.out
      generalize hW1 : World.alloc _ _ = w1
      have hb1 : Below w0.heap.size w0 w1 := by rw [← hW1]; exact (Below.refl _ _).alloc (Nat.le_refl _) _
      have E3 := hid (show EntAt w1 w0.heap.size 63 (X, f, m) from by rw [← hW1]; exact heap_alloc_new _ _)
      have R10 := hid (R0.out.below hb1)
      have R11 := hid (R1.out.below hb1)
      have E12 := hid (E2.out.below hb1)
      have OV1 := hid (OV.out.below hb1)
      have HB1 := hid (HB0.out.trans (hb1.mono HB0.out.size))
      clear hW1 hb1 R0 R1 E2 OV HB0 HS0
      generalize w0.heap.size = z3 at *
      have hwX : IntKind.i64.wrap (X + 1) = X + 1 := by rw [IntKind.wrap_i64]; omega
      refine wp_region_noPanic ?_
      refine wp_region_held_drew (S := fun W : World => RbAt W w.heap.size V X (.slice ao n cap) ∧ EntAt W z3 63 (X, f, m)) (by kernel_rfl) (⟨R10.out, E3.out⟩) (fun hS1 => ?_)
      change wpAnyH _ _ _ _ _ 17 _ _ _
      refine wpAnyH_take (i := 0) (oi := ?oi2) (v := .pointer (some ⟨w.heap.size, 0, none⟩)) ?hi2 (by kernel_rfl) (by kernel_rfl) (by kernel_rfl) (fun _ _ _ h => h) ?hy2 hS1 ?rest2
      case hi2 => simp only [List.getElem?_toArray, List.getElem?_cons_zero]; rfl
      case hy2 => exact Or.inl ⟨rfl, fun _ hSw => by go_simp⟩
      simp only [Act.put, List.setIfInBounds_toArray, List.set_cons_zero, List.set_cons_succ]
      refine wpAnyH_take (i := 1) (oi := ?oi3) (v := .int .i64 V) ?hi3 (by kernel_rfl) (by kernel_rfl) (by kernel_rfl) (fun _ _ _ h => h) ?hy3 hS1 ?rest3
      case hi3 => simp only [List.getElem?_toArray, List.getElem?_cons_succ, List.getElem?_cons_zero]; rfl
      case hy3 => exact Or.inl ⟨rfl, fun _ hSw => by have hc := hSw.1.c.1; go_simp⟩
      simp only [Act.put, List.setIfInBounds_toArray, List.set_cons_zero, List.set_cons_succ]
      refine wpAnyH_take (i := 2) (oi := ?oi4) (v := .pointer (some ⟨w.heap.size, 1, none⟩)) ?hi4 (by kernel_rfl) (by kernel_rfl) (by kernel_rfl) (fun _ _ _ h => h) ?hy4 hS1 ?rest4
      case hi4 => simp only [List.getElem?_toArray, List.getElem?_cons_succ, List.getElem?_cons_zero]; rfl
      case hy4 => exact Or.inl ⟨rfl, fun _ hSw => by go_simp⟩
      simp only [Act.put, List.setIfInBounds_toArray, List.set_cons_zero, List.set_cons_succ]
      refine wpAnyH_take (i := 3) (oi := ?oi5) (v := .int .i64 X) ?hi5 (by kernel_rfl) (by kernel_rfl) (by kernel_rfl) (fun _ _ _ h => h) ?hy5 hS1 ?rest5
      case hi5 => simp only [List.getElem?_toArray, List.getElem?_cons_succ, List.getElem?_cons_zero]; rfl
      case hy5 => exact Or.inl ⟨rfl, fun _ hSw => by have hc := hSw.1.c.2.1; go_simp⟩
      simp only [Act.put, List.setIfInBounds_toArray, List.set_cons_zero, List.set_cons_succ]
      refine wpAnyH_take (i := 4) (oi := ?oi6) (v := .int .i64 (X + 1)) ?hi6 (by kernel_rfl) (by kernel_rfl) (by kernel_rfl) (fun _ _ _ h => h) ?hy6 hS1 ?rest6
      case hi6 => simp only [List.getElem?_toArray, List.getElem?_cons_succ, List.getElem?_cons_zero]; rfl
      case hy6 => exact Or.inl ⟨rfl, fun _ hSw => by go_simp⟩
      simp only [Act.put, List.setIfInBounds_toArray, List.set_cons_zero, List.set_cons_succ]
      refine wpAnyH_take (i := 6) (oi := ?oi7) (v := .pointer (some ⟨w.heap.size, 2, none⟩)) ?hi7 (by kernel_rfl) (by kernel_rfl) (by kernel_rfl) (fun _ _ _ h => h) ?hy7 hS1 ?rest7
      case hi7 => simp only [List.getElem?_toArray, List.getElem?_cons_succ, List.getElem?_cons_zero]; rfl
      case hy7 => exact Or.inl ⟨rfl, fun _ hSw => by go_simp⟩
      simp only [Act.put, List.setIfInBounds_toArray, List.set_cons_zero, List.set_cons_succ]
      refine wpAnyH_take (i := 7) (oi := ?oi8) (v := .slice ao n cap) ?hi8 (by kernel_rfl) (by kernel_rfl) (by kernel_rfl) (fun _ _ _ h => h) ?hy8 hS1 ?rest8
      case hi8 => simp only [List.getElem?_toArray, List.getElem?_cons_succ, List.getElem?_cons_zero]; rfl
      case hy8 => exact Or.inl ⟨rfl, fun _ hSw => by have hc := hSw.1.c.2.2; go_simp⟩
      simp only [Act.put, List.setIfInBounds_toArray, List.set_cons_zero, List.set_cons_succ]
      refine wpAnyH_take (i := 9) (oi := ?oi9) (v := .agg (beC (X, f, m)).toArray) ?hi9 (by kernel_rfl) (by kernel_rfl) (by kernel_rfl) (fun _ _ _ h => h) ?hy9 hS1 ?rest9
      case hi9 => simp only [List.getElem?_toArray, List.getElem?_cons_succ, List.getElem?_cons_zero]; rfl
      case hy9 => 
        refine yieldsIf_load_mid ?w9 _ ?x9 ?o9 z3 0 ?e9 (beC (X, f, m)) _ ?s9 Try.underlying63 rfl infoRE
        case o9 => rfl
        case w9 => rfl
        case e9 => rfl
        case s9 => intro _ hSw; exact range_row hSw.2
      simp only [Act.put, List.setIfInBounds_toArray, List.set_cons_zero, List.set_cons_succ]
      try simp only [Array.toArray_toList]
      refine wpAnyH_take (i := 13) (oi := ?oi10) (v := .agg (beC (X, f, m)).toArray) ?hi10 (by kernel_rfl) (by kernel_rfl) (by kernel_rfl) (fun _ _ _ h => h) ?hy10 hS1 ?rest10
      case hi10 => simp only [List.getElem?_toArray, List.getElem?_cons_succ, List.getElem?_cons_zero]; rfl
      case hy10 => 
        refine yieldsIf_load_mid ?w10 _ ?x10 ?o10 z3 0 ?e10 (beC (X, f, m)) _ ?s10 Try.underlying63 rfl infoRE
        case o10 => rfl
        case w10 => rfl
        case e10 => rfl
        case s10 => intro _ hSw; exact range_row hSw.2
      simp only [Act.put, List.setIfInBounds_toArray, List.set_cons_zero, List.set_cons_succ]
      try simp only [Array.toArray_toList]
      have b1 : Below w1.heap.size w1 w1.drew := (Below.refl _ _).drew
      generalize w1.drew = wd at *
      refine wpAnyH_ready (rs := [5, 10]) (by kernel_rfl) (by simp) ?_
      refine AllReadyH.cons (o := ?oia_5) ?hia_5 ?stepa_5 (AllReadyH.cons (o := ?oia_10) ?hia_10 ?stepa_10 AllReadyH.nil)
      case hia_5 => simp only [List.getElem?_toArray, List.getElem?_cons_succ, List.getElem?_cons_zero]; rfl
      case hia_10 => simp only [List.getElem?_toArray, List.getElem?_cons_succ, List.getElem?_cons_zero]; rfl
      case stepa_5 =>
        intro K hK
        go_simp
        generalize hWn : World.alloc _ _ = ub2
        have b2 : Below w1.heap.size w1 ub2 := by rw [← hWn]; exact b1.alloc b1.size _
        have o2 := OwnB.empty (T := 63) (show ub2.heap[_]? = some (Obj.cells #[] 63 (0, 0)) from by rw [← hWn]; exact heap_alloc_new _ _)
        have g2 : ∀ k, some k = (Value.slice (some ⟨wd.heap.size, 0, none⟩) 0 0).ownBlock → w1.heap.size ≤ k := fun k hk => by have h5 : k = wd.heap.size := Option.some.inj hk; rw [h5]; exact b1.size
        have kb2 : Below wd.heap.size wd ub2 := by rw [← hWn]; exact (Below.refl _ _).alloc (Nat.le_refl _) _
        clear hWn
        refine hK.out _ _ ⟨R10.out.below b2, E3.out.below b2⟩ (fun hb2 => ?_)
        clear hK K
        try simp only [Act.put, List.setIfInBounds_toArray, List.set_cons_zero, List.set_cons_succ]
        refine wpAnyH_ready (rs := [8, 10]) (by kernel_rfl) (by simp) ?_
        refine AllReadyH.cons (o := ?oib_8) ?hib_8 ?stepb_8 (AllReadyH.cons (o := ?oib_10) ?hib_10 ?stepb_10 AllReadyH.nil)
        case hib_8 => simp only [List.getElem?_toArray, List.getElem?_cons_succ, List.getElem?_cons_zero]; rfl
        case hib_10 => simp only [List.getElem?_toArray, List.getElem?_cons_succ, List.getElem?_cons_zero]; rfl
        case stepb_8 =>
          intro K hK
          refine wp_appEnts eRef _ _ rfl _ [] rfl o2 (.slice ao n cap) L rfl (OV1.out.below b2) (by rw [HN.out]; simp; omega) ?_
          intro v8 ub3 hoA hgA hnA
          rw [List.nil_append] at hoA
          have b3 : Below w1.heap.size w1 ub3 := b2.grown hgA b2.size (fun k hk => g2 k hk.symm)
          have fb3 : ∀ k, some k = v8.ownBlock → w1.heap.size ≤ k := fun k hk => by
            rcases hnA k hk with h1 | h1
            · exact g2 k h1
            · exact Nat.le_trans b2.size h1
          refine hK.out _ _ ⟨R10.out.below b3, E3.out.below b3⟩ (fun hb3 => ?_)
          clear hK K
          try simp only [Act.put, List.setIfInBounds_toArray, List.set_cons_zero, List.set_cons_succ]
          refine wpAnyH_ready (rs := [10]) (by kernel_rfl) (by simp) ?_
          refine AllReadyH.cons (o := ?oic_10) ?hic_10 ?stepc_10 AllReadyH.nil
          case hic_10 => simp only [List.getElem?_toArray, List.getElem?_cons_succ, List.getElem?_cons_zero]; rfl
          intro K hK
          try unfold beC
          go_simp
          generalize hWn : World.alloc _ _ = ub4
          have b4 : Below w1.heap.size w1 ub4 := by rw [← hWn]; exact b3.alloc b3.size _
          have e4 : EntAt ub4 ub3.heap.size 63 (X, f, m) := by rw [← hWn]; exact heap_alloc_new _ _
          have kb4 : Below ub3.heap.size ub3 ub4 := by rw [← hWn]; exact (Below.refl _ _).alloc (Nat.le_refl _) _
          have zb4 := b3.size
          clear hWn
          refine hK.out _ _ ⟨R10.out.below b4, E3.out.below b4⟩ (fun hb4 => ?_)
          clear hK K
          try simp only [Act.put, List.setIfInBounds_toArray, List.set_cons_zero, List.set_cons_succ]
          refine wpAnyH_ready (rs := [11]) (by kernel_rfl) (by simp) ?_
          refine AllReadyH.cons (o := ?oid_11) ?hid_11 ?stepd_11 AllReadyH.nil
          case hid_11 => simp only [List.getElem?_toArray, List.getElem?_cons_succ, List.getElem?_cons_zero]; rfl
          intro K hK
          refine wp_appEnt eRef _ _ rfl v8 L rfl (OwnB.below hoA kb4) _ (X, f, m) rfl e4 (by rw [HN.out]; omega) ?_
          intro v11 u11 hoB hgB hnB
          have b11 : Below w1.heap.size w1 u11 := b4.grown hgB b4.size (fun k hk => fb3 k hk.symm)
          have f11 : ∀ k, some k = v11.ownBlock → w1.heap.size ≤ k := fun k hk => by
            rcases hnB k hk with h1 | h1
            · exact fb3 k h1
            · exact Nat.le_trans b4.size h1
          obtain ⟨ao11, cp11, hv11⟩ := ownsRow_slice hoB
          rw [List.length_append, List.length_singleton, HN.out] at hv11
          subst hv11
          refine hK.out _ _ ⟨R10.out.below b11, E3.out.below b11⟩ (fun h11 => ?_)
          clear hK K
          try simp only [Act.put, List.setIfInBounds_toArray, List.set_cons_zero, List.set_cons_succ]
          refine wpAnyH_ready (rs := [12]) (by kernel_rfl) (by simp) ?_
          refine AllReadyH.cons (o := ?oiu15_12) ?hiu15_12 ?stepu15_12 AllReadyH.nil
          case hiu15_12 => simp only [List.getElem?_toArray, List.getElem?_cons_succ, List.getElem?_cons_zero]; rfl
          intro K hK
          go_simp
          refine hK.out _ _ ⟨R10.out.below b11, E3.out.below b11⟩ (fun h12 => ?_)
          clear hK K
          try simp only [Act.put, List.setIfInBounds_toArray, List.set_cons_zero, List.set_cons_succ]
          have R21 := R11.out.below b11
          have E22 := E12.out.below b11
          have hfin := set33' (w := w) R21 E22 hoB (HB1.out.trans (b11.mono HB1.out.size)) (by omega) (by omega) (by omega) (fun e => by have := f11 _ e; have := E3.out.lt; omega) V (X + 1) (.slice ao11 (n + 1) cp11) X f m
          have HFIN := hid (show _ from hfin)
          clear hfin
          obtain ⟨⟨z0, s0⟩, f0, s1, f1, s2, f2⟩ := R21.wr
          have hE3 := E3.out.lt
          have hk14 := set3_kept (w := u11) (B := w.heap.size + 1) (.int .i64 V) (.int .i64 (X + 1)) (.slice ao11 (n + 1) cp11)
          have E23 := E22.wr2 (B := w.heap.size + 1) (by omega) (.int .i64 V) (.int .i64 (X + 1)) (.slice ao11 (n + 1) cp11)
          refine wpAnyH_ready (rs := [14]) (by kernel_rfl) (by simp) ?_
          refine AllReadyH.cons (o := ?oiu16_14) ?hiu16_14 ?stepu16_14 AllReadyH.nil
          case hiu16_14 => simp only [List.getElem?_toArray, List.getElem?_cons_succ, List.getElem?_cons_zero]; rfl
          intro K hK
          go_simp
          refine hK.out _ _ ⟨h12.1.other hk14 (by omega), h12.2.other hk14 (by omega)⟩ (fun h14 => ?_)
          clear hK K
          try simp only [Act.put, List.setIfInBounds_toArray, List.set_cons_zero, List.set_cons_succ]
          obtain ⟨⟨y0, t0⟩, g0, t1, g1, t2, g2⟩ := E23.wr
          have hk15 := EntAt.kept (w := ((u11.setCell ⟨w.heap.size + 1, 0, none⟩ (.int .i64 V)).setCell ⟨w.heap.size + 1, 1, none⟩ (.int .i64 (X + 1))).setCell ⟨w.heap.size + 1, 2, none⟩ (.slice ao11 (n + 1) cp11)) (B := w.heap.size + 1 + 1) X f m
          refine wpAnyH_ready (rs := [15]) (by kernel_rfl) (by simp) ?_
          refine AllReadyH.cons (o := ?oiu17_15) ?hiu17_15 ?stepu17_15 AllReadyH.nil
          case hiu17_15 => simp only [List.getElem?_toArray, List.getElem?_cons_succ, List.getElem?_cons_zero]; rfl
          intro K hK
          try unfold beC
          go_simp
          refine hK.out _ _ ⟨h14.1.other hk15 (by omega), h14.2.other hk15 (by omega)⟩ (fun h15 => ?_)
          clear hK K
          try simp only [Act.put, List.setIfInBounds_toArray, List.set_cons_zero, List.set_cons_succ]
          refine wpAnyH_ready (rs := [16]) (by kernel_rfl) (by simp) ?_
          refine AllReadyH.cons (o := ?oiu18_16) ?hiu18_16 ?stepu18_16 AllReadyH.nil
          case hiu18_16 => simp only [List.getElem?_toArray, List.getElem?_cons_succ, List.getElem?_cons_zero]; rfl
          intro K hK
          go_simp
          refine hK.out _ _ h15 (fun h16 => ?_)
          clear hK K
          try simp only [Act.put, List.setIfInBounds_toArray, List.set_cons_zero, List.set_cons_succ]
          refine wpAnyH_done (by kernel_rfl) ?_ _
          refine NoPanic.normal ?_
          clear h16 h15 h14 h12 h11 hk14 hk15 E23 s0 s1 s2 f0 f1 f2 t0 t1 t2 g0 g1 g2
          generalize World.setCell _ _ _ = w20 at *
          go_wp2
          refine ret_rbox Try.results27 _ _ (w.heap.size + 1) (w.heap.size + 1 + 1) V (X + 1) (.slice ao11 (n + 1) cp11) (X, f, m) (.int .i64 0) ?_ HFIN.out.1 ?_ HFIN.out.2.1 ?_ ?_ ⟨_, rfl, HFIN.out.2.2.1, HFIN.out.2.2.2⟩
          all_goals rfl
        case stepb_10 =>
          intro K hK
          try unfold beC
          go_simp
          generalize hWn : World.alloc _ _ = ub3
          have b3 : Below w1.heap.size w1 ub3 := by rw [← hWn]; exact b2.alloc b2.size _
          have e3 : EntAt ub3 ub2.heap.size 63 (X, f, m) := by rw [← hWn]; exact heap_alloc_new _ _
          have kb3 : Below ub2.heap.size ub2 ub3 := by rw [← hWn]; exact (Below.refl _ _).alloc (Nat.le_refl _) _
          have zb3 := b2.size
          clear hWn
          refine hK.out _ _ ⟨R10.out.below b3, E3.out.below b3⟩ (fun hb3 => ?_)
          clear hK K
          try simp only [Act.put, List.setIfInBounds_toArray, List.set_cons_zero, List.set_cons_succ]
          refine wpAnyH_ready (rs := [8]) (by kernel_rfl) (by simp) ?_
          refine AllReadyH.cons (o := ?oie_8) ?hie_8 ?stepe_8 AllReadyH.nil
          case hie_8 => simp only [List.getElem?_toArray, List.getElem?_cons_succ, List.getElem?_cons_zero]; rfl
          intro K hK
          refine wp_appEnts eRef _ _ rfl _ [] rfl (OwnB.below o2 kb3) (.slice ao n cap) L rfl (OV1.out.below b3) (by rw [HN.out]; simp; omega) ?_
          intro v8 ub4 hoA hgA hnA
          rw [List.nil_append] at hoA
          have b4 : Below w1.heap.size w1 ub4 := b3.grown hgA b3.size (fun k hk => g2 k hk.symm)
          have fb4 : ∀ k, some k = v8.ownBlock → w1.heap.size ≤ k := fun k hk => by
            rcases hnA k hk with h1 | h1
            · exact g2 k h1
            · exact Nat.le_trans b3.size h1
          refine hK.out _ _ ⟨R10.out.below b4, E3.out.below b4⟩ (fun hb4 => ?_)
          clear hK K
          try simp only [Act.put, List.setIfInBounds_toArray, List.set_cons_zero, List.set_cons_succ]
          have e4 : EntAt ub4 ub2.heap.size 63 (X, f, m) := (hgA.block _ e3.lt (fun e => by have h5 : ub2.heap.size = wd.heap.size := Option.some.inj e; have := OwnB.lt o2 (k := wd.heap.size) rfl; omega)).trans e3
          refine wpAnyH_ready (rs := [11]) (by kernel_rfl) (by simp) ?_
          refine AllReadyH.cons (o := ?oig_11) ?hig_11 ?stepg_11 AllReadyH.nil
          case hig_11 => simp only [List.getElem?_toArray, List.getElem?_cons_succ, List.getElem?_cons_zero]; rfl
          intro K hK
          refine wp_appEnt eRef _ _ rfl v8 L rfl hoA _ (X, f, m) rfl e4 (by rw [HN.out]; omega) ?_
          intro v11 u11 hoB hgB hnB
          have b11 : Below w1.heap.size w1 u11 := b4.grown hgB b4.size (fun k hk => fb4 k hk.symm)
          have f11 : ∀ k, some k = v11.ownBlock → w1.heap.size ≤ k := fun k hk => by
            rcases hnB k hk with h1 | h1
            · exact fb4 k h1
            · exact Nat.le_trans b4.size h1
          obtain ⟨ao11, cp11, hv11⟩ := ownsRow_slice hoB
          rw [List.length_append, List.length_singleton, HN.out] at hv11
          subst hv11
          refine hK.out _ _ ⟨R10.out.below b11, E3.out.below b11⟩ (fun h11 => ?_)
          clear hK K
          try simp only [Act.put, List.setIfInBounds_toArray, List.set_cons_zero, List.set_cons_succ]
          refine wpAnyH_ready (rs := [12]) (by kernel_rfl) (by simp) ?_
          refine AllReadyH.cons (o := ?oiu22_12) ?hiu22_12 ?stepu22_12 AllReadyH.nil
          case hiu22_12 => simp only [List.getElem?_toArray, List.getElem?_cons_succ, List.getElem?_cons_zero]; rfl
          intro K hK
          go_simp
          refine hK.out _ _ ⟨R10.out.below b11, E3.out.below b11⟩ (fun h12 => ?_)
          clear hK K
          try simp only [Act.put, List.setIfInBounds_toArray, List.set_cons_zero, List.set_cons_succ]
          have R21 := R11.out.below b11
          have E22 := E12.out.below b11
          have hfin := set33' (w := w) R21 E22 hoB (HB1.out.trans (b11.mono HB1.out.size)) (by omega) (by omega) (by omega) (fun e => by have := f11 _ e; have := E3.out.lt; omega) V (X + 1) (.slice ao11 (n + 1) cp11) X f m
          have HFIN := hid (show _ from hfin)
          clear hfin
          obtain ⟨⟨z0, s0⟩, f0, s1, f1, s2, f2⟩ := R21.wr
          have hE3 := E3.out.lt
          have hk14 := set3_kept (w := u11) (B := w.heap.size + 1) (.int .i64 V) (.int .i64 (X + 1)) (.slice ao11 (n + 1) cp11)
          have E23 := E22.wr2 (B := w.heap.size + 1) (by omega) (.int .i64 V) (.int .i64 (X + 1)) (.slice ao11 (n + 1) cp11)
          refine wpAnyH_ready (rs := [14]) (by kernel_rfl) (by simp) ?_
          refine AllReadyH.cons (o := ?oiu23_14) ?hiu23_14 ?stepu23_14 AllReadyH.nil
          case hiu23_14 => simp only [List.getElem?_toArray, List.getElem?_cons_succ, List.getElem?_cons_zero]; rfl
          intro K hK
          go_simp
          refine hK.out _ _ ⟨h12.1.other hk14 (by omega), h12.2.other hk14 (by omega)⟩ (fun h14 => ?_)
          clear hK K
          try simp only [Act.put, List.setIfInBounds_toArray, List.set_cons_zero, List.set_cons_succ]
          obtain ⟨⟨y0, t0⟩, g0, t1, g1, t2, g2⟩ := E23.wr
          have hk15 := EntAt.kept (w := ((u11.setCell ⟨w.heap.size + 1, 0, none⟩ (.int .i64 V)).setCell ⟨w.heap.size + 1, 1, none⟩ (.int .i64 (X + 1))).setCell ⟨w.heap.size + 1, 2, none⟩ (.slice ao11 (n + 1) cp11)) (B := w.heap.size + 1 + 1) X f m
          refine wpAnyH_ready (rs := [15]) (by kernel_rfl) (by simp) ?_
          refine AllReadyH.cons (o := ?oiu24_15) ?hiu24_15 ?stepu24_15 AllReadyH.nil
          case hiu24_15 => simp only [List.getElem?_toArray, List.getElem?_cons_succ, List.getElem?_cons_zero]; rfl
          intro K hK
          try unfold beC
          go_simp
          refine hK.out _ _ ⟨h14.1.other hk15 (by omega), h14.2.other hk15 (by omega)⟩ (fun h15 => ?_)
          clear hK K
          try simp only [Act.put, List.setIfInBounds_toArray, List.set_cons_zero, List.set_cons_succ]
          refine wpAnyH_ready (rs := [16]) (by kernel_rfl) (by simp) ?_
          refine AllReadyH.cons (o := ?oiu25_16) ?hiu25_16 ?stepu25_16 AllReadyH.nil
          case hiu25_16 => simp only [List.getElem?_toArray, List.getElem?_cons_succ, List.getElem?_cons_zero]; rfl
          intro K hK
          go_simp
          refine hK.out _ _ h15 (fun h16 => ?_)
          clear hK K
          try simp only [Act.put, List.setIfInBounds_toArray, List.set_cons_zero, List.set_cons_succ]
          refine wpAnyH_done (by kernel_rfl) ?_ _
          refine NoPanic.normal ?_
          clear h16 h15 h14 h12 h11 hk14 hk15 E23 s0 s1 s2 f0 f1 f2 t0 t1 t2 g0 g1 g2
          generalize World.setCell _ _ _ = w20 at *
          go_wp2
          refine ret_rbox Try.results27 _ _ (w.heap.size + 1) (w.heap.size + 1 + 1) V (X + 1) (.slice ao11 (n + 1) cp11) (X, f, m) (.int .i64 0) ?_ HFIN.out.1 ?_ HFIN.out.2.1 ?_ ?_ ⟨_, rfl, HFIN.out.2.2.1, HFIN.out.2.2.2⟩
          all_goals rfl
      case stepa_10 =>
        intro K hK
        try unfold beC
        go_simp
        generalize hWn : World.alloc _ _ = ub2
        have b2 : Below w1.heap.size w1 ub2 := by rw [← hWn]; exact b1.alloc b1.size _
        have e2 : EntAt ub2 wd.heap.size 63 (X, f, m) := by rw [← hWn]; exact heap_alloc_new _ _
        have kb2 : Below wd.heap.size wd ub2 := by rw [← hWn]; exact (Below.refl _ _).alloc (Nat.le_refl _) _
        have zb2 := b1.size
        clear hWn
        refine hK.out _ _ ⟨R10.out.below b2, E3.out.below b2⟩ (fun hb2 => ?_)
        clear hK K
        try simp only [Act.put, List.setIfInBounds_toArray, List.set_cons_zero, List.set_cons_succ]
        refine wpAnyH_ready (rs := [5]) (by kernel_rfl) (by simp) ?_
        refine AllReadyH.cons (o := ?oif_5) ?hif_5 ?stepf_5 AllReadyH.nil
        case hif_5 => simp only [List.getElem?_toArray, List.getElem?_cons_succ, List.getElem?_cons_zero]; rfl
        intro K hK
        go_simp
        generalize hWn : World.alloc _ _ = ub3
        have b3 : Below w1.heap.size w1 ub3 := by rw [← hWn]; exact b2.alloc b2.size _
        have o3 := OwnB.empty (T := 63) (show ub3.heap[_]? = some (Obj.cells #[] 63 (0, 0)) from by rw [← hWn]; exact heap_alloc_new _ _)
        have g3 : ∀ k, some k = (Value.slice (some ⟨ub2.heap.size, 0, none⟩) 0 0).ownBlock → w1.heap.size ≤ k := fun k hk => by have h5 : k = ub2.heap.size := Option.some.inj hk; rw [h5]; exact b2.size
        have kb3 : Below ub2.heap.size ub2 ub3 := by rw [← hWn]; exact (Below.refl _ _).alloc (Nat.le_refl _) _
        clear hWn
        refine hK.out _ _ ⟨R10.out.below b3, E3.out.below b3⟩ (fun hb3 => ?_)
        clear hK K
        try simp only [Act.put, List.setIfInBounds_toArray, List.set_cons_zero, List.set_cons_succ]
        refine wpAnyH_ready (rs := [8]) (by kernel_rfl) (by simp) ?_
        refine AllReadyH.cons (o := ?oih_8) ?hih_8 ?steph_8 AllReadyH.nil
        case hih_8 => simp only [List.getElem?_toArray, List.getElem?_cons_succ, List.getElem?_cons_zero]; rfl
        intro K hK
        refine wp_appEnts eRef _ _ rfl _ [] rfl o3 (.slice ao n cap) L rfl (OV1.out.below b3) (by rw [HN.out]; simp; omega) ?_
        intro v8 ub4 hoA hgA hnA
        rw [List.nil_append] at hoA
        have b4 : Below w1.heap.size w1 ub4 := b3.grown hgA b3.size (fun k hk => g3 k hk.symm)
        have fb4 : ∀ k, some k = v8.ownBlock → w1.heap.size ≤ k := fun k hk => by
          rcases hnA k hk with h1 | h1
          · exact g3 k h1
          · exact Nat.le_trans b3.size h1
        refine hK.out _ _ ⟨R10.out.below b4, E3.out.below b4⟩ (fun hb4 => ?_)
        clear hK K
        try simp only [Act.put, List.setIfInBounds_toArray, List.set_cons_zero, List.set_cons_succ]
        have e4 : EntAt ub4 wd.heap.size 63 (X, f, m) := (hgA.block _ (e2.below kb3).lt (fun e => by have h5 : wd.heap.size = ub2.heap.size := Option.some.inj e; have := e2.lt; omega)).trans (e2.below kb3)
        refine wpAnyH_ready (rs := [11]) (by kernel_rfl) (by simp) ?_
        refine AllReadyH.cons (o := ?oii_11) ?hii_11 ?stepi_11 AllReadyH.nil
        case hii_11 => simp only [List.getElem?_toArray, List.getElem?_cons_succ, List.getElem?_cons_zero]; rfl
        intro K hK
        refine wp_appEnt eRef _ _ rfl v8 L rfl hoA _ (X, f, m) rfl e4 (by rw [HN.out]; omega) ?_
        intro v11 u11 hoB hgB hnB
        have b11 : Below w1.heap.size w1 u11 := b4.grown hgB b4.size (fun k hk => fb4 k hk.symm)
        have f11 : ∀ k, some k = v11.ownBlock → w1.heap.size ≤ k := fun k hk => by
          rcases hnB k hk with h1 | h1
          · exact fb4 k h1
          · exact Nat.le_trans b4.size h1
        obtain ⟨ao11, cp11, hv11⟩ := ownsRow_slice hoB
        rw [List.length_append, List.length_singleton, HN.out] at hv11
        subst hv11
        refine hK.out _ _ ⟨R10.out.below b11, E3.out.below b11⟩ (fun h11 => ?_)
        clear hK K
        try simp only [Act.put, List.setIfInBounds_toArray, List.set_cons_zero, List.set_cons_succ]
        refine wpAnyH_ready (rs := [12]) (by kernel_rfl) (by simp) ?_
        refine AllReadyH.cons (o := ?oiu30_12) ?hiu30_12 ?stepu30_12 AllReadyH.nil
        case hiu30_12 => simp only [List.getElem?_toArray, List.getElem?_cons_succ, List.getElem?_cons_zero]; rfl
        intro K hK
        go_simp
        refine hK.out _ _ ⟨R10.out.below b11, E3.out.below b11⟩ (fun h12 => ?_)
        clear hK K
        try simp only [Act.put, List.setIfInBounds_toArray, List.set_cons_zero, List.set_cons_succ]
        have R21 := R11.out.below b11
        have E22 := E12.out.below b11
        have hfin := set33' (w := w) R21 E22 hoB (HB1.out.trans (b11.mono HB1.out.size)) (by omega) (by omega) (by omega) (fun e => by have := f11 _ e; have := E3.out.lt; omega) V (X + 1) (.slice ao11 (n + 1) cp11) X f m
        have HFIN := hid (show _ from hfin)
        clear hfin
        obtain ⟨⟨z0, s0⟩, f0, s1, f1, s2, f2⟩ := R21.wr
        have hE3 := E3.out.lt
        have hk14 := set3_kept (w := u11) (B := w.heap.size + 1) (.int .i64 V) (.int .i64 (X + 1)) (.slice ao11 (n + 1) cp11)
        have E23 := E22.wr2 (B := w.heap.size + 1) (by omega) (.int .i64 V) (.int .i64 (X + 1)) (.slice ao11 (n + 1) cp11)
        refine wpAnyH_ready (rs := [14]) (by kernel_rfl) (by simp) ?_
        refine AllReadyH.cons (o := ?oiu31_14) ?hiu31_14 ?stepu31_14 AllReadyH.nil
        case hiu31_14 => simp only [List.getElem?_toArray, List.getElem?_cons_succ, List.getElem?_cons_zero]; rfl
        intro K hK
        go_simp
        refine hK.out _ _ ⟨h12.1.other hk14 (by omega), h12.2.other hk14 (by omega)⟩ (fun h14 => ?_)
        clear hK K
        try simp only [Act.put, List.setIfInBounds_toArray, List.set_cons_zero, List.set_cons_succ]
        obtain ⟨⟨y0, t0⟩, g0, t1, g1, t2, g2⟩ := E23.wr
        have hk15 := EntAt.kept (w := ((u11.setCell ⟨w.heap.size + 1, 0, none⟩ (.int .i64 V)).setCell ⟨w.heap.size + 1, 1, none⟩ (.int .i64 (X + 1))).setCell ⟨w.heap.size + 1, 2, none⟩ (.slice ao11 (n + 1) cp11)) (B := w.heap.size + 1 + 1) X f m
        refine wpAnyH_ready (rs := [15]) (by kernel_rfl) (by simp) ?_
        refine AllReadyH.cons (o := ?oiu32_15) ?hiu32_15 ?stepu32_15 AllReadyH.nil
        case hiu32_15 => simp only [List.getElem?_toArray, List.getElem?_cons_succ, List.getElem?_cons_zero]; rfl
        intro K hK
        try unfold beC
        go_simp
        refine hK.out _ _ ⟨h14.1.other hk15 (by omega), h14.2.other hk15 (by omega)⟩ (fun h15 => ?_)
        clear hK K
        try simp only [Act.put, List.setIfInBounds_toArray, List.set_cons_zero, List.set_cons_succ]
        refine wpAnyH_ready (rs := [16]) (by kernel_rfl) (by simp) ?_
        refine AllReadyH.cons (o := ?oiu33_16) ?hiu33_16 ?stepu33_16 AllReadyH.nil
        case hiu33_16 => simp only [List.getElem?_toArray, List.getElem?_cons_succ, List.getElem?_cons_zero]; rfl
        intro K hK
        go_simp
        refine hK.out _ _ h15 (fun h16 => ?_)
        clear hK K
        try simp only [Act.put, List.setIfInBounds_toArray, List.set_cons_zero, List.set_cons_succ]
        refine wpAnyH_done (by kernel_rfl) ?_ _
        refine NoPanic.normal ?_
        clear h16 h15 h14 h12 h11 hk14 hk15 E23 s0 s1 s2 f0 f1 f2 t0 t1 t2 g0 g1 g2
        generalize World.setCell _ _ _ = w20 at *
        go_wp2
        refine ret_rbox Try.results27 _ _ (w.heap.size + 1) (w.heap.size + 1 + 1) V (X + 1) (.slice ao11 (n + 1) cp11) (X, f, m) (.int .i64 0) ?_ HFIN.out.1 ?_ HFIN.out.2.1 ?_ ?_ ⟨_, rfl, HFIN.out.2.2.1, HFIN.out.2.2.2⟩
        all_goals rfl
    · have hE : Bv.addE L m f = 8 := by unfold Bv.addE; rw [if_pos hmf, hn, if_neg h256]
      have hR : Bv.addR X L m f = (0, 0, 0) ∧ Bv.addX X L m f = X ∧ Bv.addL X L m f = L := by unfold Bv.addR Bv.addX Bv.addL; rw [hE]; exact ⟨rfl, rfl, rfl⟩
      rw [hR.1, hR.2.1, hR.2.2, hE]
      have hi : ¬ (n : Int) < 256 := by omega
      clear hE hR hmf hn
      go_enter Try.func27, Try.ntmps27
      go_upto_region 1 with (fail)
      generalize hW0 : World.alloc _ _ = w0
      obtain ⟨b0, b1, b2, hb0, hs0⟩ := three_blocks w _ _ _ w0 hW0
      have R0 := hid (show RbAt w0 w.heap.size V X (.slice ao n cap) from b0)
      have R1 := hid (show RbAt w0 (w.heap.size + 1) 0 0 (.slice none 0 0) from b1)
      have E2 := hid (show EntAt w0 (w.heap.size + 1 + 1) 63 (0, 0, 0) from b2)
      have HB0 := hid hb0
      have HS0 := hid hs0
      have OV := hid (HO.out.below hb0)
      clear hW0 b0 b1 b2 hb0 hs0
      obtain ⟨c0, c1, c2⟩ := R0.out.c
      obtain ⟨⟨z0, s0⟩, f0, s1, f1, s2, f2⟩ := R1.out.wr
      have E7 := hid (E2.out.wr2 (B := w.heap.size + 1) (by omega) (.int .i64 V) (.int .i64 X) (.slice ao n cap))
      obtain ⟨⟨y0, t0⟩, g0, t1, g1, t2, g2⟩ := E7.out.wr
      have hnz : some (w.heap.size + 1 + 1) ≠ (Value.slice ao n cap).ownBlock := fun e => by have := HO.out.lt e; omega
      have hfin := set33' (w := w) R1.out E2.out OV.out HB0.out (by omega) (by omega) (by omega) hnz V X (.slice ao n cap) 0 0 0
      have HFIN := hid (show _ from hfin)
      clear hfin
      go_wp2
      refine ret_rbox Try.results27 _ _ (w.heap.size + 1) (w.heap.size + 1 + 1) V X (.slice ao n cap) (0, 0, 0) (.int .i64 8) ?_ HFIN.out.1 ?_ HFIN.out.2.1 ?_ ?_ ⟨_, rfl, HFIN.out.2.2.1, HFIN.out.2.2.2⟩
      all_goals rfl
  · have hE : Bv.addE L m f = 4 := by unfold Bv.addE; rw [if_neg hmf]
    have hR : Bv.addR X L m f = (0, 0, 0) ∧ Bv.addX X L m f = X ∧ Bv.addL X L m f = L := by unfold Bv.addR Bv.addX Bv.addL; rw [hE]; exact ⟨rfl, rfl, rfl⟩
    rw [hR.1, hR.2.1, hR.2.2, hE]
    have hw : m < 1 ∨ 1099511627776 < m ∨ f < 0 ∨ 31 < f := by
      unfold Bv.okc Bv.fl at hmf
      simp at hmf
      omega
    clear hE hR hmf hn
    have hgo : ∀ (P : Prop), (m < 1 → P) → (1 ≤ m → 1099511627776 < m → P) → (1 ≤ m → m ≤ 1099511627776 → f < 0 → P) → (1 ≤ m → m ≤ 1099511627776 → 0 ≤ f → 31 < f → P) → P := fun P p1 p2 p3 p4 => by
      by_cases h1 : m < 1
      · exact p1 h1
      · by_cases h2 : 1099511627776 < m
        · exact p2 (by omega) h2
        · by_cases h3 : f < 0
          · exact p3 (by omega) (by omega) h3
          · exact p4 (by omega) (by omega) (by omega) (by omega)
    clear hw
    go_enter Try.func27, Try.ntmps27
    go_upto_region 1 with (fail)
    generalize hW0 : World.alloc _ _ = w0
    obtain ⟨b0, b1, b2, hb0, hs0⟩ := three_blocks w _ _ _ w0 hW0
    have R0 := hid (show RbAt w0 w.heap.size V X (.slice ao n cap) from b0)
    have R1 := hid (show RbAt w0 (w.heap.size + 1) 0 0 (.slice none 0 0) from b1)
    have E2 := hid (show EntAt w0 (w.heap.size + 1 + 1) 63 (0, 0, 0) from b2)
    have HB0 := hid hb0
    have HS0 := hid hs0
    have OV := hid (HO.out.below hb0)
    clear hW0 b0 b1 b2 hb0 hs0
    obtain ⟨c0, c1, c2⟩ := R0.out.c
    obtain ⟨⟨z0, s0⟩, f0, s1, f1, s2, f2⟩ := R1.out.wr
    have E7 := hid (E2.out.wr2 (B := w.heap.size + 1) (by omega) (.int .i64 V) (.int .i64 X) (.slice ao n cap))
    obtain ⟨⟨y0, t0⟩, g0, t1, g1, t2, g2⟩ := E7.out.wr
    have hnz : some (w.heap.size + 1 + 1) ≠ (Value.slice ao n cap).ownBlock := fun e => by have := HO.out.lt e; omega
    have hfin := set33' (w := w) R1.out E2.out OV.out HB0.out (by omega) (by omega) (by omega) hnz V X (.slice ao n cap) 0 0 0
    have HFIN := hid (show _ from hfin)
    clear hfin
    refine hgo _ (fun p1 => ?_) (fun p1 p2 => ?_) (fun p1 p2 p3 => ?_) (fun p1 p2 p3 p4 => ?_)
    all_goals clear hgo
    all_goals go_wp2
    all_goals refine ret_rbox Try.results27 _ _ (w.heap.size + 1) (w.heap.size + 1 + 1) V X (.slice ao n cap) (0, 0, 0) (.int .i64 4) ?_ HFIN.out.1 ?_ HFIN.out.2.1 ?_ ?_ ⟨_, rfl, HFIN.out.2.2.1, HFIN.out.2.2.2⟩
    all_goals rfl
end Go.Proofs.Ytlfjhpmachblkaa
