/-
  What is taken is apart from all that is taken (law AllocApart); for every input.
-/
import Derived.Test.YtmlkbdkehoajaaaAl14
namespace Go.Proofs.Ytmlkbdkehoajaaa
open Go.ChangeShapes Go.WideShapes Go.ChangeAt Go.RowKit Go.Maps
open Go.Lib (hid)

theorem lawI : Maps.Keyed Try.prog 3 := Maps.int_keyed Try.underlying3
theorem zeroI (w : World) : (zeroValue 3).run Try.prog w = .ok (.int .i64 0) w := by kernel_rfl
namespace AllocApart
abbrev Own (w : World) (B N : Nat) (D : DataW Unit) : Prop := w.ownsMap Try.prog 3 (plainElem (H := Unit) Try.prog 3) B N D
theorem Own.below {w w' : World} {B N : Nat} {D : DataW Unit} (h : Own w B N D) (hb : Below w.heap.size w w') : Own w' B N D :=
  World.ownsMap.kept (row := none) h ⟨hb.os, hb.tape, hb.output, hb.size, fun k hk _ => hb.block k hk⟩ (by simp)
theorem Own.keptB {w w' : World} {B N g : Nat} {D : DataW Unit} (h : Own w B N D) (hk : KeptB g w w') (hne : g ≠ B) : Own w' B N D :=
  World.ownsMap.kept (row := some g) h ⟨hk.os, hk.tape, hk.output, hk.size, fun k hk' hn => hk.block k hk' (fun e => hn (congrArg some e))⟩ (fun e => hne (Option.some.inj e).symm)
theorem Own.at {w w' : World} {B N : Nat} {D : DataW Unit} (h : Own w B N D) (hk : ∀ es c, w.heap[B]? = some (Obj.map es c) → w'.heap[B]? = w.heap[B]?) : Own w' B N D := by
  obtain ⟨es, clock, hb, r⟩ := h
  exact ⟨es, clock, (hk es clock hb).trans hb, r⟩
/-- All that a round keeps. -/
structure S (w0 : World) (b gm B N : Nat) (L : List Bool) (D : DataW Unit) (v : Value) (K : List (Nat × Nat)) (w : World) : Prop where
  map : MapAt w b gm 64 L
  own : Own w B N D
  q : OwnQ w w0.heap.size v K
  bel : Below w0.heap.size w0 w
  gB : gm ≠ B
  bB : b ≠ B
  lgm : w0.heap.size ≤ gm
  lB : w0.heap.size ≤ B
variable {w0 w w' : World} {b gm B N : Nat} {L : List Bool} {D : DataW Unit} {v : Value} {K : List (Nat × Nat)}
theorem S.below (h : S w0 b gm B N L D v K w) (hb : Below w.heap.size w w') : S w0 b gm B N L D v K w' :=
  ⟨h.map.below hb, h.own.below hb, h.q.below hb, h.bel.trans (hb.mono h.bel.size), h.gB, h.bB, h.lgm, h.lB⟩
theorem S.kept (h : S w0 b gm B N L D v K w) (hk : KeptB gm w w') {L' : List Bool} (hm : MapAt w' b gm 64 L') : S w0 b gm B N L' D v K w' :=
  ⟨hm, h.own.keptB hk h.gB, h.q.keptB h.map.row hk, h.bel.trans (hk.below h.lgm h.bel.size), h.gB, h.bB, h.lgm, h.lB⟩
theorem S.put (h : S w0 b gm B N L D v K w) {N' : Nat} {D' : DataW Unit} (hown : Own w' B N' D') (hg : w.grownBy w' (some B)) : S w0 b gm B N' L D' v K w' := by
  refine ⟨h.map.at (hg.block b h.map.lt (fun e => h.bB (Option.some.inj e))) (hg.block gm h.map.row.lt (fun e => h.gB (Option.some.inj e))), hown, h.q.at fun k cs hk => hg.block k (Array.getElem?_eq_some_iff.1 hk).1 (fun e => ?_), h.bel.grown hg h.bel.size (fun j hj => by cases hj; exact h.lB), h.gB, h.bB, h.lgm, h.lB⟩
  obtain ⟨es, clock, hb, _⟩ := h.own
  rw [Option.some.inj e, hb] at hk
  cases hk
theorem S.app (h : S w0 b gm B N L D v K w) {v' : Value} {K' : List (Nat × Nat)} (hq : OwnQ w' w0.heap.size v' K') (hb : Below w0.heap.size w w')
    (hk : ∀ (k : Nat) (ob : Obj), w.heap[k]? = some ob → (∀ cs, ob ≠ .cells cs 40 (0, 0)) → w'.heap[k]? = w.heap[k]?) : S w0 b gm B N L D v' K' w' := by
  obtain ⟨ex, hr, _⟩ := h.map.row
  refine ⟨h.map.at (hk b _ h.map.ptr ?_) (hk gm _ hr ?_), h.own.at fun es c hc => hk B _ hc ?_, hq, h.bel.trans hb, h.gB, h.bB, h.lgm, h.lB⟩
  · intro cs e
    injection e with _ e _
    exact absurd e (by decide)
  · intro cs e
    injection e with _ e _
    exact absurd e (by decide)
  · intro cs e
    cases e
theorem S.same (h : S w0 b gm B N L D v K w) {v' : Value} {K' : List (Nat × Nat)} (hq : OwnQ w w0.heap.size v' K') : S w0 b gm B N L D v' K' w := ⟨h.map, h.own, hq, h.bel, h.gB, h.bB, h.lgm, h.lB⟩
theorem S.mono (h : S w0 b gm B N L D v K w) {N' : Nat} (hN : N ≤ N') : S w0 b gm B N' L D v K w := ⟨h.map, World.ownsMap.mono h.own hN, h.q, h.bel, h.gB, h.bB, h.lgm, h.lB⟩
/-- What of a box is kept. -/
theorem box_put {B' : Nat} {F C : Int} (h : SBox w B' F C) (hg : w.grownBy w' (some B)) (hne : B' ≠ B) : SBox w' B' F C := (hg.block B' (Array.getElem?_eq_some_iff.1 h).1 (fun e => hne (Option.some.inj e))).trans h
theorem cnt_le (L : List Bool) (left : Lit → Bool) (h : L.length = 64) : Ap.cnt L left ≤ 64 := by
  unfold Ap.cnt
  have := List.countP_le_length (p := fun (p : Nat) => decide (L[p]? = some true) && !left (Ap.K p)) (l := List.range L.length)
  rw [List.length_range] at this
  omega
set_option maxHeartbeats 4000000 in
set_option maxRecDepth 100000 in
theorem walk (ao : Option Addr) (A : List Int) (cap : Nat) (ag : Option Addr) (G : List Bool) (capg : Nat) (w : World) (hA : IntsB w ao A) (hAl : A.length ≤ maxLen) (hG : BoolsB w ag G) (hGl : G.length ≤ maxLen) :
    Calls Try.prog 4 #[.slice ao A.length cap, .slice ag G.length capg] w fun e w' => e = .returned (.bool true) ∧ Below w.heap.size w w' := by
  have hAm : A.length ≤ 9223372036854775807 := hAl
  have hGm : G.length ≤ 9223372036854775807 := hGl
  have HA := hid hA
  have HG := hid hG
  have HNW := hid (fun wx => new_any 64 64 (by decide) wx)
  clear hA hAl hG hGl
  have hmm := @run_makeMap Try.prog
  go_enter Try.func4, Try.ntmps4
  go_upto_region 3 with (go_at_call 7; refine (awake11_any _).mono ?_; rintro e w0 ⟨rfl, hb0⟩)
  go_wp2_with fail
  refine (HNW.out _).mono ?_
  rintro e w1 ⟨b, g, rfl, hm1, hbb, hgm, hb1⟩
  have hsg : w.heap.size ≤ g := by have := hb0.size; omega
  have hbg := hm1.lt
  have hgg := hm1.row.lt
  have hB : w.heap.size ≤ w1.heap.size := by have := hb0.size; have := hb1.size; omega
  have HM1 := hid (hm1.below ((Below.refl _ w1).alloc (Nat.le_refl _) (.map #[] 0)))
  have HB1 := hid ((hb0.trans (hb1.mono hb0.size)).trans ((Below.refl _ w1).alloc hB (.map #[] 0)))
  clear hm1 hb1 hb0 HNW hbb hgm
  go_upto_region 9 with (fail)
  have HS0 := hid (show S w b g w1.heap.size 0 (List.replicate 64 false) (.map []) (.slice none 0 0) [] (w1.alloc (.map #[] 0)) from
    ⟨HM1.out, World.ownsMap_made _ _ _ _, OwnQ.nil _ _, HB1.out, by omega, by omega, hsg, hB⟩)
  have HC0 := hid (show Ap.Cov (List.replicate 64 false) [] from trivial)
  have HD0 := hid (Ap.holds_none 64)
  have HL0 := hid (show (List.replicate 64 false).length = 64 from by simp)
  generalize List.replicate 64 false = L0 at *
  generalize w1.heap.size = B at *
  clear HM1 HB1 hbg hgg hsg hB
  go_loopw [7, 8, 9, 10, 11, 12, 13, 14, 16] (fun sp i _ _ _ _ _ _ _ wr => ∃ (j : Nat) (L : List Bool) (D : DataW Unit) (K : List (Nat × Nat)), i = .int .i64 j ∧ j ≤ A.length ∧ j ≤ 40 ∧ K.length ≤ j ∧ L.length = 64 ∧ Ap.Cov L K ∧ Ap.Holds L D ∧ S w b g B (72 * j) L D sp K wr)
    (fun _ i _ _ _ _ _ _ _ _ => 40 - (intOf i).toNat)
  case atStart => exact ⟨0, L0, _, [], rfl, by omega, by omega, by simp, HL0.out, HC0.out, HD0.out, HS0.out⟩
  case round =>
    clear HS0 HC0 HD0 HL0
    obtain ⟨j, L, D, K, rfl, hj, hj40, hKj, hL, hC, hD, hS⟩ := hrel
    have HS := hid hS
    have HC := hid hC
    have HD := hid hD
    have HL := hid hL
    by_cases hlt : j < A.length
    · by_cases h40 : j < 40
      · obtain ⟨sb, so, hao, c0⟩ := HA.out.below hS.bel j hlt
        have HAC := hid (fun w' (hb : Below w.heap.size w w') => (HA.out.below hb) j hlt)
        subst hao
        generalize A.getD j 0 = F at c0 HAC
        obtain ⟨k1, hk1, hka⟩ := and_le F 7 (by decide)
        rw [show ((7 : Nat) : Int) = 7 from rfl] at hka
        obtain ⟨kk, hkk⟩ : ∃ kk : Nat, kk = 1 + k1 := ⟨_, rfl⟩
        have hki : 1 + (k1 : Int) = (kk : Int) := by omega
        have hk1' : 1 ≤ kk ∧ kk ≤ 8 := by omega
        have HTS := hid (fun x hx wx hm => take_is b g 64 L (kk : Int) (by omega) x hx wx hm)
        have HTN := hid (fun hx wx hm => take_not b g 64 L (kk : Int) (by omega) hx wx hm)
        clear hkk hk1 hS hC hD hL
        cases hfi : Al.first L (kk : Int) with
        | none =>
          have HTK := hid (HTN.out hfi)
          have hM := Ap.first_is L (kk : Int) hfi (by omega)
          have HMO := hid (fun wx hx => most_any b g 64 L wx hx)
          generalize Al.most (Al.spans L false) = M at *
          clear hfi
          go_wp2_with fail
          refine (HTK.out _ HS.out.map).mono ?_
          rintro e w3 ⟨rfl, hm3, hk3⟩
          have HS3 := hid (HS.out.kept hk3 hm3)
          clear hm3 hk3 HS c0
          go_upto_region 13 with (fail)
          generalize hw4 : w3.alloc _ = w4
          have hb4 : Below w3.heap.size w3 w4 := by rw [← hw4]; exact (Below.refl _ w3).alloc (Nat.le_refl _) _
          have HS4 := hid (HS3.out.below hb4)
          clear hw4 hb4 HS3
          generalize w3.heap.size = z3 at *
          refine wp_region_class (S w b g B (72 * j) L D u7 K) (by kernel_rfl) (by kernel_rfl) (HS4.out.below ((Below.refl _ _).drew)) ?_
          intro Z φ hne hSφ hφ
          have CC := hid (fun z => (HAC.out (φ z) (hSφ z).bel))
          have C1 := hid (fun z => calls_class hφ ((HMO.out (φ z) (hSφ z).map).mono fun e w' h => ⟨h.1, (hSφ z).below h.2⟩))
          have cz : ∀ z, (φ z).cell? ⟨sb, so + j, none⟩ = some (.int .i64 F) := fun z => by obtain ⟨_, _, e, h⟩ := CC.out z; cases e; exact h
          have HSZ := hid hSφ
          clear hSφ hφ CC HS4
          repeat (go_big_quiet_step (first | (go_at_call 14; exact C1.out _)))
          refine wpQuiet_nil ?_
          intro z
          have HS5 := hid (HSZ.out z)
          clear C1 cz HSZ
          generalize φ z = w5 at *
          go_wp2
          exact ⟨⟨j + 1, L, D, K, by go_num, by omega, by omega, by omega, HL.out, HC.out, HD.out, HS5.out.mono (by omega)⟩, by simp [intOf]; omega⟩
        | some x =>
          have HTK := hid (HTS.out x hfi)
          obtain ⟨hp1, hp2, hp3⟩ := Al.first_prop L (kk : Int) x hfi
          have hrl := Al.run_le L x.1 false
          have hlen := HL.out
          have hfit : x.1 + kk ≤ L.length := by omega
          have hrun : kk ≤ Al.run L x.1 false := by omega
          rw [Int.toNat_natCast] at HTK
          clear hfi hp1 hp2 hp3 hrl
          generalize x.1 = X at *
          go_wp2_with fail
          refine (HTK.out _ HS.out.map).mono ?_
          rintro e w3 ⟨rfl, hm3, hk3⟩
          have HS3 := hid (HS.out.kept hk3 hm3)
          clear hm3 hk3 HS c0
          go_upto_region 15 with (fail)
          generalize hw4 : w3.alloc _ = w4
          have hb4 : Below w3.heap.size w3 w4 := by rw [← hw4]; exact (Below.refl _ w3).alloc (Nat.le_refl _) _
          have HX4 := hid (show SBox w4 w3.heap.size (X : Int) (kk : Int) from by rw [← hw4]; exact heap_alloc_new _ _)
          have hzB : w3.heap.size ≠ B := by have := HS3.out.own.lt; omega
          have hzg : w3.heap.size ≠ g := by have := HS3.out.map.row.lt; omega
          have HS4 := hid (HS3.out.below hb4)
          clear hw4 hb4 HS3
          generalize w3.heap.size = z3 at *
          have x0 := HX4.out.c0
          go_upto_region 16 with (fail)
          go_loopw [11] (fun p wr => ∃ (q N : Nat) (D : DataW Unit), p = .int .i64 ((X + q : Nat) : Int) ∧ q ≤ kk ∧ N ≤ 72 * j + q ∧ Ap.Holds (Al.setN L X true q) D ∧ S w b g B N (Al.setN L X true kk) D u7 K wr ∧ SBox wr z3 (X : Int) (kk : Int))
            (fun p _ => X + kk - (intOf p).toNat)
          case atStart => exact ⟨0, 72 * j, D, by go_num, by omega, by omega, HD.out, HS4.out, HX4.out⟩
          case round =>
            clear HD HS4 HX4 x0
            obtain ⟨q, N, D, rfl, hq, hN, hD, hS, hX⟩ := hrel
            have HX := hid hX
            have HS := hid hS
            have HD := hid hD
            have x0 := hX.c0
            have x1 := hX.c1
            by_cases hqk : q < kk
            · have hfree : (Al.setN L X true q)[X + q]? = some false := by
                rw [Al.setN_get L X true q _ (by omega), if_neg (by omega)]
                exact Al.run_has L X false q (by omega)
              have hfr := hid (fun c hc => hD.free (X + q) hfree c hc)
              have HO := hid hS.own
              clear hX hS hD hfree
              go_wp2_with (first
                | (at_lookup; refine wpList_lookup_own_int _ rfl _ _ 38 rfl 3 3 .i64 lawI Try.underlying38 Try.underlying3 (zeroI _) B N _ rfl HO.out _ _ rfl (keyOf_int_mk Try.underlying3 (WalkArith.wf_i64 (by omega))) ?_; intro c hat hwc; obtain rfl := hfr.out c hat)
                | (at_mapUpdate; refine wpList_mapUpdate_own _ rfl _ _ _ 38 rfl 3 3 lawI Try.underlying38 _ B N _ rfl HO.out (by unfold maxLen; omega) _ _ _ rfl rfl (keyOf_int_mk Try.underlying3 (WalkArith.wf_i64 (by omega))) _ [] (plainElem_int Try.underlying3 (WalkArith.wf_i64 (by omega))) ?_; intro w5 hown5 hg5)
                | fail)
              have hD2 : Ap.Holds (Al.setN L X true (q + 1)) (D.put (.int .i64 ((X : Int) + (q : Int))) (.lit (.int .i64 ((j : Int) + 1)))) := by
                have := HD.out.put HO.out.isMap (X + q) (by rw [Al.setN_length]; omega) true ((j : Int) + 1) ⟨fun _ => rfl, fun _ => by omega⟩
                rw [show ((X + q : Nat) : Int) = (X : Int) + (q : Int) from by omega] at this
                exact this
              exact ⟨⟨q + 1, N + 1, _, by go_num, by omega, by omega, hD2, HS.out.put hown5 hg5, box_put HX.out hg5 hzB⟩, by simp [intOf]; omega⟩
            · obtain rfl : q = kk := by omega
              obtain ⟨f2, n2, R, hyR⟩ : ∃ f2 n2 R, K ++ [(X, q)] = (f2, n2) :: R := by
                cases K with
                | nil => exact ⟨_, _, _, rfl⟩
                | cons y K => exact ⟨_, _, _, rfl⟩
              have hRl : R.length ≤ j := by have := congrArg List.length hyR; simp at this; omega
              have HCV := hid (Ap.Cov.snoc K L HC.out X q (by omega) hfit hrun)
              rw [hyR] at HCV
              have HL3 := hid ((Al.setN_length L X true q).trans hlen)
              have hX64 : X + q ≤ 64 := by omega
              clear HTK HTS HTN hX hS hD HC HL hfit hrun hlen hzg
              generalize Al.setN L X true q = L3 at *
              have hb5 : Below wr.heap.size wr (wr.alloc (.cells #[.int .i64 (X : Int), .int .i64 (q : Int)] 40)) := (Below.refl _ wr).alloc (Nat.le_refl _) _
              have HS5 := hid (HS.out.below hb5)
              have hbs := HS5.out.bel.size
              clear hb5 HS HX
              by_cases hjG : j < G.length
              · obtain ⟨gb, gf, hag, _⟩ := HG.out.below (HS5.out.bel) j hjG
                have HGC := hid (fun w' (hb : Below w.heap.size w w') => (HG.out.below hb) j hjG)
                subst hag
                generalize G.getD j false = gv at HGC
                cases gv with
                | false =>
                  go_upto_region 31 with (refine wpList_appQ rfl _ _ rfl w.heap.size _ K rfl HS5.out.q _ (X, q) rfl (cell_two_sp _ _ _ _) (by omega) hbs ?_; intro v5 w5 hq5 hb5 hk5; have hS5 := HS5.out.app hq5 hb5 hk5; rw [hyR] at hq5 hS5; obtain ⟨gq, oq, cq, hv5, hRc, hcm, y0, y1, hqT⟩ := hq5.head; subst hv5; obtain ⟨gb', gf', e, c1⟩ := HGC.out _ hS5.bel; cases e)
                  have HS9 := hid hS5
                  have HC9 := hid HCV.out
                  have hK9 : ((f2, n2) :: R).length ≤ j + 1 := by simp; omega
                  have hN9 : N ≤ 72 * (j + 1) := by omega
                  clear hS5 hq5 hb5 hk5 hqT y0 y1 c1 x0 x1
                  go_wp2_with (first
                    | (at_range; refine wpList_range_own _ rfl _ 38 rfl 3 3 lawI Try.underlying38 _ B N _ rfl HS9.out.own ?_; intro w6 hrg6 hg6 hs6)
                    | fail)
                  go_frame
                  have HB6 := hid (show Below w5.heap.size w5 w6 from ⟨hg6.os, hg6.tape, hg6.output, hg6.size, fun k hk => hg6.block k hk (by simp)⟩)
                  have HR6 := hid hrg6
                  have HZ := hid (Ap.cnt_zero L3 D HD.out)
                  clear hrg6 hg6 hs6
                  generalize hr : w5.heap.size = r at *
                  have HRr := hid hr
                  clear hr
                  go_loopw [14, 16] (fun n _ wr => ∃ (left : Lit → Bool) (ct : Nat), n = .int .i64 ((Ap.cnt L3 left : Nat) : Int) ∧ World.ranges (H := Unit) wr Try.prog 3 (plainElem Try.prog 3) B r N D left ct ∧ Below r w5 wr)
                    (fun _ _ wr => wr.rangeLeft B r)
                  case atStart => exact ⟨_, _, by rw [HZ.out]; rfl, HR6.out, HB6.out⟩
                  case round =>
                    clear HR6 HB6 HZ
                    obtain ⟨left, ct, rfl, hrg, hbel⟩ := hrel
                    have hm64 := cnt_le L3 left HL3.out
                    have HRG := hid hrg
                    have HBEL := hid hbel
                    have HST := hid (fun x c hl hat => Ap.cnt_step HD.out left x c hl hat)
                    have HCA := hid (fun hl => Ap.cnt_all L3 left hl)
                    clear hrg hbel
                    go_wp2_with (first
                      | (at_next; refine wpList_next_ranges_ii _ rfl _ rfl 3 3 .i64 .i64 lawI Try.underlying3 Try.underlying3 B r N _ _ _ rfl HRG.out ?_ ?_)
                      | fail)
                    · intro hc0 hl0
                      have hall := HCA.out hl0
                      rw [HL3.out] at hall
                      have HS10 := hid (HS9.out.below (HRr.out ▸ HBEL.out))
                      have HFR := hid (free_any b g 64 L3 _ HS10.out.map)
                      rw [Al.spans_sum] at HFR
                      clear HST HCA HRG HBEL hl0
                      generalize Ap.cnt L3 left = m at *
                      generalize L3.count false = fr at *
                      go_wp2_with fail
                      refine HFR.out.mono ?_
                      rintro e w7 ⟨rfl, hb7⟩
                      have HS11 := hid (HS10.out.below hb7)
                      have hfr : (fr : Int) = 64 - (m : Int) := by omega
                      clear hb7 HS10
                      go_wp2
                      exact ⟨⟨j + 1, L3, D, _, by go_num, by omega, by omega, hK9, HL3.out, HC9.out, HD.out, HS11.out.mono (by omega)⟩, by simp [intOf]; omega⟩
                    · intro x c w8 ct8 hwx hwc hlx hat hrg8 hlt8 hg8 hs8 hen
                      have hstep := HST.out x c hlx hat
                      have hm8 := cnt_le L3 (fun z => left z && !z.sameKey (Ap.K x)) HL3.out
                      have HR8 := hid hrg8
                      have HB8 := hid (HBEL.out.grown hg8 (by have := HBEL.out.size; have := HRr.out; omega) (fun j hj => by cases hj; exact Nat.le_refl _))
                      clear HST HCA hg8 hs8 hrg8 hat
                      by_cases hc0 : c = 0
                      · subst hc0
                        rw [if_neg (by simp)] at hstep
                        go_wp2
                        exact ⟨⟨_, ct8, congrArg (fun m : Nat => Value.int .i64 (m : Int)) hstep.symm, HR8.out, HB8.out⟩, by rw [HR8.out.left_eq, HRG.out.left_eq]; exact hlt8⟩
                      · rw [if_pos hc0] at hstep
                        go_wp2
                        exact ⟨⟨_, ct8, congrArg (fun m : Nat => Value.int .i64 (m : Int)) hstep.symm, HR8.out, HB8.out⟩, by rw [HR8.out.left_eq, HRG.out.left_eq]; exact hlt8⟩
                | true =>
                  go_upto_region 25 with (refine wpList_appQ rfl _ _ rfl w.heap.size _ K rfl HS5.out.q _ (X, q) rfl (cell_two_sp _ _ _ _) (by omega) hbs ?_; intro v5 w5 hq5 hb5 hk5; have hS5 := HS5.out.app hq5 hb5 hk5; rw [hyR] at hq5 hS5; obtain ⟨gq, oq, cq, hv5, hRc, hcm, y0, y1, hqT⟩ := hq5.head; subst hv5; obtain ⟨gb', gf', e, c1⟩ := HGC.out _ hS5.bel; cases e)
                  obtain ⟨hn1, hfn, hrn, hcv⟩ := HCV.out
                  obtain ⟨hg1, hg2⟩ := Ap.ch_give L3 f2 n2 hn1 hfn hrn
                  obtain ⟨ha1, ha2⟩ := Ap.not_again L3 f2 n2 hn1 hfn
                  have hl3 := HL3.out
                  have HGI := hid (fun wx hm => give_any b g 64 L3 (f2 : Int) (n2 : Int) (by omega) wx hm)
                  rw [hg1, hg2] at HGI
                  have HGN := hid (fun wx hm => give_any b g 64 (Al.setN L3 f2 false n2) (f2 : Int) (n2 : Int) (by omega) wx hm)
                  rw [ha1, ha2] at HGN
                  have HS5' := hid (hS5.same hqT)
                  have HCT := hid hcv
                  clear hg1 hg2 ha1 ha2 hcv hS5 hq5 hqT hb5 hk5 HCV x0 x1 y0 y1 c1 hrn HS5
                  generalize (if cq = 0 then some (Addr.mk gq oq none) else some (Addr.mk gq (oq + 2) none)) = aq at *
                  generalize hw6 : w5.alloc _ = w6
                  have hb6 : Below w5.heap.size w5 w6 := by rw [← hw6]; exact (Below.refl _ w5).alloc (Nat.le_refl _) _
                  have HX6 := hid (show SBox w6 w5.heap.size (f2 : Int) (n2 : Int) from by rw [← hw6]; exact heap_alloc_new _ _)
                  have hyB : w5.heap.size ≠ B := by have := HS5'.out.own.lt; omega
                  have hyg : w5.heap.size ≠ g := by have := HS5'.out.map.row.lt; omega
                  have HS6 := hid (HS5'.out.below hb6)
                  clear hw6 hb6 HS5'
                  generalize w5.heap.size = z5 at *
                  have y0 := HX6.out.c0
                  have y1 := HX6.out.c1
                  go_wp2_with fail
                  refine (HGI.out _ HS6.out.map).mono ?_
                  rintro e w7 ⟨rfl, hm7, hk7⟩
                  have HS7 := hid (HS6.out.kept hk7 hm7)
                  have HX7 := hid (HX6.out.keptB hk7 hyg)
                  clear hm7 hk7 HS6 HX6 y0 y1
                  have y0 := HX7.out.c0
                  have y1 := HX7.out.c1
                  go_wp2_with fail
                  refine (HGN.out _ HS7.out.map).mono ?_
                  rintro e w8 ⟨rfl, hm8, hk8⟩
                  have HS8 := hid (HS7.out.kept hk8 hm8)
                  have HX8 := hid (HX7.out.keptB hk8 hyg)
                  clear hm8 hk8 HS7 HX7 y0 y1 HGI HGN
                  have y0 := HX8.out.c0
                  have y1 := HX8.out.c1
                  go_upto_region 28 with (fail)
                  go_loopw [13] (fun p w5 => ∃ (q2 N : Nat) (D : DataW Unit), p = .int .i64 ((f2 + q2 : Nat) : Int) ∧ q2 ≤ n2 ∧ N ≤ 72 * j + 8 + q2 ∧ Ap.Holds (Al.setN L3 f2 false q2) D ∧ S w b g B N (Al.setN L3 f2 false n2) D (.slice aq R.length cq) R w5 ∧ SBox w5 z5 (f2 : Int) (n2 : Int))
                    (fun p _ => f2 + n2 - (intOf p).toNat)
                  case atStart => exact ⟨0, N, D, by go_num, by omega, by omega, HD.out, HS8.out, HX8.out⟩
                  case round =>
                    clear HD HS8 HX8 y0 y1
                    obtain ⟨q2, N, D, rfl, hq2, hN2, hD, hS, hX⟩ := hrel
                    have y0 := hX.c0
                    have y1 := hX.c1
                    have HX := hid hX
                    have HS := hid hS
                    have HD := hid hD
                    have HO := hid hS.own
                    clear hX hS hD
                    by_cases hqk : q2 < n2
                    · go_wp2_with (first
                        | (at_mapUpdate; refine wpList_mapUpdate_own _ rfl _ _ _ 38 rfl 3 3 lawI Try.underlying38 _ B N _ rfl HO.out (by unfold maxLen; omega) _ _ _ rfl rfl (keyOf_int_mk Try.underlying3 (WalkArith.wf_i64 (by omega))) _ [] (plainElem_int Try.underlying3 (WalkArith.wf_i64 (by omega))) ?_; intro w9 hown9 hg9)
                        | fail)
                      have hD2 : Ap.Holds (Al.setN L3 f2 false (q2 + 1)) (D.put (.int .i64 ((f2 : Int) + (q2 : Int))) (.lit (.int .i64 0))) := by
                        have := HD.out.put HO.out.isMap (f2 + q2) (by rw [Al.setN_length]; omega) false 0 (by simp)
                        rw [show ((f2 + q2 : Nat) : Int) = (f2 : Int) + (q2 : Int) from by omega] at this
                        exact this
                      exact ⟨⟨q2 + 1, N + 1, _, by go_num, by omega, by omega, hD2, HS.out.put hown9 hg9, box_put HX.out hg9 hyB⟩, by simp [intOf]; omega⟩
                    · obtain rfl : q2 = n2 := by omega
                      have HL3 := hid ((Al.setN_length L3 f2 false q2).trans hl3)
                      have HS9 := HS
                      have HC9 := HCT
                      have hK9 : R.length ≤ j + 1 := by omega
                      have hN9 : N ≤ 72 * (j + 1) := by omega
                      clear HX HCT
                      generalize Al.setN L3 f2 false q2 = L3 at *
                      go_upto_region 32 with (fail)
                      clear y0 y1
                      rename World => w5
                      generalize ((f2 + q2 : Nat) : Int) = p13
                      go_wp2_with (first
                        | (at_range; refine wpList_range_own _ rfl _ 38 rfl 3 3 lawI Try.underlying38 _ B N _ rfl HS9.out.own ?_; intro w6 hrg6 hg6 hs6)
                        | fail)
                      go_frame
                      have HB6 := hid (show Below w5.heap.size w5 w6 from ⟨hg6.os, hg6.tape, hg6.output, hg6.size, fun k hk => hg6.block k hk (by simp)⟩)
                      have HR6 := hid hrg6
                      have HZ := hid (Ap.cnt_zero L3 D HD.out)
                      clear hrg6 hg6 hs6
                      generalize hr : w5.heap.size = r at *
                      have HRr := hid hr
                      clear hr
                      go_loopw [14, 16] (fun n _ wr => ∃ (left : Lit → Bool) (ct : Nat), n = .int .i64 ((Ap.cnt L3 left : Nat) : Int) ∧ World.ranges (H := Unit) wr Try.prog 3 (plainElem Try.prog 3) B r N D left ct ∧ Below r w5 wr)
                        (fun _ _ wr => wr.rangeLeft B r)
                      case atStart => exact ⟨_, _, by rw [HZ.out]; rfl, HR6.out, HB6.out⟩
                      case round =>
                        clear HR6 HB6 HZ
                        obtain ⟨left, ct, rfl, hrg, hbel⟩ := hrel
                        have hm64 := cnt_le L3 left HL3.out
                        have HRG := hid hrg
                        have HBEL := hid hbel
                        have HST := hid (fun x c hl hat => Ap.cnt_step HD.out left x c hl hat)
                        have HCA := hid (fun hl => Ap.cnt_all L3 left hl)
                        clear hrg hbel
                        go_wp2_with (first
                          | (at_next; refine wpList_next_ranges_ii _ rfl _ rfl 3 3 .i64 .i64 lawI Try.underlying3 Try.underlying3 B r N _ _ _ rfl HRG.out ?_ ?_)
                          | fail)
                        · intro hc0 hl0
                          have hall := HCA.out hl0
                          rw [HL3.out] at hall
                          have HS10 := hid (HS9.out.below (HRr.out ▸ HBEL.out))
                          have HFR := hid (free_any b g 64 L3 _ HS10.out.map)
                          rw [Al.spans_sum] at HFR
                          clear HST HCA HRG HBEL hl0
                          generalize Ap.cnt L3 left = m at *
                          generalize L3.count false = fr at *
                          go_wp2_with fail
                          refine HFR.out.mono ?_
                          rintro e w7 ⟨rfl, hb7⟩
                          have HS11 := hid (HS10.out.below hb7)
                          have hfr : (fr : Int) = 64 - (m : Int) := by omega
                          clear hb7 HS10
                          go_wp2
                          exact ⟨⟨j + 1, L3, D, _, by go_num, by omega, by omega, hK9, HL3.out, HC9.out, HD.out, HS11.out.mono (by omega)⟩, by simp [intOf]; omega⟩
                        · intro x c w8 ct8 hwx hwc hlx hat hrg8 hlt8 hg8 hs8 hen
                          have hstep := HST.out x c hlx hat
                          have hm8 := cnt_le L3 (fun z => left z && !z.sameKey (Ap.K x)) HL3.out
                          have HR8 := hid hrg8
                          have HB8 := hid (HBEL.out.grown hg8 (by have := HBEL.out.size; have := HRr.out; omega) (fun j hj => by cases hj; exact Nat.le_refl _))
                          clear HST HCA hg8 hs8 hrg8 hat
                          by_cases hc0 : c = 0
                          · subst hc0
                            rw [if_neg (by simp)] at hstep
                            go_wp2
                            exact ⟨⟨_, ct8, congrArg (fun m : Nat => Value.int .i64 (m : Int)) hstep.symm, HR8.out, HB8.out⟩, by rw [HR8.out.left_eq, HRG.out.left_eq]; exact hlt8⟩
                          · rw [if_pos hc0] at hstep
                            go_wp2
                            exact ⟨⟨_, ct8, congrArg (fun m : Nat => Value.int .i64 (m : Int)) hstep.symm, HR8.out, HB8.out⟩, by rw [HR8.out.left_eq, HRG.out.left_eq]; exact hlt8⟩
              · go_upto_region 31 with (refine wpList_appQ rfl _ _ rfl w.heap.size _ K rfl HS5.out.q _ (X, q) rfl (cell_two_sp _ _ _ _) (by omega) hbs ?_; intro v5 w5 hq5 hb5 hk5; have hS5 := HS5.out.app hq5 hb5 hk5; rw [hyR] at hq5 hS5; obtain ⟨gq, oq, cq, hv5, hRc, hcm, y0, y1, hqT⟩ := hq5.head; subst hv5)
                have HS9 := hid hS5
                have HC9 := hid HCV.out
                have hK9 : ((f2, n2) :: R).length ≤ j + 1 := by simp; omega
                have hN9 : N ≤ 72 * (j + 1) := by omega
                clear hS5 hq5 hb5 hk5 hqT y0 y1 x0 x1
                go_wp2_with (first
                  | (at_range; refine wpList_range_own _ rfl _ 38 rfl 3 3 lawI Try.underlying38 _ B N _ rfl HS9.out.own ?_; intro w6 hrg6 hg6 hs6)
                  | fail)
                go_frame
                have HB6 := hid (show Below w5.heap.size w5 w6 from ⟨hg6.os, hg6.tape, hg6.output, hg6.size, fun k hk => hg6.block k hk (by simp)⟩)
                have HR6 := hid hrg6
                have HZ := hid (Ap.cnt_zero L3 D HD.out)
                clear hrg6 hg6 hs6
                generalize hr : w5.heap.size = r at *
                have HRr := hid hr
                clear hr
                go_loopw [14, 16] (fun n _ wr => ∃ (left : Lit → Bool) (ct : Nat), n = .int .i64 ((Ap.cnt L3 left : Nat) : Int) ∧ World.ranges (H := Unit) wr Try.prog 3 (plainElem Try.prog 3) B r N D left ct ∧ Below r w5 wr)
                  (fun _ _ wr => wr.rangeLeft B r)
                case atStart => exact ⟨_, _, by rw [HZ.out]; rfl, HR6.out, HB6.out⟩
                case round =>
                  clear HR6 HB6 HZ
                  obtain ⟨left, ct, rfl, hrg, hbel⟩ := hrel
                  have hm64 := cnt_le L3 left HL3.out
                  have HRG := hid hrg
                  have HBEL := hid hbel
                  have HST := hid (fun x c hl hat => Ap.cnt_step HD.out left x c hl hat)
                  have HCA := hid (fun hl => Ap.cnt_all L3 left hl)
                  clear hrg hbel
                  go_wp2_with (first
                    | (at_next; refine wpList_next_ranges_ii _ rfl _ rfl 3 3 .i64 .i64 lawI Try.underlying3 Try.underlying3 B r N _ _ _ rfl HRG.out ?_ ?_)
                    | fail)
                  · intro hc0 hl0
                    have hall := HCA.out hl0
                    rw [HL3.out] at hall
                    have HS10 := hid (HS9.out.below (HRr.out ▸ HBEL.out))
                    have HFR := hid (free_any b g 64 L3 _ HS10.out.map)
                    rw [Al.spans_sum] at HFR
                    clear HST HCA HRG HBEL hl0
                    generalize Ap.cnt L3 left = m at *
                    generalize L3.count false = fr at *
                    go_wp2_with fail
                    refine HFR.out.mono ?_
                    rintro e w7 ⟨rfl, hb7⟩
                    have HS11 := hid (HS10.out.below hb7)
                    have hfr : (fr : Int) = 64 - (m : Int) := by omega
                    clear hb7 HS10
                    go_wp2
                    exact ⟨⟨j + 1, L3, D, _, by go_num, by omega, by omega, hK9, HL3.out, HC9.out, HD.out, HS11.out.mono (by omega)⟩, by simp [intOf]; omega⟩
                  · intro x c w8 ct8 hwx hwc hlx hat hrg8 hlt8 hg8 hs8 hen
                    have hstep := HST.out x c hlx hat
                    have hm8 := cnt_le L3 (fun z => left z && !z.sameKey (Ap.K x)) HL3.out
                    have HR8 := hid hrg8
                    have HB8 := hid (HBEL.out.grown hg8 (by have := HBEL.out.size; have := HRr.out; omega) (fun j hj => by cases hj; exact Nat.le_refl _))
                    clear HST HCA hg8 hs8 hrg8 hat
                    by_cases hc0 : c = 0
                    · subst hc0
                      rw [if_neg (by simp)] at hstep
                      go_wp2
                      exact ⟨⟨_, ct8, congrArg (fun m : Nat => Value.int .i64 (m : Int)) hstep.symm, HR8.out, HB8.out⟩, by rw [HR8.out.left_eq, HRG.out.left_eq]; exact hlt8⟩
                    · rw [if_pos hc0] at hstep
                      go_wp2
                      exact ⟨⟨_, ct8, congrArg (fun m : Nat => Value.int .i64 (m : Int)) hstep.symm, HR8.out, HB8.out⟩, by rw [HR8.out.left_eq, HRG.out.left_eq]; exact hlt8⟩
      · obtain rfl : j = 40 := by omega
        have hji : (40 : Int) < (A.length : Int) := by omega
        rw [show ((40 : Nat) : Int) = 40 from rfl]
        clear hS hC hD hL
        go_wp2
        go_ret
        exact ⟨by first | rfl | simp, HS.out.bel⟩
    · obtain rfl : j = A.length := by omega
      clear hS hC hD hL
      go_wp2
      go_ret
      exact ⟨by first | rfl | simp, HS.out.bel⟩

set_option maxRecDepth 100000 in
theorem contract (H : Type) (enc : TypeId × Value → H) (W : World) (base : Nat) (args : Array Value) (ds gs : List (DataW H)) (before : List MemPlace)
    (hval : ∀ (j : Nat) t v, Try.f4.params[j]? = some t → args[j]? = some v → Value.okWide Try.prog W .any base t v)
    (hW : DataW.Whole enc Try.prog Try.f4.params.toList Rows.allocApartSpec.vars false W args.toList ds gs before) (hL : laidMetH Try.prog Rows.allocApartRow.laid W) :
    Calls Try.prog 4 args W fun e W' => ∃ v, e = .returned v ∧ Rows.allocApartSpec.post enc Try.prog Try.f4 false true false false W args v W' := by
  have hW' := hW
  obtain ⟨p, q, hA0, hV, rfl, hfz, hnd⟩ := hW
  have hA : DataW.TrodAll enc Try.prog W 0 (fun _ => true) true Try.f4.params.toList args.toList ds p := hA0
  rw [Try.params4] at hA hval
  obtain ⟨v0, vs0, d0, ds0, p0, q0, hargs, rfl, rfl, h0, r0⟩ := trodAll_cons hA
  obtain ⟨v1, vs1, d1, ds1, p1, q1, rfl, rfl, rfl, h1, r1⟩ := trodAll_cons r0
  obtain ⟨rfl, rfl, rfl⟩ := trodAll_nil r1
  obtain rfl : args = #[v0, v1] := by cases args; simp_all
  obtain ⟨ao0, L0, cap0, rfl, hL0⟩ := open_is (hval 0 37 v0 rfl rfl) h0
  obtain ⟨ao1, L1, cap1, rfl, hR1, hL1⟩ := open_bs (hval 1 26 v1 rfl rfl) h1
  refine (walk ao0 L0 cap0 ao1 L1 cap1 W hL0.1 hL0.2 hR1 hL1).mono fun e W' ⟨he, hb⟩ => ?_
  subst he
  exact ⟨_, rfl, law_post rfl rfl (by rw [Try.params4]; decide +kernel) hW' rfl hb⟩

theorem laid_met (os : Os) : laidMet Try.prog Rows.allocApartRow.laid ((laidWorld os).forCall (fun _ _ => 0) ⟨#[], #[.slice none 0 0, .slice none 0 0], []⟩).memory :=
  laidMet_of_run' 8 (by kernel_rfl) (by kernel_rfl)
theorem reads (os : Os) {H : Type} (enc : TypeId × Value → H) : ∃ places, DataW.whole enc Try.prog ((laidWorld os).forCall (fun _ _ => 0) ⟨#[], #[.slice none 0 0, .slice none 0 0], []⟩).memory Try.f4.params.toList Rows.allocApartSpec.vars false (#[.slice none 0 0, .slice none 0 0] : Array Value).toList 8
    = some ([.nil, .nil], [], places) :=
  ⟨[], by kernel_rfl⟩

set_option maxRecDepth 100000 in
theorem lifted (os : Os) (started : os.Started) (H : Type) (enc : TypeId × Value → H) (F : Stop.Interp) :
    ReturnsInHanded {} Try.checked os 4 .any ((OpenSpec.ofChange Rows.allocApartSpec).preRow enc Try.prog Try.f4 Rows.allocApartRow.domain false Rows.allocApartRow.laid) (((OpenSpec.ofChange Rows.allocApartSpec).at F).post enc Try.prog Try.f4 false true false false) := by
  obtain ⟨places, hx⟩ := reads os enc
  refine returnsInHanded_of_row (C := Try.checked) (s := OpenSpec.ofChange Rows.allocApartSpec) own started (by kernel_rfl) Try.func4
    (witness_row_at (enc := enc) (C := Try.checked) false (laidWorld os) #[.slice none 0 0, .slice none 0 0] rfl (by kernel_rfl) (by kernel_rfl) (by kernel_rfl)
      (OpenSpec.preRow_of_cond 8 hx (by kernel_rfl) (fun k hk => by cases hk) (by kernel_rfl) (laid_met os))) ?_
  intro W base args ds gs before hval hW _ _ _ hL _ _
  exact contract H enc W base args ds gs before hval hW hL

theorem said : Rows.AllocApartSaid :=
  OpenClaim.holds_of_cond 4 Try.f4 rfl rfl rfl rfl rfl rfl rfl ⟨rfl, rfl, rfl, rfl, rfl⟩ rfl rfl rfl rfl rfl (by kernel_rfl) Try.func4 (by kernel_rfl)
    (of_decide_eq_true (by kernel_rfl)) (by unfold Func.isWrapper; first | (rw [if_pos (by decide +kernel)]; kernel_rfl) | (rw [if_neg (by decide +kernel)]; exact ⟨rfl, rfl⟩))
    (fun os started H enc _ F => by rw [OpenClaim.pre_eq_preRow]; exact lifted os started H enc F)


end AllocApart
theorem allocApart_said : Rows.AllocApartSaid := AllocApart.said
end Go.Proofs.Ytmlkbdkehoajaaa
