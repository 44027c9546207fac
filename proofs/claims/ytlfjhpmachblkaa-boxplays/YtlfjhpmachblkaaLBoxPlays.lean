/-
  Behind any calls a box is just the document's; a clone goes its own way (law BoxPlays); for every input.
-/
import Derived.Test.YtlfjhpmachblkaaBx19
namespace Go.Proofs.Ytlfjhpmachblkaa
open Go.ChangeShapes Go.WideShapes Go.ChangeAt Go.RowKit
open Go.Lib (hid)

attribute [local go_sem] Oper.semAt_some

namespace BoxPlays
set_option maxHeartbeats 4000000 in
set_option maxRecDepth 100000 in
theorem walk (n : Int) (ao : Option Addr) (A : List Bv.A) (cap : Nat) (bo : Option Addr) (B : List Bv.A) (capb : Nat) (w : World) (hA : ActsX w ao A) (hB : ActsX w bo B) :
    Calls Try.prog 3 #[.int .i64 n, .slice ao A.length cap, .slice bo B.length capb] w fun e w' => e = .returned (.bool true) ∧ Below w.heap.size w w' := by
  have HW := hid (awake18_any w)
  obtain ⟨V, hV⟩ : ∃ V : Int, max 1 (min n 1099511627776) = V := ⟨_, rfl⟩
  have hVc : Bv.okc V = true := by unfold Bv.okc; simp; omega
  have HN := hid (fun wx => bnew_any n V hV wx)
  have HRN := hid (fun wx => rnew18_any n V hV wx)
  have HA := hid hA
  have HB := hid hB
  clear hA hB hV
  unfold rbV at HRN
  go_enter Try.func3, Try.ntmps3
  go_wp2_with fail
  refine HW.out.mono ?_
  rintro e w0 ⟨rfl, hb0⟩
  go_wp2_with fail
  refine (HN.out _).mono ?_
  rintro e w1 ⟨rfl, hi1, hb1⟩
  have S1 := hid (show BxS w w1 w0.heap.size _ V 1 [] from ⟨hi1, hb0.size, VFresh.nil _, hb0.trans (hb1.mono hb0.size)⟩)
  clear hi1 hb1 hb0 HW HN
  generalize w0.heap.size = b at *
  go_wp2_with fail
  refine (HRN.out _).mono ?_
  rintro e w2 ⟨rfl, hb2⟩
  have S2 := hid (S1.out.below hb2)
  clear hb2 S1 HRN
  go_upto_region 4 with (fail)
  generalize hW3 : World.alloc _ _ = w3
  have hb3 : Below w2.heap.size w2 w3 := by rw [← hW3]; exact (Below.refl _ _).alloc (Nat.le_refl _) _
  have R3 := hid (show BxR w w3 b w2.heap.size (.slice none 0 0) (.slice none 0 0) V 1 [] from ⟨S2.out.below hb3, OwnB.nil _ _, by rw [← hW3]; exact heap_alloc_new _ _, S2.out.bel.size, Bv.Good.new hVc⟩)
  clear hW3 hb3 S2
  generalize w2.heap.size = z8 at *
  go_upto_region 8 with (fail)
  go_loopw [9, 10] (fun _ i wr => ∃ (p : Nat) (v r : Value) (X : Int) (L : List Bv.E), p ≤ A.length ∧ p ≤ 40 ∧ i = .int .i64 p ∧ X ≤ (p : Int) + 1 ∧ BxR w wr b z8 v r V X L)
    (fun _ i _ => A.length - (intOf i).toNat)
  case atStart => exact ⟨0, _, _, 1, [], by omega, by omega, rfl, by omega, R3.out⟩
  case round =>
    obtain ⟨p, v, r, X, L, hpA, hp40, rfl, hXp, hR⟩ := hrel
    have S := hid hR
    clear hR R3
    by_cases hlt : p < A.length
    · by_cases hl2 : p < 40
      · have hpi : (p : Int) < (A.length : Int) := by omega
        have hpi2 : (p : Int) < 40 := by omega
        obtain ⟨⟨k, u, m, on, off⟩, hz⟩ : ∃ z, A.getD p Bv.A.z = z := ⟨_, rfl⟩
        obtain ⟨sb, so, rfl, _⟩ := (HA.out.below S.out.bs.bel).get p hlt k u m on off hz
        have HACT := hid (fun W (hW : Below w.heap.size w W) => (HA.out.below hW).get p hlt k u m on off hz)
        have hgs := S.out.good.st (by omega) (k, u, m, on, off)
        have hxs := Bv.st_le X L (k, u, m, on, off)
        obtain ⟨c0, c1, c2⟩ := S.out.rb.c
        have SD := hid (S.out.below ((Below.refl _ wr).drew))
        have hDo := do18_any b v r V X L k u m on off wr.drew SD.out.bs.is SD.out.rf S.out.good (by omega)
        generalize Bv.stX X L (k, u, m, on, off) = X' at *
        generalize Bv.stL X L (k, u, m, on, off) = L' at *
        unfold rbV at hDo
        have HDO := hid hDo
        have HGS := hid hgs
        clear hDo hz hgs
        go_upto_region 10 with (fail)
        refine wp_region_noPanic ?_
        refine wp_region_held_drew (S := fun W : World => Below w.heap.size w W) (by kernel_rfl) (S.out.bs.bel.drew) (fun hS1 => ?_)
        change wpAnyH _ _ _ _ _ 12 _ _ _
        refine wpAnyH_take (i := 0) (oi := ?oi2) (v := .pointer (some ⟨b, 0, none⟩)) ?hi2 (by kernel_rfl) (by kernel_rfl) (by kernel_rfl) (fun _ _ _ h => h) ?hy2 hS1 ?rest2
        case hi2 => simp only [List.getElem?_toArray, List.getElem?_cons_zero]; rfl
        case hy2 => exact Or.inl ⟨rfl, fun _ hSw => rfl⟩
        simp only [Act.put, List.setIfInBounds_toArray, List.set_cons_zero, List.set_cons_succ]
        refine wpAnyH_take (i := 2) (oi := ?oi3) (v := .slice (some ⟨sb, so, none⟩) A.length cap) ?hi3 (by kernel_rfl) (by kernel_rfl) (by kernel_rfl) (fun _ _ _ h => h) ?hy3 hS1 ?rest3
        case hi3 => simp only [List.getElem?_toArray, List.getElem?_cons_succ, List.getElem?_cons_zero]; rfl
        case hy3 => exact Or.inl ⟨rfl, fun _ hSw => rfl⟩
        simp only [Act.put, List.setIfInBounds_toArray, List.set_cons_zero, List.set_cons_succ]
        refine wpAnyH_take (i := 3) (oi := ?oi4) (v := .int .i64 (p : Int)) ?hi4 (by kernel_rfl) (by kernel_rfl) (by kernel_rfl) (fun _ _ _ h => h) ?hy4 hS1 ?rest4
        case hi4 => simp only [List.getElem?_toArray, List.getElem?_cons_succ, List.getElem?_cons_zero]; rfl
        case hy4 => exact Or.inl ⟨rfl, fun _ hSw => rfl⟩
        simp only [Act.put, List.setIfInBounds_toArray, List.set_cons_zero, List.set_cons_succ]
        refine wpAnyH_take (i := 4) (oi := ?oi5) (v := .pointer (some ⟨sb, so + p * 5, none⟩)) ?hi5 (by kernel_rfl) (by kernel_rfl) (by kernel_rfl) (fun _ _ _ h => h) ?hy5 hS1 ?rest5
        case hi5 => simp only [List.getElem?_toArray, List.getElem?_cons_succ, List.getElem?_cons_zero]; rfl
        case hy5 => exact Or.inl ⟨rfl, fun _ hSw => by go_simp⟩
        simp only [Act.put, List.setIfInBounds_toArray, List.set_cons_zero, List.set_cons_succ]
        refine wpAnyH_take (i := 5) (oi := ?oi6) (v := .agg #[.int .i64 k, .int .i64 u, .int .i64 m, .int .i64 on, .int .i64 off]) ?hi6 (by kernel_rfl) (by kernel_rfl) (by kernel_rfl) (fun _ _ _ h => h) ?hy6 hS1 ?rest6
        case hi6 => simp only [List.getElem?_toArray, List.getElem?_cons_succ, List.getElem?_cons_zero]; rfl
        case hy6 => exact Or.inl ⟨rfl, fun _ hSw => by obtain ⟨_, _, e, q0, q1, q2, q3, q4⟩ := HACT.out _ hSw; cases e; go_simp⟩
        simp only [Act.put, List.setIfInBounds_toArray, List.set_cons_zero, List.set_cons_succ]
        refine wpAnyH_ready (rs := [1]) (by kernel_rfl) (by simp) ?_
        refine AllReadyH.cons (o := ?oiu7_1) ?hiu7_1 ?stepu7_1 AllReadyH.nil
        case hiu7_1 => simp only [List.getElem?_toArray, List.getElem?_cons_succ, List.getElem?_cons_zero]; rfl
        intro K hK
        go_simp
        refine hK.out _ _ hS1 (fun hS2 => ?_)
        clear hK K c0 c1 c2
        try simp only [Act.put, List.setIfInBounds_toArray, List.set_cons_zero, List.set_cons_succ]
        generalize wr.drew = wd at *
        refine wpAnyH_ready (rs := [6]) (by kernel_rfl) (by simp) ?_
        refine AllReadyH.cons (o := ?oiu8_6) ?hiu8_6 ?stepu8_6 AllReadyH.nil
        case hiu8_6 => simp only [List.getElem?_toArray, List.getElem?_cons_succ, List.getElem?_cons_zero]; rfl
        intro K hK
        go_simp
        refine HDO.out.mono ?_
        rintro e w4 ⟨v4, r4, rfl, hi4, ho4, hk4⟩
        obtain ⟨ar4, cr4, hr4⟩ := ownsRow_slice ho4
        subst hr4
        have RN := hid (SD.out.step hi4 ho4 hk4 HGS.out)
        have R4 := hid (rb_toR SD.out.rb SD.out.bs.is hk4)
        have hb4 := (SD.out.bs.to hi4 hk4).bel
        refine hK.out _ _ hb4 (fun hS3 => ?_)
        clear hK K hi4 ho4 hk4 hb4 hS1 hS2
        try simp only [Act.put, List.setIfInBounds_toArray, List.set_cons_zero, List.set_cons_succ]
        refine wpAnyH_take (i := 7) (oi := ?oi9) (v := .tuple #[.agg #[.int .i64 V, .int .i64 X', .slice ar4 L'.length cr4], .bool true]) ?hi9 (by kernel_rfl) (by kernel_rfl) (by kernel_rfl) (fun _ _ _ h => h) ?hy9 hS3 ?rest9
        case hi9 => simp only [List.getElem?_toArray, List.getElem?_cons_succ, List.getElem?_cons_zero]; rfl
        case hy9 => exact Or.inl ⟨rfl, fun _ hSw => rfl⟩
        simp only [Act.put, List.setIfInBounds_toArray, List.set_cons_zero, List.set_cons_succ]
        refine wpAnyH_take (i := 8) (oi := ?oi10) (v := .agg #[.int .i64 V, .int .i64 X', .slice ar4 L'.length cr4]) ?hi10 (by kernel_rfl) (by kernel_rfl) (by kernel_rfl) (fun _ _ _ h => h) ?hy10 hS3 ?rest10
        case hi10 => simp only [List.getElem?_toArray, List.getElem?_cons_succ, List.getElem?_cons_zero]; rfl
        case hy10 => exact Or.inl ⟨rfl, fun _ hSw => by go_simp⟩
        simp only [Act.put, List.setIfInBounds_toArray, List.set_cons_zero, List.set_cons_succ]
        refine wpAnyH_take (i := 9) (oi := ?oi11) (v := .bool true) ?hi11 (by kernel_rfl) (by kernel_rfl) (by kernel_rfl) (fun _ _ _ h => h) ?hy11 hS3 ?rest11
        case hi11 => simp only [List.getElem?_toArray, List.getElem?_cons_succ, List.getElem?_cons_zero]; rfl
        case hy11 => exact Or.inl ⟨rfl, fun _ hSw => by go_simp⟩
        simp only [Act.put, List.setIfInBounds_toArray, List.set_cons_zero, List.set_cons_succ]
        obtain ⟨⟨z0, s0⟩, f0, s1, f1, s2, f2⟩ := R4.out.wr
        have hbn := RN.out.bs.bel
        refine wpAnyH_ready (rs := [10]) (by kernel_rfl) (by simp) ?_
        refine AllReadyH.cons (o := ?oiu12_10) ?hiu12_10 ?stepu12_10 AllReadyH.nil
        case hiu12_10 => simp only [List.getElem?_toArray, List.getElem?_cons_succ, List.getElem?_cons_zero]; rfl
        intro K hK
        go_simp
        refine hK.out _ _ hbn (fun hS4 => ?_)
        clear hK K s0 s1 s2 f0 f1 f2 hS3 hbn
        try simp only [Act.put, List.setIfInBounds_toArray, List.set_cons_zero, List.set_cons_succ]
        generalize World.setCell _ _ _ = w5 at *
        refine wpAnyH_ready (rs := [11]) (by kernel_rfl) (by simp) ?_
        refine AllReadyH.cons (o := ?oiu13_11) ?hiu13_11 ?stepu13_11 AllReadyH.nil
        case hiu13_11 => simp only [List.getElem?_toArray, List.getElem?_cons_succ, List.getElem?_cons_zero]; rfl
        intro K hK
        go_simp
        refine hK.out _ _ hS4 (fun hS5 => ?_)
        clear hK K
        try simp only [Act.put, List.setIfInBounds_toArray, List.set_cons_zero, List.set_cons_succ]
        refine wpAnyH_done (by kernel_rfl) ?_ _
        refine NoPanic.normal ?_
        clear hS4 hS5 HDO HACT SD R4 S HGS
        obtain ⟨c0, c1, c2⟩ := RN.out.rb.c
        have HIS := hid (is18_any b v4 (.slice ar4 L'.length cr4) V X' L' w5 RN.out.bs.is RN.out.rf RN.out.good)
        unfold rbV at HIS
        go_wp2_with fail
        refine HIS.out.mono ?_
        rintro e w6 ⟨rfl, hb6⟩
        have RN6 := hid (RN.out.below hb6)
        clear hb6 HIS RN c0 c1 c2
        go_wp2
        exact ⟨⟨p + 1, v4, .slice ar4 L'.length cr4, X', L', by omega, by omega, by go_num, by omega, RN6.out⟩, by simp [intOf]; omega⟩
      · obtain rfl : p = 40 := by omega
        have hji : (40 : Int) < (A.length : Int) := by omega
        rw [show ((40 : Nat) : Int) = 40 from rfl]
        obtain ⟨arr, crr, hrr⟩ := ownsRow_slice S.out.rf
        subst hrr
        have hX41 : X ≤ 41 := by omega
        have HCL := hid (fun wx hx => bclone_any (b := b) (v := v) (V := V) (X := X) (L := L) (w := wx) hx (by have := S.out.good.len; omega))
        clear HA
        go_upto_region 13 with (fail)
        refine wp_region_noPanic ?_
        refine wp_region_held_drew (S := fun W : World => Below wr.heap.size wr W) (by kernel_rfl) ((Below.refl _ wr).drew) (fun hS1 => ?_)
        change wpAnyH _ _ _ _ _ 6 _ _ _
        refine wpAnyH_take (i := 0) (oi := ?oi16) (v := .pointer (some ⟨b, 0, none⟩)) ?hi16 (by kernel_rfl) (by kernel_rfl) (by kernel_rfl) (fun _ _ _ h => h) ?hy16 hS1 ?rest16
        case hi16 => simp only [List.getElem?_toArray, List.getElem?_cons_zero]; rfl
        case hy16 => exact Or.inl ⟨rfl, fun _ hSw => rfl⟩
        simp only [Act.put, List.setIfInBounds_toArray, List.set_cons_zero, List.set_cons_succ]
        refine wpAnyH_take (i := 2) (oi := ?oi17) (v := .agg ([.int .i64 V, .int .i64 X, .slice arr L.length crr] : List Value).toArray) ?hi17 (by kernel_rfl) (by kernel_rfl) (by kernel_rfl) (fun _ _ _ h => h) ?hy17 hS1 ?rest17
        case hi17 => simp only [List.getElem?_toArray, List.getElem?_cons_succ, List.getElem?_cons_zero]; rfl
        case hy17 => 
          refine yieldsIf_load_mid ?w17 _ ?x17 ?o17 z8 0 ?e17 ([.int .i64 V, .int .i64 X, .slice arr L.length crr] : List Value) _ ?s17 Try.underlying28 rfl infoRB
          case o17 => rfl
          case w17 => rfl
          case e17 => rfl
          case s17 => intro _ hSw; exact range_row (S.out.rb.below hSw)
        simp only [Act.put, List.setIfInBounds_toArray, List.set_cons_zero, List.set_cons_succ]
        try simp only [Array.toArray_toList]
        have SD := hid (S.out.below ((Below.refl _ wr).drew))
        generalize wr.drew = wd at *
        refine wpAnyH_ready (rs := [1, 3]) (by kernel_rfl) (by simp) ?_
        refine AllReadyH.cons (o := ?oixa_1) ?hixa_1 ?stepxa_1 (AllReadyH.cons (o := ?oixa_3) ?hixa_3 ?stepxa_3 AllReadyH.nil)
        case hixa_1 => simp only [List.getElem?_toArray, List.getElem?_cons_succ, List.getElem?_cons_zero]; rfl
        case hixa_3 => simp only [List.getElem?_toArray, List.getElem?_cons_succ, List.getElem?_cons_zero]; rfl
        case stepxa_1 =>
          intro K hK
          go_simp
          refine (HCL.out _ (S.out.bs.is.below hS1)).mono ?_
          rintro e w4 ⟨c, vc, rfl, hic, hfc, hcc, hbc⟩
          refine hK.out _ _ (hS1.trans (hbc.mono hS1.size)) (fun hS2 => ?_)
          clear hK K
          try simp only [Act.put, List.setIfInBounds_toArray, List.set_cons_zero, List.set_cons_succ]
          refine wpAnyH_ready (rs := [3]) (by kernel_rfl) (by simp) ?_
          refine AllReadyH.cons (o := ?oixb_3) ?hixb_3 ?stepxb_3 AllReadyH.nil
          case hixb_3 => simp only [List.getElem?_toArray, List.getElem?_cons_succ, List.getElem?_cons_zero]; rfl
          intro K hK
          go_simp
          generalize hW5 : World.alloc _ _ = w5
          have hb5 : Below w4.heap.size w4 w5 := by rw [← hW5]; exact (Below.refl _ _).alloc (Nat.le_refl _) _
          have hn5 : w5.heap[w4.heap.size]? = some (.cells #[.int .i64 0, .int .i64 0, .slice none 0 0] 28 (0, 0)) := by rw [← hW5]; exact heap_alloc_new _ _
          have IC := hid (hic.below hb5)
          have FC := hid (show VFresh wr vc from fun k hk => Nat.le_trans hS1.size (hfc k hk))
          have CC := hid (show wr.heap.size ≤ c from Nat.le_trans hS1.size hcc)
          have R5 := hid (show RbAt w5 w4.heap.size 0 0 (.slice none 0 0) from hn5)
          have Z5 := hid hS2.size
          have B5 := hid (hS2.trans (hb5.mono hS2.size))
          refine hK.out _ _ B5.out (fun hS3 => ?_)
          clear hK K hW5 hb5 hn5 hic hfc hcc hbc hS2 hS1 hS3
          try simp only [Act.put, List.setIfInBounds_toArray, List.set_cons_zero, List.set_cons_succ]
          generalize w4.heap.size = z12 at *
          refine wpAnyH_ready (rs := [4]) (by kernel_rfl) (by simp) ?_
          refine AllReadyH.cons (o := ?oixe_4) ?hixe_4 ?stepxe_4 AllReadyH.nil
          case hixe_4 => simp only [List.getElem?_toArray, List.getElem?_cons_succ, List.getElem?_cons_zero]; rfl
          intro K hK
          go_simp
          refine hK.out _ _ B5.out (fun hS3 => ?_)
          clear hK K
          try simp only [Act.put, List.setIfInBounds_toArray, List.set_cons_zero, List.set_cons_succ]
          have hk6 := set3_kept (w := w5) (B := z12) (.int .i64 V) (.int .i64 X) (.slice arr L.length crr)
          obtain ⟨⟨z0, s0⟩, f0, s1, f1, s2, f2⟩ := R5.out.wr
          have hB6 := hk6.below2 B5.out Z5.out
          have hO5 := S.out.rf.below B5.out
          have hRC : BxR wr (((w5.setCell ⟨z12, 0, none⟩ (.int .i64 V)).setCell ⟨z12, 1, none⟩ (.int .i64 X)).setCell ⟨z12, 2, none⟩ (.slice arr L.length crr)) c z12 vc (.slice arr L.length crr) V X L :=
            ⟨⟨IC.out.setR R5.out hk6, CC.out, FC.out, hB6⟩, hO5.other hk6 (R5.out.nown hO5), R5.out.set V X (.slice arr L.length crr), Z5.out, S.out.good⟩
          have RC := hid hRC
          have HB6 := hid hB6
          clear hk6 hO5 hRC
          refine wpAnyH_ready (rs := [5]) (by kernel_rfl) (by simp) ?_
          refine AllReadyH.cons (o := ?oixf_5) ?hixf_5 ?stepxf_5 AllReadyH.nil
          case hixf_5 => simp only [List.getElem?_toArray, List.getElem?_cons_succ, List.getElem?_cons_zero]; rfl
          intro K hK
          go_simp
          refine hK.out _ _ hB6 (fun hS4 => ?_)
          clear hK K s0 s1 s2 f0 f1 f2 hB6 hS3
          try simp only [Act.put, List.setIfInBounds_toArray, List.set_cons_zero, List.set_cons_succ]
          generalize World.setCell _ _ _ = w6 at *
          refine wpAnyH_done (by kernel_rfl) ?_ _
          refine NoPanic.normal ?_
          have HSB : Hid (∃ vb rb Xb Lb, BxR w wr b z8 vb rb V Xb Lb) := hid ⟨_, _, _, _, S.out⟩
          have HBC := hid (HB.out.below S.out.bs.bel)
          have hX42 : X ≤ 42 := by omega
          clear hS4 HB6 IC FC CC R5 Z5 B5 HB HCL S SD
          generalize wr = wC at *
          go_upto_region 17 with (fail)
          go_loopw [9, 13] (fun _ i wr => ∃ (p : Nat) (v r : Value) (X : Int) (L : List Bv.E), p ≤ B.length ∧ p ≤ 15 ∧ i = .int .i64 p ∧ X ≤ (p : Int) + 42 ∧ BxR wC wr c z12 v r V X L)
            (fun _ i _ => B.length - (intOf i).toNat)
          case atStart => exact ⟨0, _, _, X, L, by omega, by omega, rfl, by omega, RC.out⟩
          case round =>
            obtain ⟨p, v, r, X, L, hpA, hp40, rfl, hXp, hR⟩ := hrel
            have S := hid hR
            clear hR RC
            by_cases hlt : p < B.length
            · by_cases hl2 : p < 15
              · have hpi : (p : Int) < (B.length : Int) := by omega
                have hpi2 : (p : Int) < 15 := by omega
                obtain ⟨⟨k, u, m, on, off⟩, hz⟩ : ∃ z, B.getD p Bv.A.z = z := ⟨_, rfl⟩
                obtain ⟨sb, so, rfl, _⟩ := (HBC.out.below S.out.bs.bel).get p hlt k u m on off hz
                have HACT := hid (fun W (hW : Below wC.heap.size wC W) => (HBC.out.below hW).get p hlt k u m on off hz)
                have hgs := S.out.good.st (by omega) (k, u, m, on, off)
                have hxs := Bv.st_le X L (k, u, m, on, off)
                obtain ⟨c0, c1, c2⟩ := S.out.rb.c
                have SD := hid (S.out.below ((Below.refl _ wr).drew))
                have hDo := do18_any c v r V X L k u m on off wr.drew SD.out.bs.is SD.out.rf S.out.good (by omega)
                generalize Bv.stX X L (k, u, m, on, off) = X' at *
                generalize Bv.stL X L (k, u, m, on, off) = L' at *
                unfold rbV at hDo
                have HDO := hid hDo
                have HGS := hid hgs
                clear hDo hz hgs
                go_upto_region 19 with (fail)
                refine wp_region_noPanic ?_
                refine wp_region_held_drew (S := fun W : World => Below wC.heap.size wC W) (by kernel_rfl) (S.out.bs.bel.drew) (fun hS1 => ?_)
                change wpAnyH _ _ _ _ _ 12 _ _ _
                refine wpAnyH_take (i := 0) (oi := ?oi24) (v := .pointer (some ⟨c, 0, none⟩)) ?hi24 (by kernel_rfl) (by kernel_rfl) (by kernel_rfl) (fun _ _ _ h => h) ?hy24 hS1 ?rest24
                case hi24 => simp only [List.getElem?_toArray, List.getElem?_cons_zero]; rfl
                case hy24 => exact Or.inl ⟨rfl, fun _ hSw => rfl⟩
                simp only [Act.put, List.setIfInBounds_toArray, List.set_cons_zero, List.set_cons_succ]
                refine wpAnyH_take (i := 2) (oi := ?oi25) (v := .slice (some ⟨sb, so, none⟩) B.length capb) ?hi25 (by kernel_rfl) (by kernel_rfl) (by kernel_rfl) (fun _ _ _ h => h) ?hy25 hS1 ?rest25
                case hi25 => simp only [List.getElem?_toArray, List.getElem?_cons_succ, List.getElem?_cons_zero]; rfl
                case hy25 => exact Or.inl ⟨rfl, fun _ hSw => rfl⟩
                simp only [Act.put, List.setIfInBounds_toArray, List.set_cons_zero, List.set_cons_succ]
                refine wpAnyH_take (i := 3) (oi := ?oi26) (v := .int .i64 (p : Int)) ?hi26 (by kernel_rfl) (by kernel_rfl) (by kernel_rfl) (fun _ _ _ h => h) ?hy26 hS1 ?rest26
                case hi26 => simp only [List.getElem?_toArray, List.getElem?_cons_succ, List.getElem?_cons_zero]; rfl
                case hy26 => exact Or.inl ⟨rfl, fun _ hSw => rfl⟩
                simp only [Act.put, List.setIfInBounds_toArray, List.set_cons_zero, List.set_cons_succ]
                refine wpAnyH_take (i := 4) (oi := ?oi27) (v := .pointer (some ⟨sb, so + p * 5, none⟩)) ?hi27 (by kernel_rfl) (by kernel_rfl) (by kernel_rfl) (fun _ _ _ h => h) ?hy27 hS1 ?rest27
                case hi27 => simp only [List.getElem?_toArray, List.getElem?_cons_succ, List.getElem?_cons_zero]; rfl
                case hy27 => exact Or.inl ⟨rfl, fun _ hSw => by go_simp⟩
                simp only [Act.put, List.setIfInBounds_toArray, List.set_cons_zero, List.set_cons_succ]
                refine wpAnyH_take (i := 5) (oi := ?oi28) (v := .agg #[.int .i64 k, .int .i64 u, .int .i64 m, .int .i64 on, .int .i64 off]) ?hi28 (by kernel_rfl) (by kernel_rfl) (by kernel_rfl) (fun _ _ _ h => h) ?hy28 hS1 ?rest28
                case hi28 => simp only [List.getElem?_toArray, List.getElem?_cons_succ, List.getElem?_cons_zero]; rfl
                case hy28 => exact Or.inl ⟨rfl, fun _ hSw => by obtain ⟨_, _, e, q0, q1, q2, q3, q4⟩ := HACT.out _ hSw; cases e; go_simp⟩
                simp only [Act.put, List.setIfInBounds_toArray, List.set_cons_zero, List.set_cons_succ]
                refine wpAnyH_ready (rs := [1]) (by kernel_rfl) (by simp) ?_
                refine AllReadyH.cons (o := ?oiu29_1) ?hiu29_1 ?stepu29_1 AllReadyH.nil
                case hiu29_1 => simp only [List.getElem?_toArray, List.getElem?_cons_succ, List.getElem?_cons_zero]; rfl
                intro K hK
                go_simp
                refine hK.out _ _ hS1 (fun hS2 => ?_)
                clear hK K c0 c1 c2
                try simp only [Act.put, List.setIfInBounds_toArray, List.set_cons_zero, List.set_cons_succ]
                generalize wr.drew = wd at *
                refine wpAnyH_ready (rs := [6]) (by kernel_rfl) (by simp) ?_
                refine AllReadyH.cons (o := ?oiu30_6) ?hiu30_6 ?stepu30_6 AllReadyH.nil
                case hiu30_6 => simp only [List.getElem?_toArray, List.getElem?_cons_succ, List.getElem?_cons_zero]; rfl
                intro K hK
                go_simp
                refine HDO.out.mono ?_
                rintro e w4 ⟨v4, r4, rfl, hi4, ho4, hk4⟩
                obtain ⟨ar4, cr4, hr4⟩ := ownsRow_slice ho4
                subst hr4
                have RN := hid (SD.out.step hi4 ho4 hk4 HGS.out)
                have R4 := hid (rb_toR SD.out.rb SD.out.bs.is hk4)
                have hb4 := (SD.out.bs.to hi4 hk4).bel
                refine hK.out _ _ hb4 (fun hS3 => ?_)
                clear hK K hi4 ho4 hk4 hb4 hS1 hS2
                try simp only [Act.put, List.setIfInBounds_toArray, List.set_cons_zero, List.set_cons_succ]
                refine wpAnyH_take (i := 7) (oi := ?oi31) (v := .tuple #[.agg #[.int .i64 V, .int .i64 X', .slice ar4 L'.length cr4], .bool true]) ?hi31 (by kernel_rfl) (by kernel_rfl) (by kernel_rfl) (fun _ _ _ h => h) ?hy31 hS3 ?rest31
                case hi31 => simp only [List.getElem?_toArray, List.getElem?_cons_succ, List.getElem?_cons_zero]; rfl
                case hy31 => exact Or.inl ⟨rfl, fun _ hSw => rfl⟩
                simp only [Act.put, List.setIfInBounds_toArray, List.set_cons_zero, List.set_cons_succ]
                refine wpAnyH_take (i := 8) (oi := ?oi32) (v := .agg #[.int .i64 V, .int .i64 X', .slice ar4 L'.length cr4]) ?hi32 (by kernel_rfl) (by kernel_rfl) (by kernel_rfl) (fun _ _ _ h => h) ?hy32 hS3 ?rest32
                case hi32 => simp only [List.getElem?_toArray, List.getElem?_cons_succ, List.getElem?_cons_zero]; rfl
                case hy32 => exact Or.inl ⟨rfl, fun _ hSw => by go_simp⟩
                simp only [Act.put, List.setIfInBounds_toArray, List.set_cons_zero, List.set_cons_succ]
                refine wpAnyH_take (i := 9) (oi := ?oi33) (v := .bool true) ?hi33 (by kernel_rfl) (by kernel_rfl) (by kernel_rfl) (fun _ _ _ h => h) ?hy33 hS3 ?rest33
                case hi33 => simp only [List.getElem?_toArray, List.getElem?_cons_succ, List.getElem?_cons_zero]; rfl
                case hy33 => exact Or.inl ⟨rfl, fun _ hSw => by go_simp⟩
                simp only [Act.put, List.setIfInBounds_toArray, List.set_cons_zero, List.set_cons_succ]
                obtain ⟨⟨z0, s0⟩, f0, s1, f1, s2, f2⟩ := R4.out.wr
                have hbn := RN.out.bs.bel
                refine wpAnyH_ready (rs := [10]) (by kernel_rfl) (by simp) ?_
                refine AllReadyH.cons (o := ?oiu34_10) ?hiu34_10 ?stepu34_10 AllReadyH.nil
                case hiu34_10 => simp only [List.getElem?_toArray, List.getElem?_cons_succ, List.getElem?_cons_zero]; rfl
                intro K hK
                go_simp
                refine hK.out _ _ hbn (fun hS4 => ?_)
                clear hK K s0 s1 s2 f0 f1 f2 hS3 hbn
                try simp only [Act.put, List.setIfInBounds_toArray, List.set_cons_zero, List.set_cons_succ]
                generalize World.setCell _ _ _ = w5 at *
                refine wpAnyH_ready (rs := [11]) (by kernel_rfl) (by simp) ?_
                refine AllReadyH.cons (o := ?oiu35_11) ?hiu35_11 ?stepu35_11 AllReadyH.nil
                case hiu35_11 => simp only [List.getElem?_toArray, List.getElem?_cons_succ, List.getElem?_cons_zero]; rfl
                intro K hK
                go_simp
                refine hK.out _ _ hS4 (fun hS5 => ?_)
                clear hK K
                try simp only [Act.put, List.setIfInBounds_toArray, List.set_cons_zero, List.set_cons_succ]
                refine wpAnyH_done (by kernel_rfl) ?_ _
                refine NoPanic.normal ?_
                clear hS4 hS5 HDO HACT SD R4 S HGS
                obtain ⟨c0, c1, c2⟩ := RN.out.rb.c
                go_wp2
                exact ⟨⟨p + 1, v4, .slice ar4 L'.length cr4, X', L', by omega, by omega, by go_num, by omega, RN.out⟩, by simp [intOf]; omega⟩
              · obtain rfl : p = 15 := by omega
                have hji : (15 : Int) < (B.length : Int) := by omega
                rw [show ((15 : Nat) : Int) = 15 from rfl]
                have HSB2 := hid HSB.out
                obtain ⟨vb, rb, Xb, Lb, hb⟩ := HSB.out
                have SB := hid (hb.below S.out.bs.bel)
                clear hb HSB HSB2 HBC
                have HI1 := hid (is18_any b vb rb V Xb Lb wr SB.out.bs.is SB.out.rf SB.out.good)
                unfold rbV at HI1
                obtain ⟨c0, c1, c2⟩ := SB.out.rb.c
                go_wp2_with fail
                refine HI1.out.mono ?_
                rintro e w6 ⟨rfl, hb6⟩
                have S6 := hid (S.out.below hb6)
                have SB6 := hid (SB.out.below hb6)
                clear hb6 S SB HI1 c0 c1 c2
                have HI2 := hid (is18_any c v r V X L w6 S6.out.bs.is S6.out.rf S6.out.good)
                unfold rbV at HI2
                obtain ⟨c0, c1, c2⟩ := S6.out.rb.c
                go_wp2_with fail
                refine HI2.out.mono ?_
                rintro e w7 ⟨rfl, hb7⟩
                have HE := hid (SB6.out.below hb7).bs.bel
                clear hb7 S6 SB6 HI2 c0 c1 c2
                go_wp2
                go_ret
                exact ⟨rfl, HE.out⟩
            · obtain rfl : p = B.length := by omega
              have HSB2 := hid HSB.out
              obtain ⟨vb, rb, Xb, Lb, hb⟩ := HSB.out
              have SB := hid (hb.below S.out.bs.bel)
              clear hb HSB HSB2 HBC
              have HI1 := hid (is18_any b vb rb V Xb Lb wr SB.out.bs.is SB.out.rf SB.out.good)
              unfold rbV at HI1
              obtain ⟨c0, c1, c2⟩ := SB.out.rb.c
              go_wp2_with fail
              refine HI1.out.mono ?_
              rintro e w6 ⟨rfl, hb6⟩
              have S6 := hid (S.out.below hb6)
              have SB6 := hid (SB.out.below hb6)
              clear hb6 S SB HI1 c0 c1 c2
              have HI2 := hid (is18_any c v r V X L w6 S6.out.bs.is S6.out.rf S6.out.good)
              unfold rbV at HI2
              obtain ⟨c0, c1, c2⟩ := S6.out.rb.c
              go_wp2_with fail
              refine HI2.out.mono ?_
              rintro e w7 ⟨rfl, hb7⟩
              have HE := hid (SB6.out.below hb7).bs.bel
              clear hb7 S6 SB6 HI2 c0 c1 c2
              go_wp2
              go_ret
              exact ⟨rfl, HE.out⟩
        case stepxa_3 =>
          intro K hK
          go_simp
          generalize hW5 : World.alloc _ _ = w4
          have hb5 : Below wd.heap.size wd w4 := by rw [← hW5]; exact (Below.refl _ _).alloc (Nat.le_refl _) _
          have hn5 : w4.heap[wd.heap.size]? = some (.cells #[.int .i64 0, .int .i64 0, .slice none 0 0] 28 (0, 0)) := by rw [← hW5]; exact heap_alloc_new _ _
          have hb4 : Below wr.heap.size wr w4 := hS1.trans (hb5.mono hS1.size)
          refine hK.out _ _ hb4 (fun hS2 => ?_)
          clear hK K hW5 hb5
          try simp only [Act.put, List.setIfInBounds_toArray, List.set_cons_zero, List.set_cons_succ]
          refine wpAnyH_ready (rs := [1]) (by kernel_rfl) (by simp) ?_
          refine AllReadyH.cons (o := ?oixc_1) ?hixc_1 ?stepxc_1 AllReadyH.nil
          case hixc_1 => simp only [List.getElem?_toArray, List.getElem?_cons_succ, List.getElem?_cons_zero]; rfl
          intro K hK
          go_simp
          refine (HCL.out _ (S.out.bs.is.below hb4)).mono ?_
          rintro e w5 ⟨c, vc, rfl, hic, hfc, hcc, hbc⟩
          have IC := hid hic
          have FC := hid (show VFresh wr vc from fun k hk => Nat.le_trans hb4.size (hfc k hk))
          have CC := hid (Nat.le_trans hb4.size hcc)
          have R5 := hid ((show RbAt w4 wd.heap.size 0 0 (.slice none 0 0) from hn5).below hbc)
          have Z5 := hid hS1.size
          have B5 := hid (hb4.trans (hbc.mono hb4.size))
          refine hK.out _ _ B5.out (fun hS3 => ?_)
          clear hK K hn5 hic hfc hcc hbc hS2 hS1 hS3 hb4
          try simp only [Act.put, List.setIfInBounds_toArray, List.set_cons_zero, List.set_cons_succ]
          generalize wd.heap.size = z12 at *
          refine wpAnyH_ready (rs := [4]) (by kernel_rfl) (by simp) ?_
          refine AllReadyH.cons (o := ?oixde_4) ?hixde_4 ?stepxde_4 AllReadyH.nil
          case hixde_4 => simp only [List.getElem?_toArray, List.getElem?_cons_succ, List.getElem?_cons_zero]; rfl
          intro K hK
          go_simp
          refine hK.out _ _ B5.out (fun hS3 => ?_)
          clear hK K
          try simp only [Act.put, List.setIfInBounds_toArray, List.set_cons_zero, List.set_cons_succ]
          have hk6 := set3_kept (w := w5) (B := z12) (.int .i64 V) (.int .i64 X) (.slice arr L.length crr)
          obtain ⟨⟨z0, s0⟩, f0, s1, f1, s2, f2⟩ := R5.out.wr
          have hB6 := hk6.below2 B5.out Z5.out
          have hO5 := S.out.rf.below B5.out
          have hRC : BxR wr (((w5.setCell ⟨z12, 0, none⟩ (.int .i64 V)).setCell ⟨z12, 1, none⟩ (.int .i64 X)).setCell ⟨z12, 2, none⟩ (.slice arr L.length crr)) c z12 vc (.slice arr L.length crr) V X L :=
            ⟨⟨IC.out.setR R5.out hk6, CC.out, FC.out, hB6⟩, hO5.other hk6 (R5.out.nown hO5), R5.out.set V X (.slice arr L.length crr), Z5.out, S.out.good⟩
          have RC := hid hRC
          have HB6 := hid hB6
          clear hk6 hO5 hRC
          refine wpAnyH_ready (rs := [5]) (by kernel_rfl) (by simp) ?_
          refine AllReadyH.cons (o := ?oixdf_5) ?hixdf_5 ?stepxdf_5 AllReadyH.nil
          case hixdf_5 => simp only [List.getElem?_toArray, List.getElem?_cons_succ, List.getElem?_cons_zero]; rfl
          intro K hK
          go_simp
          refine hK.out _ _ hB6 (fun hS4 => ?_)
          clear hK K s0 s1 s2 f0 f1 f2 hB6 hS3
          try simp only [Act.put, List.setIfInBounds_toArray, List.set_cons_zero, List.set_cons_succ]
          generalize World.setCell _ _ _ = w6 at *
          refine wpAnyH_done (by kernel_rfl) ?_ _
          refine NoPanic.normal ?_
          have HSB : Hid (∃ vb rb Xb Lb, BxR w wr b z8 vb rb V Xb Lb) := hid ⟨_, _, _, _, S.out⟩
          have HBC := hid (HB.out.below S.out.bs.bel)
          have hX42 : X ≤ 42 := by omega
          clear hS4 HB6 IC FC CC R5 Z5 B5 HB HCL S SD
          generalize wr = wC at *
          go_upto_region 17 with (fail)
          go_loopw [9, 13] (fun _ i wr => ∃ (p : Nat) (v r : Value) (X : Int) (L : List Bv.E), p ≤ B.length ∧ p ≤ 15 ∧ i = .int .i64 p ∧ X ≤ (p : Int) + 42 ∧ BxR wC wr c z12 v r V X L)
            (fun _ i _ => B.length - (intOf i).toNat)
          case atStart => exact ⟨0, _, _, X, L, by omega, by omega, rfl, by omega, RC.out⟩
          case round =>
            obtain ⟨p, v, r, X, L, hpA, hp40, rfl, hXp, hR⟩ := hrel
            have S := hid hR
            clear hR RC
            by_cases hlt : p < B.length
            · by_cases hl2 : p < 15
              · have hpi : (p : Int) < (B.length : Int) := by omega
                have hpi2 : (p : Int) < 15 := by omega
                obtain ⟨⟨k, u, m, on, off⟩, hz⟩ : ∃ z, B.getD p Bv.A.z = z := ⟨_, rfl⟩
                obtain ⟨sb, so, rfl, _⟩ := (HBC.out.below S.out.bs.bel).get p hlt k u m on off hz
                have HACT := hid (fun W (hW : Below wC.heap.size wC W) => (HBC.out.below hW).get p hlt k u m on off hz)
                have hgs := S.out.good.st (by omega) (k, u, m, on, off)
                have hxs := Bv.st_le X L (k, u, m, on, off)
                obtain ⟨c0, c1, c2⟩ := S.out.rb.c
                have SD := hid (S.out.below ((Below.refl _ wr).drew))
                have hDo := do18_any c v r V X L k u m on off wr.drew SD.out.bs.is SD.out.rf S.out.good (by omega)
                generalize Bv.stX X L (k, u, m, on, off) = X' at *
                generalize Bv.stL X L (k, u, m, on, off) = L' at *
                unfold rbV at hDo
                have HDO := hid hDo
                have HGS := hid hgs
                clear hDo hz hgs
                go_upto_region 19 with (fail)
                refine wp_region_noPanic ?_
                refine wp_region_held_drew (S := fun W : World => Below wC.heap.size wC W) (by kernel_rfl) (S.out.bs.bel.drew) (fun hS1 => ?_)
                change wpAnyH _ _ _ _ _ 12 _ _ _
                refine wpAnyH_take (i := 0) (oi := ?oi42) (v := .pointer (some ⟨c, 0, none⟩)) ?hi42 (by kernel_rfl) (by kernel_rfl) (by kernel_rfl) (fun _ _ _ h => h) ?hy42 hS1 ?rest42
                case hi42 => simp only [List.getElem?_toArray, List.getElem?_cons_zero]; rfl
                case hy42 => exact Or.inl ⟨rfl, fun _ hSw => rfl⟩
                simp only [Act.put, List.setIfInBounds_toArray, List.set_cons_zero, List.set_cons_succ]
                refine wpAnyH_take (i := 2) (oi := ?oi43) (v := .slice (some ⟨sb, so, none⟩) B.length capb) ?hi43 (by kernel_rfl) (by kernel_rfl) (by kernel_rfl) (fun _ _ _ h => h) ?hy43 hS1 ?rest43
                case hi43 => simp only [List.getElem?_toArray, List.getElem?_cons_succ, List.getElem?_cons_zero]; rfl
                case hy43 => exact Or.inl ⟨rfl, fun _ hSw => rfl⟩
                simp only [Act.put, List.setIfInBounds_toArray, List.set_cons_zero, List.set_cons_succ]
                refine wpAnyH_take (i := 3) (oi := ?oi44) (v := .int .i64 (p : Int)) ?hi44 (by kernel_rfl) (by kernel_rfl) (by kernel_rfl) (fun _ _ _ h => h) ?hy44 hS1 ?rest44
                case hi44 => simp only [List.getElem?_toArray, List.getElem?_cons_succ, List.getElem?_cons_zero]; rfl
                case hy44 => exact Or.inl ⟨rfl, fun _ hSw => rfl⟩
                simp only [Act.put, List.setIfInBounds_toArray, List.set_cons_zero, List.set_cons_succ]
                refine wpAnyH_take (i := 4) (oi := ?oi45) (v := .pointer (some ⟨sb, so + p * 5, none⟩)) ?hi45 (by kernel_rfl) (by kernel_rfl) (by kernel_rfl) (fun _ _ _ h => h) ?hy45 hS1 ?rest45
                case hi45 => simp only [List.getElem?_toArray, List.getElem?_cons_succ, List.getElem?_cons_zero]; rfl
                case hy45 => exact Or.inl ⟨rfl, fun _ hSw => by go_simp⟩
                simp only [Act.put, List.setIfInBounds_toArray, List.set_cons_zero, List.set_cons_succ]
                refine wpAnyH_take (i := 5) (oi := ?oi46) (v := .agg #[.int .i64 k, .int .i64 u, .int .i64 m, .int .i64 on, .int .i64 off]) ?hi46 (by kernel_rfl) (by kernel_rfl) (by kernel_rfl) (fun _ _ _ h => h) ?hy46 hS1 ?rest46
                case hi46 => simp only [List.getElem?_toArray, List.getElem?_cons_succ, List.getElem?_cons_zero]; rfl
                case hy46 => exact Or.inl ⟨rfl, fun _ hSw => by obtain ⟨_, _, e, q0, q1, q2, q3, q4⟩ := HACT.out _ hSw; cases e; go_simp⟩
                simp only [Act.put, List.setIfInBounds_toArray, List.set_cons_zero, List.set_cons_succ]
                refine wpAnyH_ready (rs := [1]) (by kernel_rfl) (by simp) ?_
                refine AllReadyH.cons (o := ?oiu47_1) ?hiu47_1 ?stepu47_1 AllReadyH.nil
                case hiu47_1 => simp only [List.getElem?_toArray, List.getElem?_cons_succ, List.getElem?_cons_zero]; rfl
                intro K hK
                go_simp
                refine hK.out _ _ hS1 (fun hS2 => ?_)
                clear hK K c0 c1 c2
                try simp only [Act.put, List.setIfInBounds_toArray, List.set_cons_zero, List.set_cons_succ]
                generalize wr.drew = wd at *
                refine wpAnyH_ready (rs := [6]) (by kernel_rfl) (by simp) ?_
                refine AllReadyH.cons (o := ?oiu48_6) ?hiu48_6 ?stepu48_6 AllReadyH.nil
                case hiu48_6 => simp only [List.getElem?_toArray, List.getElem?_cons_succ, List.getElem?_cons_zero]; rfl
                intro K hK
                go_simp
                refine HDO.out.mono ?_
                rintro e w4 ⟨v4, r4, rfl, hi4, ho4, hk4⟩
                obtain ⟨ar4, cr4, hr4⟩ := ownsRow_slice ho4
                subst hr4
                have RN := hid (SD.out.step hi4 ho4 hk4 HGS.out)
                have R4 := hid (rb_toR SD.out.rb SD.out.bs.is hk4)
                have hb4 := (SD.out.bs.to hi4 hk4).bel
                refine hK.out _ _ hb4 (fun hS3 => ?_)
                clear hK K hi4 ho4 hk4 hb4 hS1 hS2
                try simp only [Act.put, List.setIfInBounds_toArray, List.set_cons_zero, List.set_cons_succ]
                refine wpAnyH_take (i := 7) (oi := ?oi49) (v := .tuple #[.agg #[.int .i64 V, .int .i64 X', .slice ar4 L'.length cr4], .bool true]) ?hi49 (by kernel_rfl) (by kernel_rfl) (by kernel_rfl) (fun _ _ _ h => h) ?hy49 hS3 ?rest49
                case hi49 => simp only [List.getElem?_toArray, List.getElem?_cons_succ, List.getElem?_cons_zero]; rfl
                case hy49 => exact Or.inl ⟨rfl, fun _ hSw => rfl⟩
                simp only [Act.put, List.setIfInBounds_toArray, List.set_cons_zero, List.set_cons_succ]
                refine wpAnyH_take (i := 8) (oi := ?oi50) (v := .agg #[.int .i64 V, .int .i64 X', .slice ar4 L'.length cr4]) ?hi50 (by kernel_rfl) (by kernel_rfl) (by kernel_rfl) (fun _ _ _ h => h) ?hy50 hS3 ?rest50
                case hi50 => simp only [List.getElem?_toArray, List.getElem?_cons_succ, List.getElem?_cons_zero]; rfl
                case hy50 => exact Or.inl ⟨rfl, fun _ hSw => by go_simp⟩
                simp only [Act.put, List.setIfInBounds_toArray, List.set_cons_zero, List.set_cons_succ]
                refine wpAnyH_take (i := 9) (oi := ?oi51) (v := .bool true) ?hi51 (by kernel_rfl) (by kernel_rfl) (by kernel_rfl) (fun _ _ _ h => h) ?hy51 hS3 ?rest51
                case hi51 => simp only [List.getElem?_toArray, List.getElem?_cons_succ, List.getElem?_cons_zero]; rfl
                case hy51 => exact Or.inl ⟨rfl, fun _ hSw => by go_simp⟩
                simp only [Act.put, List.setIfInBounds_toArray, List.set_cons_zero, List.set_cons_succ]
                obtain ⟨⟨z0, s0⟩, f0, s1, f1, s2, f2⟩ := R4.out.wr
                have hbn := RN.out.bs.bel
                refine wpAnyH_ready (rs := [10]) (by kernel_rfl) (by simp) ?_
                refine AllReadyH.cons (o := ?oiu52_10) ?hiu52_10 ?stepu52_10 AllReadyH.nil
                case hiu52_10 => simp only [List.getElem?_toArray, List.getElem?_cons_succ, List.getElem?_cons_zero]; rfl
                intro K hK
                go_simp
                refine hK.out _ _ hbn (fun hS4 => ?_)
                clear hK K s0 s1 s2 f0 f1 f2 hS3 hbn
                try simp only [Act.put, List.setIfInBounds_toArray, List.set_cons_zero, List.set_cons_succ]
                generalize World.setCell _ _ _ = w5 at *
                refine wpAnyH_ready (rs := [11]) (by kernel_rfl) (by simp) ?_
                refine AllReadyH.cons (o := ?oiu53_11) ?hiu53_11 ?stepu53_11 AllReadyH.nil
                case hiu53_11 => simp only [List.getElem?_toArray, List.getElem?_cons_succ, List.getElem?_cons_zero]; rfl
                intro K hK
                go_simp
                refine hK.out _ _ hS4 (fun hS5 => ?_)
                clear hK K
                try simp only [Act.put, List.setIfInBounds_toArray, List.set_cons_zero, List.set_cons_succ]
                refine wpAnyH_done (by kernel_rfl) ?_ _
                refine NoPanic.normal ?_
                clear hS4 hS5 HDO HACT SD R4 S HGS
                obtain ⟨c0, c1, c2⟩ := RN.out.rb.c
                go_wp2
                exact ⟨⟨p + 1, v4, .slice ar4 L'.length cr4, X', L', by omega, by omega, by go_num, by omega, RN.out⟩, by simp [intOf]; omega⟩
              · obtain rfl : p = 15 := by omega
                have hji : (15 : Int) < (B.length : Int) := by omega
                rw [show ((15 : Nat) : Int) = 15 from rfl]
                have HSB2 := hid HSB.out
                obtain ⟨vb, rb, Xb, Lb, hb⟩ := HSB.out
                have SB := hid (hb.below S.out.bs.bel)
                clear hb HSB HSB2 HBC
                have HI1 := hid (is18_any b vb rb V Xb Lb wr SB.out.bs.is SB.out.rf SB.out.good)
                unfold rbV at HI1
                obtain ⟨c0, c1, c2⟩ := SB.out.rb.c
                go_wp2_with fail
                refine HI1.out.mono ?_
                rintro e w6 ⟨rfl, hb6⟩
                have S6 := hid (S.out.below hb6)
                have SB6 := hid (SB.out.below hb6)
                clear hb6 S SB HI1 c0 c1 c2
                have HI2 := hid (is18_any c v r V X L w6 S6.out.bs.is S6.out.rf S6.out.good)
                unfold rbV at HI2
                obtain ⟨c0, c1, c2⟩ := S6.out.rb.c
                go_wp2_with fail
                refine HI2.out.mono ?_
                rintro e w7 ⟨rfl, hb7⟩
                have HE := hid (SB6.out.below hb7).bs.bel
                clear hb7 S6 SB6 HI2 c0 c1 c2
                go_wp2
                go_ret
                exact ⟨rfl, HE.out⟩
            · obtain rfl : p = B.length := by omega
              have HSB2 := hid HSB.out
              obtain ⟨vb, rb, Xb, Lb, hb⟩ := HSB.out
              have SB := hid (hb.below S.out.bs.bel)
              clear hb HSB HSB2 HBC
              have HI1 := hid (is18_any b vb rb V Xb Lb wr SB.out.bs.is SB.out.rf SB.out.good)
              unfold rbV at HI1
              obtain ⟨c0, c1, c2⟩ := SB.out.rb.c
              go_wp2_with fail
              refine HI1.out.mono ?_
              rintro e w6 ⟨rfl, hb6⟩
              have S6 := hid (S.out.below hb6)
              have SB6 := hid (SB.out.below hb6)
              clear hb6 S SB HI1 c0 c1 c2
              have HI2 := hid (is18_any c v r V X L w6 S6.out.bs.is S6.out.rf S6.out.good)
              unfold rbV at HI2
              obtain ⟨c0, c1, c2⟩ := S6.out.rb.c
              go_wp2_with fail
              refine HI2.out.mono ?_
              rintro e w7 ⟨rfl, hb7⟩
              have HE := hid (SB6.out.below hb7).bs.bel
              clear hb7 S6 SB6 HI2 c0 c1 c2
              go_wp2
              go_ret
              exact ⟨rfl, HE.out⟩
    · obtain rfl : p = A.length := by omega
      obtain ⟨arr, crr, hrr⟩ := ownsRow_slice S.out.rf
      subst hrr
      have hX41 : X ≤ 41 := by omega
      have HCL := hid (fun wx hx => bclone_any (b := b) (v := v) (V := V) (X := X) (L := L) (w := wx) hx (by have := S.out.good.len; omega))
      clear HA
      go_upto_region 13 with (fail)
      refine wp_region_noPanic ?_
      refine wp_region_held_drew (S := fun W : World => Below wr.heap.size wr W) (by kernel_rfl) ((Below.refl _ wr).drew) (fun hS1 => ?_)
      change wpAnyH _ _ _ _ _ 6 _ _ _
      refine wpAnyH_take (i := 0) (oi := ?oi56) (v := .pointer (some ⟨b, 0, none⟩)) ?hi56 (by kernel_rfl) (by kernel_rfl) (by kernel_rfl) (fun _ _ _ h => h) ?hy56 hS1 ?rest56
      case hi56 => simp only [List.getElem?_toArray, List.getElem?_cons_zero]; rfl
      case hy56 => exact Or.inl ⟨rfl, fun _ hSw => rfl⟩
      simp only [Act.put, List.setIfInBounds_toArray, List.set_cons_zero, List.set_cons_succ]
      refine wpAnyH_take (i := 2) (oi := ?oi57) (v := .agg ([.int .i64 V, .int .i64 X, .slice arr L.length crr] : List Value).toArray) ?hi57 (by kernel_rfl) (by kernel_rfl) (by kernel_rfl) (fun _ _ _ h => h) ?hy57 hS1 ?rest57
      case hi57 => simp only [List.getElem?_toArray, List.getElem?_cons_succ, List.getElem?_cons_zero]; rfl
      case hy57 => 
        refine yieldsIf_load_mid ?w57 _ ?x57 ?o57 z8 0 ?e57 ([.int .i64 V, .int .i64 X, .slice arr L.length crr] : List Value) _ ?s57 Try.underlying28 rfl infoRB
        case o57 => rfl
        case w57 => rfl
        case e57 => rfl
        case s57 => intro _ hSw; exact range_row (S.out.rb.below hSw)
      simp only [Act.put, List.setIfInBounds_toArray, List.set_cons_zero, List.set_cons_succ]
      try simp only [Array.toArray_toList]
      have SD := hid (S.out.below ((Below.refl _ wr).drew))
      generalize wr.drew = wd at *
      refine wpAnyH_ready (rs := [1, 3]) (by kernel_rfl) (by simp) ?_
      refine AllReadyH.cons (o := ?oiya_1) ?hiya_1 ?stepya_1 (AllReadyH.cons (o := ?oiya_3) ?hiya_3 ?stepya_3 AllReadyH.nil)
      case hiya_1 => simp only [List.getElem?_toArray, List.getElem?_cons_succ, List.getElem?_cons_zero]; rfl
      case hiya_3 => simp only [List.getElem?_toArray, List.getElem?_cons_succ, List.getElem?_cons_zero]; rfl
      case stepya_1 =>
        intro K hK
        go_simp
        refine (HCL.out _ (S.out.bs.is.below hS1)).mono ?_
        rintro e w4 ⟨c, vc, rfl, hic, hfc, hcc, hbc⟩
        refine hK.out _ _ (hS1.trans (hbc.mono hS1.size)) (fun hS2 => ?_)
        clear hK K
        try simp only [Act.put, List.setIfInBounds_toArray, List.set_cons_zero, List.set_cons_succ]
        refine wpAnyH_ready (rs := [3]) (by kernel_rfl) (by simp) ?_
        refine AllReadyH.cons (o := ?oiyb_3) ?hiyb_3 ?stepyb_3 AllReadyH.nil
        case hiyb_3 => simp only [List.getElem?_toArray, List.getElem?_cons_succ, List.getElem?_cons_zero]; rfl
        intro K hK
        go_simp
        generalize hW5 : World.alloc _ _ = w5
        have hb5 : Below w4.heap.size w4 w5 := by rw [← hW5]; exact (Below.refl _ _).alloc (Nat.le_refl _) _
        have hn5 : w5.heap[w4.heap.size]? = some (.cells #[.int .i64 0, .int .i64 0, .slice none 0 0] 28 (0, 0)) := by rw [← hW5]; exact heap_alloc_new _ _
        have IC := hid (hic.below hb5)
        have FC := hid (show VFresh wr vc from fun k hk => Nat.le_trans hS1.size (hfc k hk))
        have CC := hid (show wr.heap.size ≤ c from Nat.le_trans hS1.size hcc)
        have R5 := hid (show RbAt w5 w4.heap.size 0 0 (.slice none 0 0) from hn5)
        have Z5 := hid hS2.size
        have B5 := hid (hS2.trans (hb5.mono hS2.size))
        refine hK.out _ _ B5.out (fun hS3 => ?_)
        clear hK K hW5 hb5 hn5 hic hfc hcc hbc hS2 hS1 hS3
        try simp only [Act.put, List.setIfInBounds_toArray, List.set_cons_zero, List.set_cons_succ]
        generalize w4.heap.size = z12 at *
        refine wpAnyH_ready (rs := [4]) (by kernel_rfl) (by simp) ?_
        refine AllReadyH.cons (o := ?oiye_4) ?hiye_4 ?stepye_4 AllReadyH.nil
        case hiye_4 => simp only [List.getElem?_toArray, List.getElem?_cons_succ, List.getElem?_cons_zero]; rfl
        intro K hK
        go_simp
        refine hK.out _ _ B5.out (fun hS3 => ?_)
        clear hK K
        try simp only [Act.put, List.setIfInBounds_toArray, List.set_cons_zero, List.set_cons_succ]
        have hk6 := set3_kept (w := w5) (B := z12) (.int .i64 V) (.int .i64 X) (.slice arr L.length crr)
        obtain ⟨⟨z0, s0⟩, f0, s1, f1, s2, f2⟩ := R5.out.wr
        have hB6 := hk6.below2 B5.out Z5.out
        have hO5 := S.out.rf.below B5.out
        have hRC : BxR wr (((w5.setCell ⟨z12, 0, none⟩ (.int .i64 V)).setCell ⟨z12, 1, none⟩ (.int .i64 X)).setCell ⟨z12, 2, none⟩ (.slice arr L.length crr)) c z12 vc (.slice arr L.length crr) V X L :=
          ⟨⟨IC.out.setR R5.out hk6, CC.out, FC.out, hB6⟩, hO5.other hk6 (R5.out.nown hO5), R5.out.set V X (.slice arr L.length crr), Z5.out, S.out.good⟩
        have RC := hid hRC
        have HB6 := hid hB6
        clear hk6 hO5 hRC
        refine wpAnyH_ready (rs := [5]) (by kernel_rfl) (by simp) ?_
        refine AllReadyH.cons (o := ?oiyf_5) ?hiyf_5 ?stepyf_5 AllReadyH.nil
        case hiyf_5 => simp only [List.getElem?_toArray, List.getElem?_cons_succ, List.getElem?_cons_zero]; rfl
        intro K hK
        go_simp
        refine hK.out _ _ hB6 (fun hS4 => ?_)
        clear hK K s0 s1 s2 f0 f1 f2 hB6 hS3
        try simp only [Act.put, List.setIfInBounds_toArray, List.set_cons_zero, List.set_cons_succ]
        generalize World.setCell _ _ _ = w6 at *
        refine wpAnyH_done (by kernel_rfl) ?_ _
        refine NoPanic.normal ?_
        have HSB : Hid (∃ vb rb Xb Lb, BxR w wr b z8 vb rb V Xb Lb) := hid ⟨_, _, _, _, S.out⟩
        have HBC := hid (HB.out.below S.out.bs.bel)
        have hX42 : X ≤ 42 := by omega
        clear hS4 HB6 IC FC CC R5 Z5 B5 HB HCL S SD
        generalize wr = wC at *
        go_upto_region 17 with (fail)
        go_loopw [9, 13] (fun _ i wr => ∃ (p : Nat) (v r : Value) (X : Int) (L : List Bv.E), p ≤ B.length ∧ p ≤ 15 ∧ i = .int .i64 p ∧ X ≤ (p : Int) + 42 ∧ BxR wC wr c z12 v r V X L)
          (fun _ i _ => B.length - (intOf i).toNat)
        case atStart => exact ⟨0, _, _, X, L, by omega, by omega, rfl, by omega, RC.out⟩
        case round =>
          obtain ⟨p, v, r, X, L, hpA, hp40, rfl, hXp, hR⟩ := hrel
          have S := hid hR
          clear hR RC
          by_cases hlt : p < B.length
          · by_cases hl2 : p < 15
            · have hpi : (p : Int) < (B.length : Int) := by omega
              have hpi2 : (p : Int) < 15 := by omega
              obtain ⟨⟨k, u, m, on, off⟩, hz⟩ : ∃ z, B.getD p Bv.A.z = z := ⟨_, rfl⟩
              obtain ⟨sb, so, rfl, _⟩ := (HBC.out.below S.out.bs.bel).get p hlt k u m on off hz
              have HACT := hid (fun W (hW : Below wC.heap.size wC W) => (HBC.out.below hW).get p hlt k u m on off hz)
              have hgs := S.out.good.st (by omega) (k, u, m, on, off)
              have hxs := Bv.st_le X L (k, u, m, on, off)
              obtain ⟨c0, c1, c2⟩ := S.out.rb.c
              have SD := hid (S.out.below ((Below.refl _ wr).drew))
              have hDo := do18_any c v r V X L k u m on off wr.drew SD.out.bs.is SD.out.rf S.out.good (by omega)
              generalize Bv.stX X L (k, u, m, on, off) = X' at *
              generalize Bv.stL X L (k, u, m, on, off) = L' at *
              unfold rbV at hDo
              have HDO := hid hDo
              have HGS := hid hgs
              clear hDo hz hgs
              go_upto_region 19 with (fail)
              refine wp_region_noPanic ?_
              refine wp_region_held_drew (S := fun W : World => Below wC.heap.size wC W) (by kernel_rfl) (S.out.bs.bel.drew) (fun hS1 => ?_)
              change wpAnyH _ _ _ _ _ 12 _ _ _
              refine wpAnyH_take (i := 0) (oi := ?oi64) (v := .pointer (some ⟨c, 0, none⟩)) ?hi64 (by kernel_rfl) (by kernel_rfl) (by kernel_rfl) (fun _ _ _ h => h) ?hy64 hS1 ?rest64
              case hi64 => simp only [List.getElem?_toArray, List.getElem?_cons_zero]; rfl
              case hy64 => exact Or.inl ⟨rfl, fun _ hSw => rfl⟩
              simp only [Act.put, List.setIfInBounds_toArray, List.set_cons_zero, List.set_cons_succ]
              refine wpAnyH_take (i := 2) (oi := ?oi65) (v := .slice (some ⟨sb, so, none⟩) B.length capb) ?hi65 (by kernel_rfl) (by kernel_rfl) (by kernel_rfl) (fun _ _ _ h => h) ?hy65 hS1 ?rest65
              case hi65 => simp only [List.getElem?_toArray, List.getElem?_cons_succ, List.getElem?_cons_zero]; rfl
              case hy65 => exact Or.inl ⟨rfl, fun _ hSw => rfl⟩
              simp only [Act.put, List.setIfInBounds_toArray, List.set_cons_zero, List.set_cons_succ]
              refine wpAnyH_take (i := 3) (oi := ?oi66) (v := .int .i64 (p : Int)) ?hi66 (by kernel_rfl) (by kernel_rfl) (by kernel_rfl) (fun _ _ _ h => h) ?hy66 hS1 ?rest66
              case hi66 => simp only [List.getElem?_toArray, List.getElem?_cons_succ, List.getElem?_cons_zero]; rfl
              case hy66 => exact Or.inl ⟨rfl, fun _ hSw => rfl⟩
              simp only [Act.put, List.setIfInBounds_toArray, List.set_cons_zero, List.set_cons_succ]
              refine wpAnyH_take (i := 4) (oi := ?oi67) (v := .pointer (some ⟨sb, so + p * 5, none⟩)) ?hi67 (by kernel_rfl) (by kernel_rfl) (by kernel_rfl) (fun _ _ _ h => h) ?hy67 hS1 ?rest67
              case hi67 => simp only [List.getElem?_toArray, List.getElem?_cons_succ, List.getElem?_cons_zero]; rfl
              case hy67 => exact Or.inl ⟨rfl, fun _ hSw => by go_simp⟩
              simp only [Act.put, List.setIfInBounds_toArray, List.set_cons_zero, List.set_cons_succ]
              refine wpAnyH_take (i := 5) (oi := ?oi68) (v := .agg #[.int .i64 k, .int .i64 u, .int .i64 m, .int .i64 on, .int .i64 off]) ?hi68 (by kernel_rfl) (by kernel_rfl) (by kernel_rfl) (fun _ _ _ h => h) ?hy68 hS1 ?rest68
              case hi68 => simp only [List.getElem?_toArray, List.getElem?_cons_succ, List.getElem?_cons_zero]; rfl
              case hy68 => exact Or.inl ⟨rfl, fun _ hSw => by obtain ⟨_, _, e, q0, q1, q2, q3, q4⟩ := HACT.out _ hSw; cases e; go_simp⟩
              simp only [Act.put, List.setIfInBounds_toArray, List.set_cons_zero, List.set_cons_succ]
              refine wpAnyH_ready (rs := [1]) (by kernel_rfl) (by simp) ?_
              refine AllReadyH.cons (o := ?oiu69_1) ?hiu69_1 ?stepu69_1 AllReadyH.nil
              case hiu69_1 => simp only [List.getElem?_toArray, List.getElem?_cons_succ, List.getElem?_cons_zero]; rfl
              intro K hK
              go_simp
              refine hK.out _ _ hS1 (fun hS2 => ?_)
              clear hK K c0 c1 c2
              try simp only [Act.put, List.setIfInBounds_toArray, List.set_cons_zero, List.set_cons_succ]
              generalize wr.drew = wd at *
              refine wpAnyH_ready (rs := [6]) (by kernel_rfl) (by simp) ?_
              refine AllReadyH.cons (o := ?oiu70_6) ?hiu70_6 ?stepu70_6 AllReadyH.nil
              case hiu70_6 => simp only [List.getElem?_toArray, List.getElem?_cons_succ, List.getElem?_cons_zero]; rfl
              intro K hK
              go_simp
              refine HDO.out.mono ?_
              rintro e w4 ⟨v4, r4, rfl, hi4, ho4, hk4⟩
              obtain ⟨ar4, cr4, hr4⟩ := ownsRow_slice ho4
              subst hr4
              have RN := hid (SD.out.step hi4 ho4 hk4 HGS.out)
              have R4 := hid (rb_toR SD.out.rb SD.out.bs.is hk4)
              have hb4 := (SD.out.bs.to hi4 hk4).bel
              refine hK.out _ _ hb4 (fun hS3 => ?_)
              clear hK K hi4 ho4 hk4 hb4 hS1 hS2
              try simp only [Act.put, List.setIfInBounds_toArray, List.set_cons_zero, List.set_cons_succ]
              refine wpAnyH_take (i := 7) (oi := ?oi71) (v := .tuple #[.agg #[.int .i64 V, .int .i64 X', .slice ar4 L'.length cr4], .bool true]) ?hi71 (by kernel_rfl) (by kernel_rfl) (by kernel_rfl) (fun _ _ _ h => h) ?hy71 hS3 ?rest71
              case hi71 => simp only [List.getElem?_toArray, List.getElem?_cons_succ, List.getElem?_cons_zero]; rfl
              case hy71 => exact Or.inl ⟨rfl, fun _ hSw => rfl⟩
              simp only [Act.put, List.setIfInBounds_toArray, List.set_cons_zero, List.set_cons_succ]
              refine wpAnyH_take (i := 8) (oi := ?oi72) (v := .agg #[.int .i64 V, .int .i64 X', .slice ar4 L'.length cr4]) ?hi72 (by kernel_rfl) (by kernel_rfl) (by kernel_rfl) (fun _ _ _ h => h) ?hy72 hS3 ?rest72
              case hi72 => simp only [List.getElem?_toArray, List.getElem?_cons_succ, List.getElem?_cons_zero]; rfl
              case hy72 => exact Or.inl ⟨rfl, fun _ hSw => by go_simp⟩
              simp only [Act.put, List.setIfInBounds_toArray, List.set_cons_zero, List.set_cons_succ]
              refine wpAnyH_take (i := 9) (oi := ?oi73) (v := .bool true) ?hi73 (by kernel_rfl) (by kernel_rfl) (by kernel_rfl) (fun _ _ _ h => h) ?hy73 hS3 ?rest73
              case hi73 => simp only [List.getElem?_toArray, List.getElem?_cons_succ, List.getElem?_cons_zero]; rfl
              case hy73 => exact Or.inl ⟨rfl, fun _ hSw => by go_simp⟩
              simp only [Act.put, List.setIfInBounds_toArray, List.set_cons_zero, List.set_cons_succ]
              obtain ⟨⟨z0, s0⟩, f0, s1, f1, s2, f2⟩ := R4.out.wr
              have hbn := RN.out.bs.bel
              refine wpAnyH_ready (rs := [10]) (by kernel_rfl) (by simp) ?_
              refine AllReadyH.cons (o := ?oiu74_10) ?hiu74_10 ?stepu74_10 AllReadyH.nil
              case hiu74_10 => simp only [List.getElem?_toArray, List.getElem?_cons_succ, List.getElem?_cons_zero]; rfl
              intro K hK
              go_simp
              refine hK.out _ _ hbn (fun hS4 => ?_)
              clear hK K s0 s1 s2 f0 f1 f2 hS3 hbn
              try simp only [Act.put, List.setIfInBounds_toArray, List.set_cons_zero, List.set_cons_succ]
              generalize World.setCell _ _ _ = w5 at *
              refine wpAnyH_ready (rs := [11]) (by kernel_rfl) (by simp) ?_
              refine AllReadyH.cons (o := ?oiu75_11) ?hiu75_11 ?stepu75_11 AllReadyH.nil
              case hiu75_11 => simp only [List.getElem?_toArray, List.getElem?_cons_succ, List.getElem?_cons_zero]; rfl
              intro K hK
              go_simp
              refine hK.out _ _ hS4 (fun hS5 => ?_)
              clear hK K
              try simp only [Act.put, List.setIfInBounds_toArray, List.set_cons_zero, List.set_cons_succ]
              refine wpAnyH_done (by kernel_rfl) ?_ _
              refine NoPanic.normal ?_
              clear hS4 hS5 HDO HACT SD R4 S HGS
              obtain ⟨c0, c1, c2⟩ := RN.out.rb.c
              go_wp2
              exact ⟨⟨p + 1, v4, .slice ar4 L'.length cr4, X', L', by omega, by omega, by go_num, by omega, RN.out⟩, by simp [intOf]; omega⟩
            · obtain rfl : p = 15 := by omega
              have hji : (15 : Int) < (B.length : Int) := by omega
              rw [show ((15 : Nat) : Int) = 15 from rfl]
              have HSB2 := hid HSB.out
              obtain ⟨vb, rb, Xb, Lb, hb⟩ := HSB.out
              have SB := hid (hb.below S.out.bs.bel)
              clear hb HSB HSB2 HBC
              have HI1 := hid (is18_any b vb rb V Xb Lb wr SB.out.bs.is SB.out.rf SB.out.good)
              unfold rbV at HI1
              obtain ⟨c0, c1, c2⟩ := SB.out.rb.c
              go_wp2_with fail
              refine HI1.out.mono ?_
              rintro e w6 ⟨rfl, hb6⟩
              have S6 := hid (S.out.below hb6)
              have SB6 := hid (SB.out.below hb6)
              clear hb6 S SB HI1 c0 c1 c2
              have HI2 := hid (is18_any c v r V X L w6 S6.out.bs.is S6.out.rf S6.out.good)
              unfold rbV at HI2
              obtain ⟨c0, c1, c2⟩ := S6.out.rb.c
              go_wp2_with fail
              refine HI2.out.mono ?_
              rintro e w7 ⟨rfl, hb7⟩
              have HE := hid (SB6.out.below hb7).bs.bel
              clear hb7 S6 SB6 HI2 c0 c1 c2
              go_wp2
              go_ret
              exact ⟨rfl, HE.out⟩
          · obtain rfl : p = B.length := by omega
            have HSB2 := hid HSB.out
            obtain ⟨vb, rb, Xb, Lb, hb⟩ := HSB.out
            have SB := hid (hb.below S.out.bs.bel)
            clear hb HSB HSB2 HBC
            have HI1 := hid (is18_any b vb rb V Xb Lb wr SB.out.bs.is SB.out.rf SB.out.good)
            unfold rbV at HI1
            obtain ⟨c0, c1, c2⟩ := SB.out.rb.c
            go_wp2_with fail
            refine HI1.out.mono ?_
            rintro e w6 ⟨rfl, hb6⟩
            have S6 := hid (S.out.below hb6)
            have SB6 := hid (SB.out.below hb6)
            clear hb6 S SB HI1 c0 c1 c2
            have HI2 := hid (is18_any c v r V X L w6 S6.out.bs.is S6.out.rf S6.out.good)
            unfold rbV at HI2
            obtain ⟨c0, c1, c2⟩ := S6.out.rb.c
            go_wp2_with fail
            refine HI2.out.mono ?_
            rintro e w7 ⟨rfl, hb7⟩
            have HE := hid (SB6.out.below hb7).bs.bel
            clear hb7 S6 SB6 HI2 c0 c1 c2
            go_wp2
            go_ret
            exact ⟨rfl, HE.out⟩
      case stepya_3 =>
        intro K hK
        go_simp
        generalize hW5 : World.alloc _ _ = w4
        have hb5 : Below wd.heap.size wd w4 := by rw [← hW5]; exact (Below.refl _ _).alloc (Nat.le_refl _) _
        have hn5 : w4.heap[wd.heap.size]? = some (.cells #[.int .i64 0, .int .i64 0, .slice none 0 0] 28 (0, 0)) := by rw [← hW5]; exact heap_alloc_new _ _
        have hb4 : Below wr.heap.size wr w4 := hS1.trans (hb5.mono hS1.size)
        refine hK.out _ _ hb4 (fun hS2 => ?_)
        clear hK K hW5 hb5
        try simp only [Act.put, List.setIfInBounds_toArray, List.set_cons_zero, List.set_cons_succ]
        refine wpAnyH_ready (rs := [1]) (by kernel_rfl) (by simp) ?_
        refine AllReadyH.cons (o := ?oiyc_1) ?hiyc_1 ?stepyc_1 AllReadyH.nil
        case hiyc_1 => simp only [List.getElem?_toArray, List.getElem?_cons_succ, List.getElem?_cons_zero]; rfl
        intro K hK
        go_simp
        refine (HCL.out _ (S.out.bs.is.below hb4)).mono ?_
        rintro e w5 ⟨c, vc, rfl, hic, hfc, hcc, hbc⟩
        have IC := hid hic
        have FC := hid (show VFresh wr vc from fun k hk => Nat.le_trans hb4.size (hfc k hk))
        have CC := hid (Nat.le_trans hb4.size hcc)
        have R5 := hid ((show RbAt w4 wd.heap.size 0 0 (.slice none 0 0) from hn5).below hbc)
        have Z5 := hid hS1.size
        have B5 := hid (hb4.trans (hbc.mono hb4.size))
        refine hK.out _ _ B5.out (fun hS3 => ?_)
        clear hK K hn5 hic hfc hcc hbc hS2 hS1 hS3 hb4
        try simp only [Act.put, List.setIfInBounds_toArray, List.set_cons_zero, List.set_cons_succ]
        generalize wd.heap.size = z12 at *
        refine wpAnyH_ready (rs := [4]) (by kernel_rfl) (by simp) ?_
        refine AllReadyH.cons (o := ?oiyde_4) ?hiyde_4 ?stepyde_4 AllReadyH.nil
        case hiyde_4 => simp only [List.getElem?_toArray, List.getElem?_cons_succ, List.getElem?_cons_zero]; rfl
        intro K hK
        go_simp
        refine hK.out _ _ B5.out (fun hS3 => ?_)
        clear hK K
        try simp only [Act.put, List.setIfInBounds_toArray, List.set_cons_zero, List.set_cons_succ]
        have hk6 := set3_kept (w := w5) (B := z12) (.int .i64 V) (.int .i64 X) (.slice arr L.length crr)
        obtain ⟨⟨z0, s0⟩, f0, s1, f1, s2, f2⟩ := R5.out.wr
        have hB6 := hk6.below2 B5.out Z5.out
        have hO5 := S.out.rf.below B5.out
        have hRC : BxR wr (((w5.setCell ⟨z12, 0, none⟩ (.int .i64 V)).setCell ⟨z12, 1, none⟩ (.int .i64 X)).setCell ⟨z12, 2, none⟩ (.slice arr L.length crr)) c z12 vc (.slice arr L.length crr) V X L :=
          ⟨⟨IC.out.setR R5.out hk6, CC.out, FC.out, hB6⟩, hO5.other hk6 (R5.out.nown hO5), R5.out.set V X (.slice arr L.length crr), Z5.out, S.out.good⟩
        have RC := hid hRC
        have HB6 := hid hB6
        clear hk6 hO5 hRC
        refine wpAnyH_ready (rs := [5]) (by kernel_rfl) (by simp) ?_
        refine AllReadyH.cons (o := ?oiydf_5) ?hiydf_5 ?stepydf_5 AllReadyH.nil
        case hiydf_5 => simp only [List.getElem?_toArray, List.getElem?_cons_succ, List.getElem?_cons_zero]; rfl
        intro K hK
        go_simp
        refine hK.out _ _ hB6 (fun hS4 => ?_)
        clear hK K s0 s1 s2 f0 f1 f2 hB6 hS3
        try simp only [Act.put, List.setIfInBounds_toArray, List.set_cons_zero, List.set_cons_succ]
        generalize World.setCell _ _ _ = w6 at *
        refine wpAnyH_done (by kernel_rfl) ?_ _
        refine NoPanic.normal ?_
        have HSB : Hid (∃ vb rb Xb Lb, BxR w wr b z8 vb rb V Xb Lb) := hid ⟨_, _, _, _, S.out⟩
        have HBC := hid (HB.out.below S.out.bs.bel)
        have hX42 : X ≤ 42 := by omega
        clear hS4 HB6 IC FC CC R5 Z5 B5 HB HCL S SD
        generalize wr = wC at *
        go_upto_region 17 with (fail)
        go_loopw [9, 13] (fun _ i wr => ∃ (p : Nat) (v r : Value) (X : Int) (L : List Bv.E), p ≤ B.length ∧ p ≤ 15 ∧ i = .int .i64 p ∧ X ≤ (p : Int) + 42 ∧ BxR wC wr c z12 v r V X L)
          (fun _ i _ => B.length - (intOf i).toNat)
        case atStart => exact ⟨0, _, _, X, L, by omega, by omega, rfl, by omega, RC.out⟩
        case round =>
          obtain ⟨p, v, r, X, L, hpA, hp40, rfl, hXp, hR⟩ := hrel
          have S := hid hR
          clear hR RC
          by_cases hlt : p < B.length
          · by_cases hl2 : p < 15
            · have hpi : (p : Int) < (B.length : Int) := by omega
              have hpi2 : (p : Int) < 15 := by omega
              obtain ⟨⟨k, u, m, on, off⟩, hz⟩ : ∃ z, B.getD p Bv.A.z = z := ⟨_, rfl⟩
              obtain ⟨sb, so, rfl, _⟩ := (HBC.out.below S.out.bs.bel).get p hlt k u m on off hz
              have HACT := hid (fun W (hW : Below wC.heap.size wC W) => (HBC.out.below hW).get p hlt k u m on off hz)
              have hgs := S.out.good.st (by omega) (k, u, m, on, off)
              have hxs := Bv.st_le X L (k, u, m, on, off)
              obtain ⟨c0, c1, c2⟩ := S.out.rb.c
              have SD := hid (S.out.below ((Below.refl _ wr).drew))
              have hDo := do18_any c v r V X L k u m on off wr.drew SD.out.bs.is SD.out.rf S.out.good (by omega)
              generalize Bv.stX X L (k, u, m, on, off) = X' at *
              generalize Bv.stL X L (k, u, m, on, off) = L' at *
              unfold rbV at hDo
              have HDO := hid hDo
              have HGS := hid hgs
              clear hDo hz hgs
              go_upto_region 19 with (fail)
              refine wp_region_noPanic ?_
              refine wp_region_held_drew (S := fun W : World => Below wC.heap.size wC W) (by kernel_rfl) (S.out.bs.bel.drew) (fun hS1 => ?_)
              change wpAnyH _ _ _ _ _ 12 _ _ _
              refine wpAnyH_take (i := 0) (oi := ?oi82) (v := .pointer (some ⟨c, 0, none⟩)) ?hi82 (by kernel_rfl) (by kernel_rfl) (by kernel_rfl) (fun _ _ _ h => h) ?hy82 hS1 ?rest82
              case hi82 => simp only [List.getElem?_toArray, List.getElem?_cons_zero]; rfl
              case hy82 => exact Or.inl ⟨rfl, fun _ hSw => rfl⟩
              simp only [Act.put, List.setIfInBounds_toArray, List.set_cons_zero, List.set_cons_succ]
              refine wpAnyH_take (i := 2) (oi := ?oi83) (v := .slice (some ⟨sb, so, none⟩) B.length capb) ?hi83 (by kernel_rfl) (by kernel_rfl) (by kernel_rfl) (fun _ _ _ h => h) ?hy83 hS1 ?rest83
              case hi83 => simp only [List.getElem?_toArray, List.getElem?_cons_succ, List.getElem?_cons_zero]; rfl
              case hy83 => exact Or.inl ⟨rfl, fun _ hSw => rfl⟩
              simp only [Act.put, List.setIfInBounds_toArray, List.set_cons_zero, List.set_cons_succ]
              refine wpAnyH_take (i := 3) (oi := ?oi84) (v := .int .i64 (p : Int)) ?hi84 (by kernel_rfl) (by kernel_rfl) (by kernel_rfl) (fun _ _ _ h => h) ?hy84 hS1 ?rest84
              case hi84 => simp only [List.getElem?_toArray, List.getElem?_cons_succ, List.getElem?_cons_zero]; rfl
              case hy84 => exact Or.inl ⟨rfl, fun _ hSw => rfl⟩
              simp only [Act.put, List.setIfInBounds_toArray, List.set_cons_zero, List.set_cons_succ]
              refine wpAnyH_take (i := 4) (oi := ?oi85) (v := .pointer (some ⟨sb, so + p * 5, none⟩)) ?hi85 (by kernel_rfl) (by kernel_rfl) (by kernel_rfl) (fun _ _ _ h => h) ?hy85 hS1 ?rest85
              case hi85 => simp only [List.getElem?_toArray, List.getElem?_cons_succ, List.getElem?_cons_zero]; rfl
              case hy85 => exact Or.inl ⟨rfl, fun _ hSw => by go_simp⟩
              simp only [Act.put, List.setIfInBounds_toArray, List.set_cons_zero, List.set_cons_succ]
              refine wpAnyH_take (i := 5) (oi := ?oi86) (v := .agg #[.int .i64 k, .int .i64 u, .int .i64 m, .int .i64 on, .int .i64 off]) ?hi86 (by kernel_rfl) (by kernel_rfl) (by kernel_rfl) (fun _ _ _ h => h) ?hy86 hS1 ?rest86
              case hi86 => simp only [List.getElem?_toArray, List.getElem?_cons_succ, List.getElem?_cons_zero]; rfl
              case hy86 => exact Or.inl ⟨rfl, fun _ hSw => by obtain ⟨_, _, e, q0, q1, q2, q3, q4⟩ := HACT.out _ hSw; cases e; go_simp⟩
              simp only [Act.put, List.setIfInBounds_toArray, List.set_cons_zero, List.set_cons_succ]
              refine wpAnyH_ready (rs := [1]) (by kernel_rfl) (by simp) ?_
              refine AllReadyH.cons (o := ?oiu87_1) ?hiu87_1 ?stepu87_1 AllReadyH.nil
              case hiu87_1 => simp only [List.getElem?_toArray, List.getElem?_cons_succ, List.getElem?_cons_zero]; rfl
              intro K hK
              go_simp
              refine hK.out _ _ hS1 (fun hS2 => ?_)
              clear hK K c0 c1 c2
              try simp only [Act.put, List.setIfInBounds_toArray, List.set_cons_zero, List.set_cons_succ]
              generalize wr.drew = wd at *
              refine wpAnyH_ready (rs := [6]) (by kernel_rfl) (by simp) ?_
              refine AllReadyH.cons (o := ?oiu88_6) ?hiu88_6 ?stepu88_6 AllReadyH.nil
              case hiu88_6 => simp only [List.getElem?_toArray, List.getElem?_cons_succ, List.getElem?_cons_zero]; rfl
              intro K hK
              go_simp
              refine HDO.out.mono ?_
              rintro e w4 ⟨v4, r4, rfl, hi4, ho4, hk4⟩
              obtain ⟨ar4, cr4, hr4⟩ := ownsRow_slice ho4
              subst hr4
              have RN := hid (SD.out.step hi4 ho4 hk4 HGS.out)
              have R4 := hid (rb_toR SD.out.rb SD.out.bs.is hk4)
              have hb4 := (SD.out.bs.to hi4 hk4).bel
              refine hK.out _ _ hb4 (fun hS3 => ?_)
              clear hK K hi4 ho4 hk4 hb4 hS1 hS2
              try simp only [Act.put, List.setIfInBounds_toArray, List.set_cons_zero, List.set_cons_succ]
              refine wpAnyH_take (i := 7) (oi := ?oi89) (v := .tuple #[.agg #[.int .i64 V, .int .i64 X', .slice ar4 L'.length cr4], .bool true]) ?hi89 (by kernel_rfl) (by kernel_rfl) (by kernel_rfl) (fun _ _ _ h => h) ?hy89 hS3 ?rest89
              case hi89 => simp only [List.getElem?_toArray, List.getElem?_cons_succ, List.getElem?_cons_zero]; rfl
              case hy89 => exact Or.inl ⟨rfl, fun _ hSw => rfl⟩
              simp only [Act.put, List.setIfInBounds_toArray, List.set_cons_zero, List.set_cons_succ]
              refine wpAnyH_take (i := 8) (oi := ?oi90) (v := .agg #[.int .i64 V, .int .i64 X', .slice ar4 L'.length cr4]) ?hi90 (by kernel_rfl) (by kernel_rfl) (by kernel_rfl) (fun _ _ _ h => h) ?hy90 hS3 ?rest90
              case hi90 => simp only [List.getElem?_toArray, List.getElem?_cons_succ, List.getElem?_cons_zero]; rfl
              case hy90 => exact Or.inl ⟨rfl, fun _ hSw => by go_simp⟩
              simp only [Act.put, List.setIfInBounds_toArray, List.set_cons_zero, List.set_cons_succ]
              refine wpAnyH_take (i := 9) (oi := ?oi91) (v := .bool true) ?hi91 (by kernel_rfl) (by kernel_rfl) (by kernel_rfl) (fun _ _ _ h => h) ?hy91 hS3 ?rest91
              case hi91 => simp only [List.getElem?_toArray, List.getElem?_cons_succ, List.getElem?_cons_zero]; rfl
              case hy91 => exact Or.inl ⟨rfl, fun _ hSw => by go_simp⟩
              simp only [Act.put, List.setIfInBounds_toArray, List.set_cons_zero, List.set_cons_succ]
              obtain ⟨⟨z0, s0⟩, f0, s1, f1, s2, f2⟩ := R4.out.wr
              have hbn := RN.out.bs.bel
              refine wpAnyH_ready (rs := [10]) (by kernel_rfl) (by simp) ?_
              refine AllReadyH.cons (o := ?oiu92_10) ?hiu92_10 ?stepu92_10 AllReadyH.nil
              case hiu92_10 => simp only [List.getElem?_toArray, List.getElem?_cons_succ, List.getElem?_cons_zero]; rfl
              intro K hK
              go_simp
              refine hK.out _ _ hbn (fun hS4 => ?_)
              clear hK K s0 s1 s2 f0 f1 f2 hS3 hbn
              try simp only [Act.put, List.setIfInBounds_toArray, List.set_cons_zero, List.set_cons_succ]
              generalize World.setCell _ _ _ = w5 at *
              refine wpAnyH_ready (rs := [11]) (by kernel_rfl) (by simp) ?_
              refine AllReadyH.cons (o := ?oiu93_11) ?hiu93_11 ?stepu93_11 AllReadyH.nil
              case hiu93_11 => simp only [List.getElem?_toArray, List.getElem?_cons_succ, List.getElem?_cons_zero]; rfl
              intro K hK
              go_simp
              refine hK.out _ _ hS4 (fun hS5 => ?_)
              clear hK K
              try simp only [Act.put, List.setIfInBounds_toArray, List.set_cons_zero, List.set_cons_succ]
              refine wpAnyH_done (by kernel_rfl) ?_ _
              refine NoPanic.normal ?_
              clear hS4 hS5 HDO HACT SD R4 S HGS
              obtain ⟨c0, c1, c2⟩ := RN.out.rb.c
              go_wp2
              exact ⟨⟨p + 1, v4, .slice ar4 L'.length cr4, X', L', by omega, by omega, by go_num, by omega, RN.out⟩, by simp [intOf]; omega⟩
            · obtain rfl : p = 15 := by omega
              have hji : (15 : Int) < (B.length : Int) := by omega
              rw [show ((15 : Nat) : Int) = 15 from rfl]
              have HSB2 := hid HSB.out
              obtain ⟨vb, rb, Xb, Lb, hb⟩ := HSB.out
              have SB := hid (hb.below S.out.bs.bel)
              clear hb HSB HSB2 HBC
              have HI1 := hid (is18_any b vb rb V Xb Lb wr SB.out.bs.is SB.out.rf SB.out.good)
              unfold rbV at HI1
              obtain ⟨c0, c1, c2⟩ := SB.out.rb.c
              go_wp2_with fail
              refine HI1.out.mono ?_
              rintro e w6 ⟨rfl, hb6⟩
              have S6 := hid (S.out.below hb6)
              have SB6 := hid (SB.out.below hb6)
              clear hb6 S SB HI1 c0 c1 c2
              have HI2 := hid (is18_any c v r V X L w6 S6.out.bs.is S6.out.rf S6.out.good)
              unfold rbV at HI2
              obtain ⟨c0, c1, c2⟩ := S6.out.rb.c
              go_wp2_with fail
              refine HI2.out.mono ?_
              rintro e w7 ⟨rfl, hb7⟩
              have HE := hid (SB6.out.below hb7).bs.bel
              clear hb7 S6 SB6 HI2 c0 c1 c2
              go_wp2
              go_ret
              exact ⟨rfl, HE.out⟩
          · obtain rfl : p = B.length := by omega
            have HSB2 := hid HSB.out
            obtain ⟨vb, rb, Xb, Lb, hb⟩ := HSB.out
            have SB := hid (hb.below S.out.bs.bel)
            clear hb HSB HSB2 HBC
            have HI1 := hid (is18_any b vb rb V Xb Lb wr SB.out.bs.is SB.out.rf SB.out.good)
            unfold rbV at HI1
            obtain ⟨c0, c1, c2⟩ := SB.out.rb.c
            go_wp2_with fail
            refine HI1.out.mono ?_
            rintro e w6 ⟨rfl, hb6⟩
            have S6 := hid (S.out.below hb6)
            have SB6 := hid (SB.out.below hb6)
            clear hb6 S SB HI1 c0 c1 c2
            have HI2 := hid (is18_any c v r V X L w6 S6.out.bs.is S6.out.rf S6.out.good)
            unfold rbV at HI2
            obtain ⟨c0, c1, c2⟩ := S6.out.rb.c
            go_wp2_with fail
            refine HI2.out.mono ?_
            rintro e w7 ⟨rfl, hb7⟩
            have HE := hid (SB6.out.below hb7).bs.bel
            clear hb7 S6 SB6 HI2 c0 c1 c2
            go_wp2
            go_ret
            exact ⟨rfl, HE.out⟩

set_option maxRecDepth 100000 in
theorem contract (H : Type) (enc : TypeId × Value → H) (W : World) (base : Nat) (args : Array Value) (ds gs : List (DataW H)) (before : List MemPlace)
    (hval : ∀ (j : Nat) t v, Try.f3.params[j]? = some t → args[j]? = some v → Value.okWide Try.prog W .any base t v)
    (hW : DataW.Whole enc Try.prog Try.f3.params.toList Rows.boxPlaysSpec.vars false W args.toList ds gs before) (hL : laidMetH Try.prog Rows.boxPlaysRow.laid W) :
    Calls Try.prog 3 args W fun e W' => ∃ v, e = .returned v ∧ Rows.boxPlaysSpec.post enc Try.prog Try.f3 false true false false W args v W' := by
  have hW' := hW
  obtain ⟨p, q, hA0, hV, rfl, hfz, hnd⟩ := hW
  have hA : DataW.TrodAll enc Try.prog W 0 (fun _ => true) true Try.f3.params.toList args.toList ds p := hA0
  rw [Try.params3] at hA hval
  obtain ⟨v0, vs0, d0, ds0, p0, q0, hargs, rfl, rfl, h0, r0⟩ := trodAll_cons hA
  obtain ⟨v1, vs1, d1, ds1, p1, q1, rfl, rfl, rfl, h1, r1⟩ := trodAll_cons r0
  obtain ⟨v2, vs2, d2, ds2, p2, q2, rfl, rfl, rfl, h2, r2⟩ := trodAll_cons r1
  obtain ⟨rfl, rfl, rfl⟩ := trodAll_nil r2
  obtain rfl : args = #[v0, v1, v2] := by cases args; simp_all
  obtain ⟨n0, rfl, rfl, rfl, wn0⟩ := open_int Try.underlying3 (hval 0 3 v0 rfl rfl) h0
  obtain ⟨ao1, L1, cap1, rfl, hR1, hL1⟩ := open_acts18 (hval 1 22 v1 rfl rfl) h1
  obtain ⟨ao2, L2, cap2, rfl, hR2, hL2⟩ := open_acts18 (hval 2 22 v2 rfl rfl) h2
  refine (walk n0 ao1 L1 cap1 ao2 L2 cap2 W hR1 hR2).mono fun e W' ⟨he, hb⟩ => ?_
  subst he
  exact ⟨_, rfl, law_post rfl rfl (by rw [Try.params3]; decide +kernel) hW' rfl hb⟩

theorem laid_met (os : Os) : laidMet Try.prog Rows.boxPlaysRow.laid ((laidWorld os).forCall (fun _ _ => 0) ⟨#[], #[.int .i64 0, .slice none 0 0, .slice none 0 0], []⟩).memory :=
  laidMet_of_run' 8 (by kernel_rfl) (by kernel_rfl)
theorem reads (os : Os) {H : Type} (enc : TypeId × Value → H) : ∃ places, DataW.whole enc Try.prog ((laidWorld os).forCall (fun _ _ => 0) ⟨#[], #[.int .i64 0, .slice none 0 0, .slice none 0 0], []⟩).memory Try.f3.params.toList Rows.boxPlaysSpec.vars false (#[.int .i64 0, .slice none 0 0, .slice none 0 0] : Array Value).toList 8
    = some ([.lit (.int .i64 0), .nil, .nil], [], places) :=
  ⟨[], by kernel_rfl⟩

set_option maxRecDepth 100000 in
theorem lifted (os : Os) (started : os.Started) (H : Type) (enc : TypeId × Value → H) (F : Stop.Interp) :
    ReturnsInHanded {} Try.checked os 3 .any ((OpenSpec.ofChange Rows.boxPlaysSpec).preRow enc Try.prog Try.f3 Rows.boxPlaysRow.domain false Rows.boxPlaysRow.laid) (((OpenSpec.ofChange Rows.boxPlaysSpec).at F).post enc Try.prog Try.f3 false true false false) := by
  obtain ⟨places, hx⟩ := reads os enc
  refine returnsInHanded_of_row (C := Try.checked) (s := OpenSpec.ofChange Rows.boxPlaysSpec) own started (by kernel_rfl) Try.func3
    (witness_row_at (enc := enc) (C := Try.checked) false (laidWorld os) #[.int .i64 0, .slice none 0 0, .slice none 0 0] rfl (by kernel_rfl) (by kernel_rfl) (by kernel_rfl)
      (OpenSpec.preRow_of_cond 8 hx (by kernel_rfl) (fun k hk => by cases hk) (by kernel_rfl) (laid_met os))) ?_
  intro W base args ds gs before hval hW _ _ _ hL _ _
  exact contract H enc W base args ds gs before hval hW hL

theorem said : Rows.BoxPlaysSaid :=
  OpenClaim.holds_of_cond 3 Try.f3 rfl rfl rfl rfl rfl rfl rfl ⟨rfl, rfl, rfl, rfl, rfl⟩ rfl rfl rfl rfl rfl (by kernel_rfl) Try.func3 (by kernel_rfl)
    (of_decide_eq_true (by kernel_rfl)) (by unfold Func.isWrapper; first | (rw [if_pos (by decide +kernel)]; kernel_rfl) | (rw [if_neg (by decide +kernel)]; exact ⟨rfl, rfl⟩))
    (fun os started H enc _ F => by rw [OpenClaim.pre_eq_preRow]; exact lifted os started H enc F)


end BoxPlays
theorem boxPlays_said : Rows.BoxPlaysSaid := BoxPlays.said
end Go.Proofs.Ytlfjhpmachblkaa
