/-
  Behind any calls just the document's pages are taken; a clone goes its own way (law AllocPlays); for every input.
-/
import Derived.Test.YtmlkbdkehoajaaaAl13
namespace Go.Proofs.Ytmlkbdkehoajaaa
open Go.ChangeShapes Go.WideShapes Go.ChangeAt Go.RowKit
open Go.Lib (hid)

theorem ActsA.keptN {w w' : World} {ao : Option Addr} {L : List (Int × Int × Int × Int)} {B : Nat} (h : ActsA w ao L) (hb : Below B w w') (hB : w.heap.size ≤ B) : ActsA w' ao L := h.below (hb.mono hB)
namespace AllocPlays
set_option maxHeartbeats 4000000 in
set_option maxRecDepth 100000 in
theorem walk (n : Int) (ao : Option Addr) (A : List (Int × Int × Int × Int)) (cap : Nat) (bo : Option Addr) (B : List (Int × Int × Int × Int)) (capb : Nat) (w : World) (hA : ActsA w ao A) (hAl : A.length ≤ maxLen) (hAb : ∀ i, i < A.length → (A.getD i (0, 0, 0, 0)).2.2.1 ≤ 9223372036854775807 ∧ (A.getD i (0, 0, 0, 0)).2.2.2 ≤ 9223372036854775807)
    (hB : ActsA w bo B) (hBl : B.length ≤ maxLen) (hBb : ∀ i, i < B.length → (B.getD i (0, 0, 0, 0)).2.2.1 ≤ 9223372036854775807 ∧ (B.getD i (0, 0, 0, 0)).2.2.2 ≤ 9223372036854775807) :
    Calls Try.prog 3 #[.int .i64 n, .slice ao A.length cap, .slice bo B.length capb] w fun e w' => e = .returned (.bool true) ∧ Below w.heap.size w w' := by
  obtain ⟨m, hm⟩ : ∃ m : Int, min n 40 = m := ⟨_, rfl⟩
  obtain ⟨k, hk⟩ : ∃ k : Nat, max 1 (min m 4096) = (k : Int) := ⟨(max 1 (min m 4096)).toNat, by omega⟩
  have hAm : A.length ≤ 9223372036854775807 := hAl
  have hBm : B.length ≤ 9223372036854775807 := hBl
  have HA := hid hA
  have HB := hid hB
  have HAB := hid hAb
  have HBB := hid hBb
  have HNW := hid (fun wx => new_any m k hk wx)
  have HRN := hid (fun wx => rnew_any m k hk wx)
  clear hA hB hAb hBb hAl hBl hk
  go_enter Try.func3, Try.ntmps3
  go_upto_region 3 with (go_at_call 7; refine (awake11_any _).mono ?_; rintro e w0 ⟨rfl, hb0⟩)
  go_wp2_with fail
  refine (HNW.out _).mono ?_
  rintro e w1 ⟨b, gm, rfl, hm1, hbb, hgm, hb1⟩
  have HB1 := hid (hb0.trans (hb1.mono hb0.size))
  have hs0 := hb0.size
  have HM1 := hid hm1
  clear hm1 hb1 hb0
  go_wp2_with fail
  refine (HRN.out _).mono ?_
  rintro e w2 ⟨gl, rfl, hr2, hgl, hb2⟩
  have HM2 := hid (HM1.out.below hb2)
  have HR2 := hid hr2
  have HB2 := hid (HB1.out.trans (hb2.mono HB1.out.size))
  have hgml := HM1.out.row.lt
  have hne : gl ≠ gm := by omega
  have hsw : w.heap.size ≤ gm := by omega
  have hswb : w.heap.size ≤ b := by omega
  have hgw : w.heap.size ≤ gl := by have := HB1.out.size; omega
  clear hr2 hb2 HM1 HB1 HNW HRN hgml
  go_upto_region 9 with (fail)
  have hlk : (List.replicate k false).length = k := by simp
  have HLK := hid hlk
  clear hlk
  generalize List.replicate k false = L0 at *
  go_loopw [8, 9, 10] (fun l ok i wr => ∃ (j gl cl : Nat) (L : List Bool), i = .int .i64 j ∧ j ≤ A.length ∧ j ≤ 30 ∧ l = .slice (some ⟨gl, 0, none⟩) k cl ∧ L.length = k ∧ MapAt wr b gm k L ∧ BRow wr gl cl L ∧ gl ≠ gm ∧ w.heap.size ≤ gl ∧ Below w.heap.size w wr)
    (fun _ _ i _ => 30 - (intOf i).toNat)
  case atStart => exact ⟨0, gl, k, L0, rfl, by omega, by omega, rfl, HLK.out, HM2.out, HR2.out, hne, hgw, HB2.out⟩
  case round =>
    clear HM2 HR2 HB2 HLK hne hgl hgw
    obtain ⟨j, gl, cl, L, rfl, hj, hj30, rfl, hL, hm, hr, hne, hgl, hbel⟩ := hrel
    have HM := hid hm
    have HR := hid hr
    have HBEL := hid hbel
    by_cases hlt : j < A.length
    · by_cases h30 : j < 30
      · obtain ⟨sb, so, rfl, c0, c1, c2, c3⟩ := HA.out.below hbel j hlt
        obtain ⟨hF, hC⟩ := HAB.out j hlt
        generalize A.getD j (0, 0, 0, 0) = q at *
        obtain ⟨K, N, F, C⟩ := q
        simp only at c0 c1 c2 c3 hF hC
        have HDO := hid (do_any b gm k gl cl L K N F C hF hC wr hm hr hne)
        rw [hL] at HDO
        have HL := hid hL
        clear hm hr hbel hF hC hL
        go_wp2_with fail
        refine HDO.out.mono ?_
        rintro e w4 ⟨gl', cl', L', rfl, h1, h2, h3, h4, h5, h6⟩
        have HM4 := hid h2
        have HR4 := hid h3
        have HB4 := hid (HBEL.out.trans (h6.below hsw HBEL.out.size))
        have hs4 := HBEL.out.size
        have hgl' : w.heap.size ≤ gl' := by omega
        have HIS := hid (isLaw_any b gm k gl' cl' L' w4 h2 h3)
        have HL4 := hid (h1.trans HL.out)
        rw [h1, HL.out] at HIS
        clear h1 h2 h3 h5 h6 HDO HM HR HBEL c0 c1 c2 c3
        go_wp2_with fail
        refine HIS.out.mono ?_
        rintro e w5 ⟨rfl, hb5⟩
        have HM5 := hid (HM4.out.below hb5)
        have HR5 := hid (HR4.out.at (hb5.block gl' HR4.out.lt))
        have HB5 := hid (HB4.out.trans (hb5.mono HB4.out.size))
        clear hb5 HM4 HR4 HB4 HIS
        go_wp2
        exact ⟨⟨j + 1, gl', cl', L', by go_num, by omega, by omega, rfl, HL4.out, HM5.out, HR5.out, h4, hgl', HB5.out⟩, by simp [intOf]; omega⟩
      · obtain rfl : j = 30 := by omega
        have hji : (30 : Int) < (A.length : Int) := by omega
        rw [show ((30 : Nat) : Int) = 30 from rfl]
        have HL := hid hL
        have HBB2 := hid (HB.out.below hbel)
        have hgml := hm.row.lt
        have hbl := hm.lt
        have hgll := hr.lt
        have hle := hm.le
        have hbgm := hm.ne
        have hCL := clone_any b gm k L wr hm
        have HCL := hid hCL
        clear hm hr hbel hL hCL HA HAB
        go_wp2_with fail
        refine HCL.out.mono ?_
        rintro e w4 ⟨b2, g2, c2, rfl, hm2, hb2, hg2, hb4⟩
        have HC4 := hid hm2
        have HM4 := hid (HM.out.below hb4)
        have HR4 := hid (HR.out.at (hb4.block gl hgll))
        have HBB4 := hid (HBB2.out.below hb4)
        have HB4 := hid (HBEL.out.trans (hb4.mono HBEL.out.size))
        have hwr := HBEL.out.size
        have hb2w : w.heap.size ≤ b2 := by omega
        have hg2w : w.heap.size ≤ g2 := by omega
        have hgg : gl ≠ g2 := by omega
        have hgm2 : gm ≠ g2 := by omega
        have hbg2 : b ≠ g2 := by omega
        clear hm2 hb4 HM HR HBB2 HBEL HCL hgml hbl hgll hb2 hg2 hwr
        go_upto_region 18 with (fail)
        go_loopw [9, 12, 13] (fun ok l i wr => ∃ (j gk ck : Nat) (L' : List Bool), i = .int .i64 j ∧ j ≤ B.length ∧ j ≤ 15 ∧ l = .slice (some ⟨gk, 0, none⟩) k ck ∧ L'.length = k ∧ MapAt wr b2 g2 c2 L' ∧ BRow wr gk ck L' ∧ gk ≠ g2 ∧ w.heap.size ≤ gk ∧ MapAt wr b gm k L ∧ BRow wr gl cl L ∧ ActsA wr bo B ∧ Below w.heap.size w wr)
          (fun _ _ i _ => 15 - (intOf i).toNat)
        case atStart => exact ⟨0, gl, cl, L, rfl, by omega, by omega, rfl, HL.out, HC4.out, HR4.out, hgg, hgl, HM4.out, HR4.out, HBB4.out, HB4.out⟩
        case round =>
          clear HC4 HM4 HR4 HBB4 HB4
          obtain ⟨j, gk, ck, L', rfl, hj, hj15, rfl, hL', hc, hrk, hgk2, hgkw, hm, hr, hbb, hbel⟩ := hrel
          have HC := hid hc
          have HRK := hid hrk
          have HM := hid hm
          have HR := hid hr
          have HBX := hid hbb
          have HBEL := hid hbel
          by_cases hlt : j < B.length
          · by_cases h15 : j < 15
            · obtain ⟨sb, so, rfl, c0, c1, c3, c4⟩ := hbb j hlt
              obtain ⟨hF, hC⟩ := HBB.out j hlt
              generalize B.getD j (0, 0, 0, 0) = q at *
              obtain ⟨K, N, F, C⟩ := q
              simp only at c0 c1 c3 c4 hF hC
              have HDO := hid (do_any b2 g2 c2 gk ck L' K N F C hF hC _ hc hrk hgk2)
              rw [hL'] at HDO
              have HL' := hid hL'
              clear hm hr hbb hbel hF hC hL' hc hrk
              go_wp2_with fail
              refine HDO.out.mono ?_
              rintro e w5 ⟨gk', ck', L2, rfl, h1, h2, h3, h4, h5, h6⟩
              have hsz := HBEL.out.size
              have hgkw' : w.heap.size ≤ gk' := by omega
              have HC5 := hid h2
              have HRK5 := hid h3
              have HM5 := hid (HM.out.at (h6.block b HM.out.lt hbg2) (h6.block gm HM.out.row.lt hgm2))
              have HR5 := hid (HR.out.at (h6.block gl HR.out.lt hgg))
              have HBX5 := hid (HB.out.below (HBEL.out.trans (h6.below hg2w HBEL.out.size)))
              have HB5 := hid (HBEL.out.trans (h6.below hg2w HBEL.out.size))
              have HL5 := hid (h1.trans HL'.out)
              clear h1 h2 h3 h5 h6 HDO HC HRK HM HR HBX HBEL c0 c1 c3 c4 HL'
              go_wp2
              exact ⟨⟨j + 1, gk', ck', L2, by go_num, by omega, by omega, rfl, HL5.out, HC5.out, HRK5.out, h4, hgkw', HM5.out, HR5.out, HBX5.out, HB5.out⟩, by simp [intOf]; omega⟩
            · obtain rfl : j = 15 := by omega
              have hji : (15 : Int) < (B.length : Int) := by omega
              rw [show ((15 : Nat) : Int) = 15 from rfl]
              have HI1 := hid (isLaw_any b gm k gl cl L _ HM.out HR.out)
              rw [HL.out] at HI1
              have HI2 := hid (fun wx h1 h2 => isLaw_any b2 g2 c2 gk ck L' wx h1 h2)
              rw [hL'] at HI2
              clear hm hr hbb hbel hc hrk hL' HBX
              go_wp2_with fail
              refine HI1.out.mono ?_
              rintro e w5 ⟨rfl, hb5⟩
              have HC5 := hid (HC.out.below hb5)
              have HR5 := hid (HRK.out.at (hb5.block gk HRK.out.lt))
              have HB5 := hid (HBEL.out.trans (hb5.mono HBEL.out.size))
              clear hb5 HC HRK HM HR HBEL HI1
              go_wp2_with fail
              refine (HI2.out _ HC5.out HR5.out).mono ?_
              rintro e w6 ⟨rfl, hb6⟩
              have HB6 := hid (HB5.out.trans (hb6.mono HB5.out.size))
              clear hb6
              go_wp2
              go_ret
              exact ⟨by rfl, HB6.out⟩
          · obtain rfl : j = B.length := by omega
            have HI1 := hid (isLaw_any b gm k gl cl L _ HM.out HR.out)
            rw [HL.out] at HI1
            have HI2 := hid (fun wx h1 h2 => isLaw_any b2 g2 c2 gk ck L' wx h1 h2)
            rw [hL'] at HI2
            clear hm hr hbb hbel hc hrk hL' HBX
            go_wp2_with fail
            refine HI1.out.mono ?_
            rintro e w5 ⟨rfl, hb5⟩
            have HC5 := hid (HC.out.below hb5)
            have HR5 := hid (HRK.out.at (hb5.block gk HRK.out.lt))
            have HB5 := hid (HBEL.out.trans (hb5.mono HBEL.out.size))
            clear hb5 HC HRK HM HR HBEL HI1
            go_wp2_with fail
            refine (HI2.out _ HC5.out HR5.out).mono ?_
            rintro e w6 ⟨rfl, hb6⟩
            have HB6 := hid (HB5.out.trans (hb6.mono HB5.out.size))
            clear hb6
            go_wp2
            go_ret
            exact ⟨by rfl, HB6.out⟩
    · obtain rfl : j = A.length := by omega
      have HL := hid hL
      have HBB2 := hid (HB.out.below hbel)
      have hgml := hm.row.lt
      have hbl := hm.lt
      have hgll := hr.lt
      have hle := hm.le
      have hbgm := hm.ne
      have hCL := clone_any b gm k L wr hm
      have HCL := hid hCL
      clear hm hr hbel hL hCL HA HAB
      go_wp2_with fail
      refine HCL.out.mono ?_
      rintro e w4 ⟨b2, g2, c2, rfl, hm2, hb2, hg2, hb4⟩
      have HC4 := hid hm2
      have HM4 := hid (HM.out.below hb4)
      have HR4 := hid (HR.out.at (hb4.block gl hgll))
      have HBB4 := hid (HBB2.out.below hb4)
      have HB4 := hid (HBEL.out.trans (hb4.mono HBEL.out.size))
      have hwr := HBEL.out.size
      have hb2w : w.heap.size ≤ b2 := by omega
      have hg2w : w.heap.size ≤ g2 := by omega
      have hgg : gl ≠ g2 := by omega
      have hgm2 : gm ≠ g2 := by omega
      have hbg2 : b ≠ g2 := by omega
      clear hm2 hb4 HM HR HBB2 HBEL HCL hgml hbl hgll hb2 hg2 hwr
      go_upto_region 18 with (fail)
      go_loopw [9, 12, 13] (fun ok l i wr => ∃ (j gk ck : Nat) (L' : List Bool), i = .int .i64 j ∧ j ≤ B.length ∧ j ≤ 15 ∧ l = .slice (some ⟨gk, 0, none⟩) k ck ∧ L'.length = k ∧ MapAt wr b2 g2 c2 L' ∧ BRow wr gk ck L' ∧ gk ≠ g2 ∧ w.heap.size ≤ gk ∧ MapAt wr b gm k L ∧ BRow wr gl cl L ∧ ActsA wr bo B ∧ Below w.heap.size w wr)
        (fun _ _ i _ => 15 - (intOf i).toNat)
      case atStart => exact ⟨0, gl, cl, L, rfl, by omega, by omega, rfl, HL.out, HC4.out, HR4.out, hgg, hgl, HM4.out, HR4.out, HBB4.out, HB4.out⟩
      case round =>
        clear HC4 HM4 HR4 HBB4 HB4
        obtain ⟨j, gk, ck, L', rfl, hj, hj15, rfl, hL', hc, hrk, hgk2, hgkw, hm, hr, hbb, hbel⟩ := hrel
        have HC := hid hc
        have HRK := hid hrk
        have HM := hid hm
        have HR := hid hr
        have HBX := hid hbb
        have HBEL := hid hbel
        by_cases hlt : j < B.length
        · by_cases h15 : j < 15
          · obtain ⟨sb, so, rfl, c0, c1, c3, c4⟩ := hbb j hlt
            obtain ⟨hF, hC⟩ := HBB.out j hlt
            generalize B.getD j (0, 0, 0, 0) = q at *
            obtain ⟨K, N, F, C⟩ := q
            simp only at c0 c1 c3 c4 hF hC
            have HDO := hid (do_any b2 g2 c2 gk ck L' K N F C hF hC _ hc hrk hgk2)
            rw [hL'] at HDO
            have HL' := hid hL'
            clear hm hr hbb hbel hF hC hL' hc hrk
            go_wp2_with fail
            refine HDO.out.mono ?_
            rintro e w5 ⟨gk', ck', L2, rfl, h1, h2, h3, h4, h5, h6⟩
            have hsz := HBEL.out.size
            have hgkw' : w.heap.size ≤ gk' := by omega
            have HC5 := hid h2
            have HRK5 := hid h3
            have HM5 := hid (HM.out.at (h6.block b HM.out.lt hbg2) (h6.block gm HM.out.row.lt hgm2))
            have HR5 := hid (HR.out.at (h6.block gl HR.out.lt hgg))
            have HBX5 := hid (HB.out.below (HBEL.out.trans (h6.below hg2w HBEL.out.size)))
            have HB5 := hid (HBEL.out.trans (h6.below hg2w HBEL.out.size))
            have HL5 := hid (h1.trans HL'.out)
            clear h1 h2 h3 h5 h6 HDO HC HRK HM HR HBX HBEL c0 c1 c3 c4 HL'
            go_wp2
            exact ⟨⟨j + 1, gk', ck', L2, by go_num, by omega, by omega, rfl, HL5.out, HC5.out, HRK5.out, h4, hgkw', HM5.out, HR5.out, HBX5.out, HB5.out⟩, by simp [intOf]; omega⟩
          · obtain rfl : j = 15 := by omega
            have hji : (15 : Int) < (B.length : Int) := by omega
            rw [show ((15 : Nat) : Int) = 15 from rfl]
            have HI1 := hid (isLaw_any b gm k gl cl L _ HM.out HR.out)
            rw [HL.out] at HI1
            have HI2 := hid (fun wx h1 h2 => isLaw_any b2 g2 c2 gk ck L' wx h1 h2)
            rw [hL'] at HI2
            clear hm hr hbb hbel hc hrk hL' HBX
            go_wp2_with fail
            refine HI1.out.mono ?_
            rintro e w5 ⟨rfl, hb5⟩
            have HC5 := hid (HC.out.below hb5)
            have HR5 := hid (HRK.out.at (hb5.block gk HRK.out.lt))
            have HB5 := hid (HBEL.out.trans (hb5.mono HBEL.out.size))
            clear hb5 HC HRK HM HR HBEL HI1
            go_wp2_with fail
            refine (HI2.out _ HC5.out HR5.out).mono ?_
            rintro e w6 ⟨rfl, hb6⟩
            have HB6 := hid (HB5.out.trans (hb6.mono HB5.out.size))
            clear hb6
            go_wp2
            go_ret
            exact ⟨by rfl, HB6.out⟩
        · obtain rfl : j = B.length := by omega
          have HI1 := hid (isLaw_any b gm k gl cl L _ HM.out HR.out)
          rw [HL.out] at HI1
          have HI2 := hid (fun wx h1 h2 => isLaw_any b2 g2 c2 gk ck L' wx h1 h2)
          rw [hL'] at HI2
          clear hm hr hbb hbel hc hrk hL' HBX
          go_wp2_with fail
          refine HI1.out.mono ?_
          rintro e w5 ⟨rfl, hb5⟩
          have HC5 := hid (HC.out.below hb5)
          have HR5 := hid (HRK.out.at (hb5.block gk HRK.out.lt))
          have HB5 := hid (HBEL.out.trans (hb5.mono HBEL.out.size))
          clear hb5 HC HRK HM HR HBEL HI1
          go_wp2_with fail
          refine (HI2.out _ HC5.out HR5.out).mono ?_
          rintro e w6 ⟨rfl, hb6⟩
          have HB6 := hid (HB5.out.trans (hb6.mono HB5.out.size))
          clear hb6
          go_wp2
          go_ret
          exact ⟨by rfl, HB6.out⟩

set_option maxRecDepth 100000 in
theorem contract (H : Type) (enc : TypeId × Value → H) (W : World) (base : Nat) (args : Array Value) (ds gs : List (DataW H)) (before : List MemPlace)
    (hval : ∀ (j : Nat) t v, Try.f3.params[j]? = some t → args[j]? = some v → Value.okWide Try.prog W .any base t v)
    (hW : DataW.Whole enc Try.prog Try.f3.params.toList Rows.allocPlaysSpec.vars false W args.toList ds gs before) (hL : laidMetH Try.prog Rows.allocPlaysRow.laid W) :
    Calls Try.prog 3 args W fun e W' => ∃ v, e = .returned v ∧ Rows.allocPlaysSpec.post enc Try.prog Try.f3 false true false false W args v W' := by
  have hW' := hW
  obtain ⟨p, q, hA0, hV, rfl, hfz, hnd⟩ := hW
  have hA : DataW.TrodAll enc Try.prog W 0 (fun _ => true) true Try.f3.params.toList args.toList ds p := hA0
  rw [Try.params3] at hA hval
  obtain ⟨v0, vs0, d0, ds0, p0, q0, hargs, rfl, rfl, h0, r0⟩ := trodAll_cons hA
  obtain ⟨v1, vs1, d1, ds1, p1, q1, rfl, rfl, rfl, h1, r1⟩ := trodAll_cons r0
  obtain ⟨v2, vs2, d2, ds2, p2, q2, rfl, rfl, rfl, h2, r2⟩ := trodAll_cons r1
  obtain ⟨rfl, rfl, rfl⟩ := trodAll_nil r2
  obtain rfl : args = #[v0, v1, v2] := by cases args; simp_all
  obtain ⟨n0, rfl, rfl, rfl, wn0⟩ := open_int Try.underlying3 (hval 0 3 v0 rfl rfl) h0
  obtain ⟨ao1, L1, cap1, rfl, hR1, hL1, hb1⟩ := open_acts11 (hval 1 22 v1 rfl rfl) h1
  obtain ⟨ao2, L2, cap2, rfl, hR2, hL2, hb2⟩ := open_acts11 (hval 2 22 v2 rfl rfl) h2
  refine (walk n0 ao1 L1 cap1 ao2 L2 cap2 W hR1 hL1 hb1 hR2 hL2 hb2).mono fun e W' ⟨he, hb⟩ => ?_
  subst he
  exact ⟨_, rfl, law_post rfl rfl (by rw [Try.params3]; decide +kernel) hW' rfl hb⟩

theorem laid_met (os : Os) : laidMet Try.prog Rows.allocPlaysRow.laid ((laidWorld os).forCall (fun _ _ => 0) ⟨#[], #[.int .i64 0, .slice none 0 0, .slice none 0 0], []⟩).memory :=
  laidMet_of_run' 8 (by kernel_rfl) (by kernel_rfl)
theorem reads (os : Os) {H : Type} (enc : TypeId × Value → H) : ∃ places, DataW.whole enc Try.prog ((laidWorld os).forCall (fun _ _ => 0) ⟨#[], #[.int .i64 0, .slice none 0 0, .slice none 0 0], []⟩).memory Try.f3.params.toList Rows.allocPlaysSpec.vars false (#[.int .i64 0, .slice none 0 0, .slice none 0 0] : Array Value).toList 8
    = some ([.lit (.int .i64 0), .nil, .nil], [], places) :=
  ⟨[], by kernel_rfl⟩

set_option maxRecDepth 100000 in
theorem lifted (os : Os) (started : os.Started) (H : Type) (enc : TypeId × Value → H) (F : Stop.Interp) :
    ReturnsInHanded {} Try.checked os 3 .any ((OpenSpec.ofChange Rows.allocPlaysSpec).preRow enc Try.prog Try.f3 Rows.allocPlaysRow.domain false Rows.allocPlaysRow.laid) (((OpenSpec.ofChange Rows.allocPlaysSpec).at F).post enc Try.prog Try.f3 false true false false) := by
  obtain ⟨places, hx⟩ := reads os enc
  refine returnsInHanded_of_row (C := Try.checked) (s := OpenSpec.ofChange Rows.allocPlaysSpec) own started (by kernel_rfl) Try.func3
    (witness_row_at (enc := enc) (C := Try.checked) false (laidWorld os) #[.int .i64 0, .slice none 0 0, .slice none 0 0] rfl (by kernel_rfl) (by kernel_rfl) (by kernel_rfl)
      (OpenSpec.preRow_of_cond 8 hx (by kernel_rfl) (fun k hk => by cases hk) (by kernel_rfl) (laid_met os))) ?_
  intro W base args ds gs before hval hW _ _ _ hL _ _
  exact contract H enc W base args ds gs before hval hW hL

theorem said : Rows.AllocPlaysSaid :=
  OpenClaim.holds_of_cond 3 Try.f3 rfl rfl rfl rfl rfl rfl rfl ⟨rfl, rfl, rfl, rfl, rfl⟩ rfl rfl rfl rfl rfl (by kernel_rfl) Try.func3 (by kernel_rfl)
    (of_decide_eq_true (by kernel_rfl)) (by unfold Func.isWrapper; first | (rw [if_pos (by decide +kernel)]; kernel_rfl) | (rw [if_neg (by decide +kernel)]; exact ⟨rfl, rfl⟩))
    (fun os started H enc _ F => by rw [OpenClaim.pre_eq_preRow]; exact lifted os started H enc F)


end AllocPlays
theorem allocPlays_said : Rows.AllocPlaysSaid := AllocPlays.said
end Go.Proofs.Ytmlkbdkehoajaaa
