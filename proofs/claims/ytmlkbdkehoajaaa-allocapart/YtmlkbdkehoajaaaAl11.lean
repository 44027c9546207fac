/-
  Layer 11: the law's Is.
-/
import Derived.Test.YtmlkbdkehoajaaaAl10
namespace Go.Proofs.Ytmlkbdkehoajaaa
open Go.RowKit
open Go.Lib (hid)

theorem fits_in (n p : Nat) (h : p < n) : Al.fits n (p : Int) 1 = true := by rw [Al.fits_iff]; omega
theorem fits_end (n : Nat) : Al.fits n (n : Int) 1 = false := by
  rw [← Bool.not_eq_true, Al.fits_iff]; omega
theorem fits_neg (n : Nat) : Al.fits n (-1) 1 = false := by
  rw [← Bool.not_eq_true, Al.fits_iff]; omega
theorem spans_of_own {w : World} {base : Nat} {T : TypeId} {v : Value} {n : Nat} {l : List (Nat × Nat)} (h : w.ownsRow base T 2 v l.length (spC l)) (hn : l.length = n) : ∃ ao cap, v = .slice ao n cap ∧ Spans w ao l := by
  subst hn
  exact OwnSp.spans (T := T) h

set_option maxHeartbeats 4000000 in
set_option maxRecDepth 100000 in
theorem isLaw_any (b gm c gl cl : Nat) (L : List Bool) (w : World) (hM : MapAt w b gm c L) (hR : BRow w gl cl L) :
    Calls Try.prog 11 #[.pointer (some ⟨b, 0, none⟩), .slice (some ⟨gl, 0, none⟩) L.length cl] w fun e w' => e = .returned (.bool true) ∧ Below w.heap.size w w' := by
  have hle := hM.le
  have HM0 := hid hM
  have HR0 := hid hR
  have HIE := hid (fun wx hx => is_any b gm c L (L.length : Int) (by omega) wx hx)
  rw [fits_end, Bool.false_and] at HIE
  have HIN := hid (fun wx hx => is_any b gm c L (-1) (by omega) wx hx)
  rw [fits_neg, Bool.false_and] at HIN
  have HFR := hid (fun wx hx => free_any b gm c L wx hx)
  rw [Al.spans_sum] at HFR
  have HMO := hid (fun wx hx => most_any b gm c L wx hx)
  have HTA := hid (fun wx hx => taken_any b gm c L wx hx)
  have HRT := hid (fun wx hx => rtaken_any gl cl L wx hx hle)
  clear hM hR
  go_enter Try.func11, Try.ntmps11
  go_upto_region 3 with (fail)
  go_loopw [5, 6, 7, 8, 14] (fun fr mo px is i wr => ∃ p M : Nat, p ≤ L.length ∧ i = .int .i64 p ∧ fr = .int .i64 ((L.take p).count false : Nat) ∧ mo = .int .i64 M ∧ Al.Top L p M ∧ MapAt wr b gm c L ∧ BRow wr gl cl L ∧ Below w.heap.size w wr)
    (fun _ _ _ _ i _ => L.length - (intOf i).toNat)
  case atStart => exact ⟨0, 0, by omega, rfl, rfl, rfl, Al.Top.zero L, HM0.out, HR0.out, Below.refl _ _⟩
  case round =>
    clear HM0 HR0
    obtain ⟨p, M, hp, rfl, rfl, rfl, htop, hm, hr, hbel⟩ := hrel
    have HTOP := hid htop
    have HM := hid hm
    have HR := hid hr
    have HBEL := hid hbel
    by_cases hlt : p < L.length
    · have HIS := hid (is_any b gm c L (p : Int) (by omega) wr hm)
      rw [fits_in L.length p hlt, Bool.true_and, Int.toNat_natCast] at HIS
      have c0 := hr.cell p hlt
      have HRU := hid (fun wx hx => run_any gl cl L p (by omega) false wx hx hle)
      have HCT := hid (Al.count_take L p hlt)
      have hct : (L.take p).count false ≤ 4096 := by
        have := List.count_le_length (a := false) (l := L.take p)
        rw [List.length_take] at this
        omega
      have hgy : L[p]? = some (L.getD p false) := by rw [List.getD_eq_getElem?_getD, List.getElem?_eq_getElem hlt]; rfl
      have HGY := hid hgy
      clear htop hm hr hbel hgy
      generalize L.getD p false = y at *
      generalize (L.take p).count false = n at *
      have hyy : (y != y) = false := by cases y <;> rfl
      go_wp2_with fail
      refine HIS.out.mono ?_
      rintro e w1 ⟨rfl, hb1⟩
      have HM1 := hid (HM.out.below hb1)
      have HR1 := hid (HR.out.at (hb1.block gl HR.out.lt))
      have HB1 := hid (HBEL.out.trans (hb1.mono HBEL.out.size))
      clear hb1 HM HR HBEL HIS
      cases y with
      | true =>
        have HT2 := hid (HTOP.out.taken HGY.out)
        go_wp2
        exact ⟨⟨p + 1, M, by omega, by go_num, by rw [HCT.out]; rfl, rfl, HT2.out, HM1.out, HR1.out, HB1.out⟩, by simp [intOf]; omega⟩
      | false =>
        have HT2 := hid (HTOP.out.free HGY.out)
        obtain ⟨R, hR⟩ : ∃ R, Al.run L p false = R := ⟨_, rfl⟩
        rw [hR] at HRU HT2
        obtain ⟨m, hm⟩ : ∃ m, max M R = m := ⟨_, rfl⟩
        have hmi : max (M : Int) (R : Int) = (m : Int) := by omega
        rw [hm] at HT2
        clear hm hR
        go_wp2_with fail
        refine (HRU.out _ HR1.out).mono ?_
        rintro e w2 ⟨rfl, hw2⟩
        obtain rfl : w1 = w2 := hw2.symm
        go_wp2
        exact ⟨⟨p + 1, m, by omega, by go_num, by rw [HCT.out]; rfl, rfl, HT2.out, HM1.out, HR1.out, HB1.out⟩, by simp [intOf]; omega⟩
    · obtain rfl : p = L.length := by omega
      rw [List.take_length]
      have HMM := hid htop.eqMost
      rw [HMM.out] at HMO
      clear htop hm hr hbel HTOP HMM
      generalize L.count false = n at *
      go_wp2_with fail
      refine (HTA.out _ HM.out).mono ?_
      rintro e w1 ⟨v1, rfl, hown1, hb1⟩
      have HM1 := hid (HM.out.below hb1)
      have HR1 := hid (HR.out.at (hb1.block gl HR.out.lt))
      have HB1 := hid (HBEL.out.trans (hb1.mono HBEL.out.size))
      obtain ⟨k, hk⟩ : ∃ k, (Al.spans L true).length = k := ⟨_, rfl⟩
      obtain ⟨a1, c1, rfl, hs1⟩ := spans_of_own hown1 hk
      have HS1 := hid hs1
      clear hb1 hown1 hs1 HM HR HBEL HTA
      go_wp2_with fail
      refine (HRT.out _ HR1.out).mono ?_
      rintro e w2 ⟨v2, rfl, hown2, hb2⟩
      have HM2 := hid (HM1.out.below hb2)
      have HS12 := hid (HS1.out.below hb2)
      have HB2 := hid (HB1.out.trans (hb2.mono HB1.out.size))
      obtain ⟨a2, c2, rfl, hs2⟩ := spans_of_own hown2 hk
      have HS2 := hid hs2
      have HK := hid hk
      have hkl : k ≤ 4096 := by have := Al.spans_len L true; omega
      clear hb2 hown2 hs2 HM1 HR1 HB1 HS1 HRT hk
      go_wp2_with fail
      refine (HFR.out _ HM2.out).mono ?_
      rintro e w3 ⟨rfl, hb3⟩
      have HM3 := hid (HM2.out.below hb3)
      have HS13 := hid (HS12.out.below hb3)
      have HS23 := hid (HS2.out.below hb3)
      have HB3 := hid (HB2.out.trans (hb3.mono HB2.out.size))
      clear hb3 HM2 HS12 HS2 HB2 HFR
      go_wp2_with fail
      refine (HMO.out _ HM3.out).mono ?_
      rintro e w4 ⟨rfl, hb4⟩
      have HM4 := hid (HM3.out.below hb4)
      have HS14 := hid (HS13.out.below hb4)
      have HS24 := hid (HS23.out.below hb4)
      have HB4 := hid (HB3.out.trans (hb4.mono HB3.out.size))
      clear hb4 HM3 HS13 HS23 HB3 HMO
      go_wp2_with fail
      refine (HIN.out _ HM4.out).mono ?_
      rintro e w5 ⟨rfl, hb5⟩
      have HM5 := hid (HM4.out.below hb5)
      have HS15 := hid (HS14.out.below hb5)
      have HS25 := hid (HS24.out.below hb5)
      have HB5 := hid (HB4.out.trans (hb5.mono HB4.out.size))
      clear hb5 HM4 HS14 HS24 HB4 HIN
      go_wp2_with fail
      refine (HIE.out _ HM5.out).mono ?_
      rintro e w6 ⟨rfl, hb6⟩
      have HS16 := hid (HS15.out.below hb6)
      have HS26 := hid (HS25.out.below hb6)
      have HB6 := hid (HB5.out.trans (hb6.mono HB5.out.size))
      clear hb6 HM5 HS15 HS25 HB5 HIE
      generalize Al.spans L true = l at *
      go_upto_region 15 with (fail)
      go_loopw [11, 67] (fun x i wr => ∃ p : Nat, p ≤ k ∧ i = .int .i64 p ∧ Spans wr a1 l ∧ Spans wr a2 l ∧ Below w.heap.size w wr)
        (fun _ i _ => k - (intOf i).toNat)
      case atStart => exact ⟨0, by omega, rfl, HS16.out, HS26.out, HB6.out⟩
      case round =>
        clear HS16 HS26 HB6
        obtain ⟨p, hp, rfl, h1, h2, hbel⟩ := hrel
        have H1 := hid h1
        have H2 := hid h2
        have HBEL := hid hbel
        have hkk := HK.out
        by_cases hlt : p < k
        · obtain ⟨g1, rfl, x0, x1⟩ := h1 p (by omega)
          obtain ⟨g2, rfl, y0, y1⟩ := h2 p (by omega)
          clear h1 h2 hbel hkk
          generalize l.getD p (0, 0) = z at *
          go_upto_region 17 with (fail)
          go_quiet (fail)
          go_wp2
          exact ⟨⟨p + 1, by omega, by go_num, H1.out.below ⟨rfl, rfl, rfl, Nat.le_refl _, fun _ _ => rfl⟩, H2.out.below ⟨rfl, rfl, rfl, Nat.le_refl _, fun _ _ => rfl⟩, HBEL.out.trans ⟨rfl, rfl, rfl, Nat.le_refl _, fun _ _ => rfl⟩⟩, by simp [intOf]; omega⟩
        · clear h1 h2 hbel hkk
          obtain rfl : p = k := by omega
          go_wp2
          go_ret
          exact ⟨rfl, HBEL.out⟩
end Go.Proofs.Ytmlkbdkehoajaaa
