/-
  What is taken has the least First with which it could be; behind a Give there is as much as ahead of the Take (law AllocFirst); for every input.
-/
import Derived.Test.YtmlkbdkehoajaaaAl13
import Derived.Test.YtmlkbdkehoajaaaRg2
namespace Go.Proofs.Ytmlkbdkehoajaaa
open Go.ChangeShapes Go.WideShapes Go.ChangeAt Go.RowKit
open Go.Lib (hid)

namespace Al
theorem setN_off (L : List Bool) (F : Nat) (n : Nat) (h : F + n ≤ L.length) (hr : n ≤ run L F false) : setN (setN L F true n) F false n = L := by
  apply List.ext_getElem?
  intro i
  rw [setN_get _ F false n i (by rw [setN_length]; omega), setN_get L F true n i h]
  by_cases hi : F ≤ i ∧ i < F + n
  · rw [if_pos hi]
    have := run_has L F false (i - F) (by omega)
    rw [show F + (i - F) = i from by omega] at this
    exact this.symm
  · rw [if_neg hi, if_neg hi]
theorem run_set (L : List Bool) (F n : Nat) (h : F + n ≤ L.length) : n ≤ run (setN L F true n) F true := by
  rcases Nat.lt_or_ge (run (setN L F true n) F true) n with hlt | hge
  · exfalso
    have := run_out (setN L F true n) F true
    rw [setN_get L F true n _ h, if_pos (by omega)] at this
    exact this rfl
  · exact hge
theorem give_back (L : List Bool) (F n : Nat) (hn : 1 ≤ n) (h : F + n ≤ L.length) (hr : n ≤ run L F false) : ch (setN L F true n) (F : Int) (n : Int) false = true ∧ after (setN L F true n) (F : Int) (n : Int) false = L := by
  have h1 : ch (setN L F true n) (F : Int) (n : Int) false = true := by
    unfold ch
    rw [Bool.and_eq_true, fits_iff, setN_length, decide_eq_true_eq, Int.toNat_natCast]
    have := run_set L F n h
    refine ⟨by omega, ?_⟩
    show (n : Int) ≤ ((run (setN L F true n) F (!false) : Nat) : Int)
    rw [show (!false) = true from rfl]
    omega
  refine ⟨h1, ?_⟩
  unfold after
  rw [h1, if_pos rfl, Int.toNat_natCast, Int.toNat_natCast, setN_off L F n h hr]
theorem count_set (L : List Bool) (F n : Nat) (h : F + n ≤ L.length) (hr : n ≤ run L F false) : L.count false = (setN L F true n).count false + n := by
  induction n with
  | zero => rfl
  | succ n ih =>
    have h1 := ih (by omega) (by omega)
    have hg : (setN L F true n)[F + n]? = some false := by
      rw [setN_get L F true n _ (by omega), if_neg (by omega)]
      exact run_has L F false n (by omega)
    rw [h1, setN]
    have hlt : F + n < (setN L F true n).length := by rw [setN_length]; omega
    have := List.count_set (a := true) (b := false) (l := setN L F true n) (i := F + n) hlt
    rw [List.getElem?_eq_getElem hlt] at hg
    have hg' := Option.some.inj hg
    rw [this, hg']
    have hpos : 0 < (setN L F true n).count false := List.count_pos_iff.2 (hg' ▸ List.getElem_mem hlt)
    simp
    omega
theorem first_least (L : List Bool) (k : Int) (hk : 1 ≤ k) (x : Nat × Nat) (h : first L k = some x) (q : Nat) (hq : q < x.1) : (run L q false : Int) < k := by
  rcases Int.lt_or_le (run L q false : Int) k with hlt | hge
  · exact hlt
  · exfalso
    have hx := first_prop L k x h
    -- the least page from which there are enough
    have hex : ∃ p, p ≤ q ∧ k ≤ (run L p false : Int) ∧ ∀ r, r < p → (run L r false : Int) < k := by
      clear hq
      induction q using Nat.strongRecOn with
      | _ q ih =>
        by_cases hall : ∀ r, r < q → (run L r false : Int) < k
        · exact ⟨q, Nat.le_refl _, hge, hall⟩
        · simp only [Classical.not_forall] at hall
          obtain ⟨r, hr, hrk⟩ := hall
          obtain ⟨p, h1, h2, h3⟩ := ih r hr (by omega)
          exact ⟨p, by omega, h2, h3⟩
    obtain ⟨p, h1, h2, h3⟩ := hex
    have hf := first_at L k hk p (by omega) h2 h3
    rw [h] at hf
    have := Option.some.inj hf
    rw [this] at hq
    simp at hq
    omega
theorem first_is (L : List Bool) (k : Int) (hk : 1 ≤ k) : (first L k).isSome = decide (k ≤ (most (spans L false) : Int)) := by
  rw [Bool.eq_iff_iff, decide_eq_true_eq]
  constructor
  · intro h
    obtain ⟨x, hx⟩ := Option.isSome_iff_exists.1 h
    obtain ⟨h1, h2, h3⟩ := first_prop L k x hx
    have := (most_ge (spans L false) 0).2 x (List.mem_of_find?_eq_some hx)
    have e : most (spans L false) = List.foldl (fun m x => max m x.2) 0 (spans L false) := rfl
    omega
  · intro h
    rcases most_at (spans L false) 0 with h0 | ⟨x, hx, h0⟩
    · have e : most (spans L false) = List.foldl (fun m x => max m x.2) 0 (spans L false) := rfl
      omega
    · have e : most (spans L false) = List.foldl (fun m x => max m x.2) 0 (spans L false) := rfl
      rw [Option.isSome_iff_ne_none]
      intro hn
      unfold first at hn
      rw [List.find?_eq_none] at hn
      have := hn x hx
      simp at this
      omega
end Al
theorem count_le (L : List Bool) (n : Nat) (h : L.length = n) : L.count false ≤ n := by have := List.count_le_length (a := false) (l := L); omega
namespace AllocFirst
set_option maxHeartbeats 4000000 in
set_option maxRecDepth 100000 in
theorem walk (ao : Option Addr) (A : List (Int × Int)) (cap : Nat) (k0 : Int) (w : World) (hA : SpansA w ao A) (hAl : A.length ≤ maxLen) :
    Calls Try.prog 5 #[.slice ao A.length cap, .int .i64 k0] w fun e w' => e = .returned (.bool true) ∧ Below w.heap.size w w' := by
  obtain ⟨k1, hk1, hka⟩ := and_le k0 7 (by decide)
  rw [show ((7 : Nat) : Int) = 7 from rfl] at hka
  have hAm : A.length ≤ 9223372036854775807 := hAl
  have HA := hid hA
  have HNW := hid (fun wx => new_any 40 40 (by decide) wx)
  clear hA hAl
  go_enter Try.func5, Try.ntmps5
  go_upto_region 3 with (go_at_call 7; refine (awake11_any _).mono ?_; rintro e w0 ⟨rfl, hb0⟩)
  go_wp2_with fail
  refine (HNW.out _).mono ?_
  rintro e w1 ⟨b, g, rfl, hm1, hbb, hgm, hb1⟩
  have HB1 := hid (hb0.trans (hb1.mono hb0.size))
  have hs0 := hb0.size
  have HM1 := hid hm1
  have hsg : w.heap.size ≤ g := by omega
  have hsb : w.heap.size ≤ b := by omega
  clear hm1 hb1 hb0 HNW hbb hgm hs0
  go_upto_region 7 with (fail)
  have HL0 := hid (show (List.replicate 40 false).length = 40 from by simp)
  generalize List.replicate 40 false = L0 at *
  go_loopw [6] (fun i wr => ∃ (j : Nat) (L : List Bool), i = .int .i64 j ∧ j ≤ A.length ∧ j ≤ 10 ∧ L.length = 40 ∧ MapAt wr b g 40 L ∧ Below w.heap.size w wr)
    (fun i _ => 10 - (intOf i).toNat)
  case atStart => exact ⟨0, L0, rfl, by omega, by omega, HL0.out, HM1.out, HB1.out⟩
  case round =>
    clear HM1 HB1 HL0
    obtain ⟨j, L, rfl, hj, hj10, hL, hm, hbel⟩ := hrel
    have HM := hid hm
    have HBEL := hid hbel
    have HL := hid hL
    by_cases hlt : j < A.length
    · by_cases h10 : j < 10
      · obtain ⟨sb, so, rfl, c0, c1⟩ := HA.out.below hbel j hlt
        generalize A.getD j (0, 0) = q at *
        obtain ⟨F, C⟩ := q
        simp only at c0 c1
        obtain ⟨f, hf, hfa⟩ := and_le F 63 (by decide)
        obtain ⟨n, hn, hna⟩ := and_le C 7 (by decide)
        rw [show ((63 : Nat) : Int) = 63 from rfl] at hfa
        rw [show ((7 : Nat) : Int) = 7 from rfl] at hna
        have HMK := hid (fun m => mark_any b g 40 L (f : Int) (1 + (n : Int)) (by omega) (wr.drewN m) (hm.at rfl rfl))
        have HL2 := hid ((Al.after_length L (f : Int) (1 + (n : Int)) true).trans hL)
        generalize Al.after L (f : Int) (1 + (n : Int)) true = L2 at *
        clear hm hbel hL
        go_upto_region 9 with (fail)
        refine wp_region_noPanic ?_
        refine wp_region_hd1 15 1 rfl (by kernel_rfl) (by kernel_rfl) (fun _ _ _ _ _ h => h) ?_
        simp only [List.take_succ_cons, List.take_zero, List.drop_succ_cons, List.drop_zero]
        repeat (go_big_quiet_step (fail))
        refine wpQuiet_nil ?_
        intro m
        go_wp2_with fail
        refine (HMK.out m).mono ?_
        rintro e w2 ⟨rfl, hm2, hk2⟩
        have HM2 := hid hm2
        have HB2 := hid (HBEL.out.trans ((show Below w.heap.size wr (wr.drewN m) from ⟨rfl, rfl, rfl, Nat.le_refl _, fun _ _ => rfl⟩).trans (hk2.below hsg HBEL.out.size)))
        clear hm2 hk2 HM HBEL HMK c0 c1
        go_wp2
        refine NoPanic.normal ?_
        go_wp2
        exact ⟨⟨j + 1, L2, by go_num, by omega, by omega, HL2.out, HM2.out, HB2.out⟩, by simp [intOf]; omega⟩
      · obtain rfl : j = 10 := by omega
        have hji : (10 : Int) < (A.length : Int) := by omega
        rw [show ((10 : Nat) : Int) = 10 from rfl]
        obtain ⟨kk, hkk⟩ : ∃ kk : Nat, kk = 1 + k1 := ⟨_, rfl⟩
        have hki : 1 + (k1 : Int) = (kk : Int) := by omega
        have hk1' : 1 ≤ kk ∧ kk ≤ 8 := by omega
        have hfl := count_le L 40 hL
        have HFR := hid (fun wx hx => free_any b g 40 L wx hx)
        rw [Al.spans_sum] at HFR
        have HFI := hid (Al.first_is L (kk : Int) (by omega))
        have HMO := hid (fun b2 g2 c2 wx hx => most_any b2 g2 c2 L wx hx)
        have HFC := hid (fun x hx => Al.first_prop L (kk : Int) x hx)
        have HFL := hid (fun x hx q hq => Al.first_least L (kk : Int) (by omega) x hx q hq)
        have HRL := hid (fun q => Al.run_le L q false)
        have HTS := hid (fun x hx wx hm => take_is b g 40 L (kk : Int) (by omega) x hx wx hm)
        have HTN := hid (fun hx wx hm => take_not b g 40 L (kk : Int) (by omega) hx wx hm)
        have HCL := hid (fun wx hx => clone_any b g 40 L wx hx)
        have HCS := hid (fun F h hr => Al.count_set L F kk h hr)
        have HGB := hid (fun F h hr => Al.give_back L F kk (by omega) h hr)
        have HCH := hid (fun (q : Nat) (h : (Al.run L q false : Int) < (kk : Int)) => show Al.ch L (q : Int) (kk : Int) true = false from by
          unfold Al.ch
          rw [Bool.and_eq_false_iff]
          right
          refine decide_eq_false ?_
          rw [Int.toNat_natCast]
          show ¬ (kk : Int) ≤ ((Al.run L q (!true) : Nat) : Int)
          rw [show (!true) = false from rfl]
          omega)
        have HAF := hid (fun (q : Nat) (h : Al.ch L (q : Int) (kk : Int) true = false) => show Al.after L (q : Int) (kk : Int) true = L from by unfold Al.after; rw [h]; rfl)
        clear hkk hm hbel hL HA
        generalize L.count false = fr at *
        generalize Al.most (Al.spans L false) = M at *
        go_wp2_with fail
        refine (HFR.out _ HM.out).mono ?_
        rintro e w2 ⟨rfl, hb2⟩
        have HM2 := hid (HM.out.below hb2)
        have HB2 := hid (HBEL.out.trans (hb2.mono HBEL.out.size))
        clear hb2 HM HBEL
        go_wp2_with fail
        refine (HCL.out _ HM2.out).mono ?_
        rintro e w3 ⟨b2, g2, c2, rfl, hc3, hbb2, hgg2, hb3⟩
        have HM3 := hid (HM2.out.below hb3)
        have HC3 := hid hc3
        have HB3 := hid (HB2.out.trans (hb3.mono HB2.out.size))
        have hgl := HM2.out.row.lt
        have hbl := HM2.out.lt
        have hws := HB2.out.size
        have hgg : g ≠ g2 := by omega
        have hbg : b ≠ g2 := by omega
        have hg2w : w.heap.size ≤ g2 := by omega
        have hb2g : b2 ≠ g := by omega
        clear hb3 hc3 HM2 HB2 HCL hbb2 hgg2 hgl hbl hws
        cases hfi : Al.first L (kk : Int) with
        | none =>
          have HTK := hid (HTN.out hfi)
          have hM : ¬ (kk : Int) ≤ (M : Int) := by
            have := HFI.out
            rw [hfi] at this
            simpa using this.symm
          have hMd : decide ((kk : Int) ≤ (M : Int)) = false := decide_eq_false hM
          clear hfi
          go_wp2_with fail
          refine (HTK.out _ HM3.out).mono ?_
          rintro e w4 ⟨rfl, hm4, hk4⟩
          have HM4 := hid hm4
          have HC4 := hid (HC3.out.at (hk4.block b2 HC3.out.lt hb2g) (hk4.block g2 HC3.out.row.lt (Ne.symm hgg)))
          have HB4 := hid (HB3.out.trans (hk4.below hsg HB3.out.size))
          clear hm4 hk4 HM3 HC3 HB3
          go_upto_region 16 with (fail)
          generalize hw5 : w4.alloc _ = w5
          have hb5 : Below w4.heap.size w4 w5 := by rw [← hw5]; exact (Below.refl _ w4).alloc (Nat.le_refl _) _
          have HM5 := hid (HM4.out.below hb5)
          have HC5 := hid (HC4.out.below hb5)
          have HB5 := hid (HB4.out.trans (hb5.mono HB4.out.size))
          clear hw5 hb5 HM4 HC4 HB4
          go_wp2_with fail
          refine (HMO.out _ _ _ _ HC5.out).mono ?_
          rintro e w6 ⟨rfl, hb6⟩
          have HM6 := hid (HM5.out.below hb6)
          have HB6 := hid (HB5.out.trans (hb6.mono HB5.out.size))
          clear hb6 HM5 HC5 HB5
          go_wp2_with fail
          refine (HFR.out _ HM6.out).mono ?_
          rintro e w7 ⟨rfl, hb7⟩
          have HB7 := hid (HB6.out.trans (hb7.mono HB6.out.size))
          clear hb7
          go_wp2
          go_ret
          exact ⟨by first | rfl | simp, HB7.out⟩
        | some x =>
          have HTK := hid (HTS.out x hfi)
          have hM : (kk : Int) ≤ (M : Int) := by
            have := HFI.out
            rw [hfi] at this
            simpa using this.symm
          have hMd : decide ((kk : Int) ≤ (M : Int)) = true := decide_eq_true hM
          obtain ⟨hp1, hp2, hp3⟩ := HFC.out x hfi
          have hrl := HRL.out x.1
          have HLS := hid (HFL.out x hfi)
          have HGV := hid (HGB.out x.1 (by omega) (by omega))
          have HCN := hid (HCS.out x.1 (by omega) (by omega))
          have hlen := HL.out
          have hx40 : x.1 ≤ 40 := by omega
          rw [Int.toNat_natCast] at HTK
          have HFR2 := hid (fun wx hx => free_any b g 40 (Al.setN L x.1 true kk) wx hx)
          rw [Al.spans_sum] at HFR2
          clear hfi hp1 hp2 hp3 hrl hlen
          generalize Al.setN L x.1 true kk = L3 at *
          generalize L3.count false = fr3 at *
          generalize x.1 = X at *
          go_wp2_with fail
          refine (HTK.out _ HM3.out).mono ?_
          rintro e w4 ⟨rfl, hm4, hk4⟩
          have HM4 := hid hm4
          have HC4 := hid (HC3.out.at (hk4.block b2 HC3.out.lt hb2g) (hk4.block g2 HC3.out.row.lt (Ne.symm hgg)))
          have HB4 := hid (HB3.out.trans (hk4.below hsg HB3.out.size))
          clear hm4 hk4 HM3 HC3 HB3
          go_upto_region 16 with (fail)
          generalize hw5 : w4.alloc _ = w5
          have hb5 : Below w4.heap.size w4 w5 := by rw [← hw5]; exact (Below.refl _ w4).alloc (Nat.le_refl _) _
          have HX5 := hid (show SBox w5 w4.heap.size _ _ from by rw [← hw5]; exact heap_alloc_new _ _)
          have HM5 := hid (HM4.out.below hb5)
          have HC5 := hid (HC4.out.below hb5)
          have HB5 := hid (HB4.out.trans (hb5.mono HB4.out.size))
          have hzg : w4.heap.size ≠ g := by have := HM4.out.row.lt; omega
          have hzg2 : w4.heap.size ≠ g2 := by have := HC4.out.row.lt; omega
          clear hw5 hb5 HM4 HC4 HB4
          generalize w4.heap.size = z at *
          go_wp2_with fail
          refine (HMO.out _ _ _ _ HC5.out).mono ?_
          rintro e w6 ⟨rfl, hb6⟩
          have HM6 := hid (HM5.out.below hb6)
          have HC6 := hid (HC5.out.below hb6)
          have HX6 := hid (HX5.out.below hb6)
          have HB6 := hid (HB5.out.trans (hb6.mono HB5.out.size))
          clear hb6 HM5 HC5 HB5 HX5
          go_upto_region 21 with (fail)
          go_loopw [11] (fun i wr => ∃ p : Nat, i = .int .i64 p ∧ p ≤ X ∧ MapAt wr b g 40 L3 ∧ MapAt wr b2 g2 c2 L ∧ SBox wr z (X : Int) (kk : Int) ∧ Below w.heap.size w wr)
            (fun i _ => X - (intOf i).toNat)
          case atStart => exact ⟨0, rfl, by omega, HM6.out, HC6.out, HX6.out, HB6.out⟩
          case round =>
            clear HM6 HC6 HX6 HB6
            obtain ⟨p, rfl, hp, hm, hc, hx, hbel⟩ := hrel
            have HM := hid hm
            have HC := hid hc
            have HX := hid hx
            have HBEL := hid hbel
            have x0 := hx.c0
            have x1 := hx.c1
            by_cases hlt : p < X
            · have hch := HCH.out p (HLS.out p hlt)
              have haf := HAF.out p hch
              have HMK := hid (mark_any b2 g2 c2 L (p : Int) (kk : Int) (by omega) _ hc)
              rw [hch, haf] at HMK
              clear hm hc hx hbel hch haf
              go_wp2_with fail
              refine HMK.out.mono ?_
              rintro e w7 ⟨rfl, hc7, hk7⟩
              have HC7 := hid hc7
              have HM7 := hid (HM.out.at (hk7.block b HM.out.lt hbg) (hk7.block g HM.out.row.lt hgg))
              have HX7 := hid (HX.out.keptB hk7 hzg2)
              have HB7 := hid (HBEL.out.trans (hk7.below hg2w HBEL.out.size))
              clear hc7 hk7 HM HC HX HBEL x0 x1
              go_wp2
              exact ⟨⟨p + 1, by go_num, by omega, HM7.out, HC7.out, HX7.out, HB7.out⟩, by simp [intOf]; omega⟩
            · obtain rfl : p = X := by omega
              have HGI := hid (give_any b g 40 L3 (p : Int) (kk : Int) (by omega))
              rw [HGV.out.1, HGV.out.2] at HGI
              have hfr : (fr : Int) - (kk : Int) = (fr3 : Int) := by have := HCN.out; omega
              clear hm hc hx hbel
              go_wp2_with fail
              refine (HFR2.out _ HM.out).mono ?_
              rintro e w7 ⟨rfl, hb7⟩
              have HM7 := hid (HM.out.below hb7)
              have HX7 := hid (HX.out.below hb7)
              have HB7 := hid (HBEL.out.trans (hb7.mono HBEL.out.size))
              have y0 := HX7.out.c0
              have y1 := HX7.out.c1
              clear hb7 HM HC HX HBEL x0 x1
              go_wp2_with fail
              refine (HGI.out _ HM7.out).mono ?_
              rintro e w8 ⟨rfl, hm8, hk8⟩
              have HM8 := hid hm8
              have HX8 := hid (HX7.out.keptB hk8 hzg)
              have HB8 := hid (HB7.out.trans (hk8.below hsg HB7.out.size))
              clear hm8 hk8 HM7 HX7 HB7 y0 y1
              go_wp2_with fail
              refine (HFR.out _ HM8.out).mono ?_
              rintro e w9 ⟨rfl, hb9⟩
              have HX9 := hid (HX8.out.below hb9)
              have HB9 := hid (HB8.out.trans (hb9.mono HB8.out.size))
              have y0 := HX9.out.c0
              have y1 := HX9.out.c1
              clear hb9 HM8 HX8 HB8
              go_wp2
              go_ret
              exact ⟨by first | rfl | simp, HB9.out⟩
    · obtain rfl : j = A.length := by omega
      obtain ⟨kk, hkk⟩ : ∃ kk : Nat, kk = 1 + k1 := ⟨_, rfl⟩
      have hki : 1 + (k1 : Int) = (kk : Int) := by omega
      have hk1' : 1 ≤ kk ∧ kk ≤ 8 := by omega
      have hfl := count_le L 40 hL
      have HFR := hid (fun wx hx => free_any b g 40 L wx hx)
      rw [Al.spans_sum] at HFR
      have HFI := hid (Al.first_is L (kk : Int) (by omega))
      have HMO := hid (fun b2 g2 c2 wx hx => most_any b2 g2 c2 L wx hx)
      have HFC := hid (fun x hx => Al.first_prop L (kk : Int) x hx)
      have HFL := hid (fun x hx q hq => Al.first_least L (kk : Int) (by omega) x hx q hq)
      have HRL := hid (fun q => Al.run_le L q false)
      have HTS := hid (fun x hx wx hm => take_is b g 40 L (kk : Int) (by omega) x hx wx hm)
      have HTN := hid (fun hx wx hm => take_not b g 40 L (kk : Int) (by omega) hx wx hm)
      have HCL := hid (fun wx hx => clone_any b g 40 L wx hx)
      have HCS := hid (fun F h hr => Al.count_set L F kk h hr)
      have HGB := hid (fun F h hr => Al.give_back L F kk (by omega) h hr)
      have HCH := hid (fun (q : Nat) (h : (Al.run L q false : Int) < (kk : Int)) => show Al.ch L (q : Int) (kk : Int) true = false from by
        unfold Al.ch
        rw [Bool.and_eq_false_iff]
        right
        refine decide_eq_false ?_
        rw [Int.toNat_natCast]
        show ¬ (kk : Int) ≤ ((Al.run L q (!true) : Nat) : Int)
        rw [show (!true) = false from rfl]
        omega)
      have HAF := hid (fun (q : Nat) (h : Al.ch L (q : Int) (kk : Int) true = false) => show Al.after L (q : Int) (kk : Int) true = L from by unfold Al.after; rw [h]; rfl)
      clear hkk hm hbel hL HA
      generalize L.count false = fr at *
      generalize Al.most (Al.spans L false) = M at *
      go_wp2_with fail
      refine (HFR.out _ HM.out).mono ?_
      rintro e w2 ⟨rfl, hb2⟩
      have HM2 := hid (HM.out.below hb2)
      have HB2 := hid (HBEL.out.trans (hb2.mono HBEL.out.size))
      clear hb2 HM HBEL
      go_wp2_with fail
      refine (HCL.out _ HM2.out).mono ?_
      rintro e w3 ⟨b2, g2, c2, rfl, hc3, hbb2, hgg2, hb3⟩
      have HM3 := hid (HM2.out.below hb3)
      have HC3 := hid hc3
      have HB3 := hid (HB2.out.trans (hb3.mono HB2.out.size))
      have hgl := HM2.out.row.lt
      have hbl := HM2.out.lt
      have hws := HB2.out.size
      have hgg : g ≠ g2 := by omega
      have hbg : b ≠ g2 := by omega
      have hg2w : w.heap.size ≤ g2 := by omega
      have hb2g : b2 ≠ g := by omega
      clear hb3 hc3 HM2 HB2 HCL hbb2 hgg2 hgl hbl hws
      cases hfi : Al.first L (kk : Int) with
      | none =>
        have HTK := hid (HTN.out hfi)
        have hM : ¬ (kk : Int) ≤ (M : Int) := by
          have := HFI.out
          rw [hfi] at this
          simpa using this.symm
        have hMd : decide ((kk : Int) ≤ (M : Int)) = false := decide_eq_false hM
        clear hfi
        go_wp2_with fail
        refine (HTK.out _ HM3.out).mono ?_
        rintro e w4 ⟨rfl, hm4, hk4⟩
        have HM4 := hid hm4
        have HC4 := hid (HC3.out.at (hk4.block b2 HC3.out.lt hb2g) (hk4.block g2 HC3.out.row.lt (Ne.symm hgg)))
        have HB4 := hid (HB3.out.trans (hk4.below hsg HB3.out.size))
        clear hm4 hk4 HM3 HC3 HB3
        go_upto_region 16 with (fail)
        generalize hw5 : w4.alloc _ = w5
        have hb5 : Below w4.heap.size w4 w5 := by rw [← hw5]; exact (Below.refl _ w4).alloc (Nat.le_refl _) _
        have HM5 := hid (HM4.out.below hb5)
        have HC5 := hid (HC4.out.below hb5)
        have HB5 := hid (HB4.out.trans (hb5.mono HB4.out.size))
        clear hw5 hb5 HM4 HC4 HB4
        go_wp2_with fail
        refine (HMO.out _ _ _ _ HC5.out).mono ?_
        rintro e w6 ⟨rfl, hb6⟩
        have HM6 := hid (HM5.out.below hb6)
        have HB6 := hid (HB5.out.trans (hb6.mono HB5.out.size))
        clear hb6 HM5 HC5 HB5
        go_wp2_with fail
        refine (HFR.out _ HM6.out).mono ?_
        rintro e w7 ⟨rfl, hb7⟩
        have HB7 := hid (HB6.out.trans (hb7.mono HB6.out.size))
        clear hb7
        go_wp2
        go_ret
        exact ⟨by first | rfl | simp, HB7.out⟩
      | some x =>
        have HTK := hid (HTS.out x hfi)
        have hM : (kk : Int) ≤ (M : Int) := by
          have := HFI.out
          rw [hfi] at this
          simpa using this.symm
        have hMd : decide ((kk : Int) ≤ (M : Int)) = true := decide_eq_true hM
        obtain ⟨hp1, hp2, hp3⟩ := HFC.out x hfi
        have hrl := HRL.out x.1
        have HLS := hid (HFL.out x hfi)
        have HGV := hid (HGB.out x.1 (by omega) (by omega))
        have HCN := hid (HCS.out x.1 (by omega) (by omega))
        have hlen := HL.out
        have hx40 : x.1 ≤ 40 := by omega
        rw [Int.toNat_natCast] at HTK
        have HFR2 := hid (fun wx hx => free_any b g 40 (Al.setN L x.1 true kk) wx hx)
        rw [Al.spans_sum] at HFR2
        clear hfi hp1 hp2 hp3 hrl hlen
        generalize Al.setN L x.1 true kk = L3 at *
        generalize L3.count false = fr3 at *
        generalize x.1 = X at *
        go_wp2_with fail
        refine (HTK.out _ HM3.out).mono ?_
        rintro e w4 ⟨rfl, hm4, hk4⟩
        have HM4 := hid hm4
        have HC4 := hid (HC3.out.at (hk4.block b2 HC3.out.lt hb2g) (hk4.block g2 HC3.out.row.lt (Ne.symm hgg)))
        have HB4 := hid (HB3.out.trans (hk4.below hsg HB3.out.size))
        clear hm4 hk4 HM3 HC3 HB3
        go_upto_region 16 with (fail)
        generalize hw5 : w4.alloc _ = w5
        have hb5 : Below w4.heap.size w4 w5 := by rw [← hw5]; exact (Below.refl _ w4).alloc (Nat.le_refl _) _
        have HX5 := hid (show SBox w5 w4.heap.size _ _ from by rw [← hw5]; exact heap_alloc_new _ _)
        have HM5 := hid (HM4.out.below hb5)
        have HC5 := hid (HC4.out.below hb5)
        have HB5 := hid (HB4.out.trans (hb5.mono HB4.out.size))
        have hzg : w4.heap.size ≠ g := by have := HM4.out.row.lt; omega
        have hzg2 : w4.heap.size ≠ g2 := by have := HC4.out.row.lt; omega
        clear hw5 hb5 HM4 HC4 HB4
        generalize w4.heap.size = z at *
        go_wp2_with fail
        refine (HMO.out _ _ _ _ HC5.out).mono ?_
        rintro e w6 ⟨rfl, hb6⟩
        have HM6 := hid (HM5.out.below hb6)
        have HC6 := hid (HC5.out.below hb6)
        have HX6 := hid (HX5.out.below hb6)
        have HB6 := hid (HB5.out.trans (hb6.mono HB5.out.size))
        clear hb6 HM5 HC5 HB5 HX5
        go_upto_region 21 with (fail)
        go_loopw [11] (fun i wr => ∃ p : Nat, i = .int .i64 p ∧ p ≤ X ∧ MapAt wr b g 40 L3 ∧ MapAt wr b2 g2 c2 L ∧ SBox wr z (X : Int) (kk : Int) ∧ Below w.heap.size w wr)
          (fun i _ => X - (intOf i).toNat)
        case atStart => exact ⟨0, rfl, by omega, HM6.out, HC6.out, HX6.out, HB6.out⟩
        case round =>
          clear HM6 HC6 HX6 HB6
          obtain ⟨p, rfl, hp, hm, hc, hx, hbel⟩ := hrel
          have HM := hid hm
          have HC := hid hc
          have HX := hid hx
          have HBEL := hid hbel
          have x0 := hx.c0
          have x1 := hx.c1
          by_cases hlt : p < X
          · have hch := HCH.out p (HLS.out p hlt)
            have haf := HAF.out p hch
            have HMK := hid (mark_any b2 g2 c2 L (p : Int) (kk : Int) (by omega) _ hc)
            rw [hch, haf] at HMK
            clear hm hc hx hbel hch haf
            go_wp2_with fail
            refine HMK.out.mono ?_
            rintro e w7 ⟨rfl, hc7, hk7⟩
            have HC7 := hid hc7
            have HM7 := hid (HM.out.at (hk7.block b HM.out.lt hbg) (hk7.block g HM.out.row.lt hgg))
            have HX7 := hid (HX.out.keptB hk7 hzg2)
            have HB7 := hid (HBEL.out.trans (hk7.below hg2w HBEL.out.size))
            clear hc7 hk7 HM HC HX HBEL x0 x1
            go_wp2
            exact ⟨⟨p + 1, by go_num, by omega, HM7.out, HC7.out, HX7.out, HB7.out⟩, by simp [intOf]; omega⟩
          · obtain rfl : p = X := by omega
            have HGI := hid (give_any b g 40 L3 (p : Int) (kk : Int) (by omega))
            rw [HGV.out.1, HGV.out.2] at HGI
            have hfr : (fr : Int) - (kk : Int) = (fr3 : Int) := by have := HCN.out; omega
            clear hm hc hx hbel
            go_wp2_with fail
            refine (HFR2.out _ HM.out).mono ?_
            rintro e w7 ⟨rfl, hb7⟩
            have HM7 := hid (HM.out.below hb7)
            have HX7 := hid (HX.out.below hb7)
            have HB7 := hid (HBEL.out.trans (hb7.mono HBEL.out.size))
            have y0 := HX7.out.c0
            have y1 := HX7.out.c1
            clear hb7 HM HC HX HBEL x0 x1
            go_wp2_with fail
            refine (HGI.out _ HM7.out).mono ?_
            rintro e w8 ⟨rfl, hm8, hk8⟩
            have HM8 := hid hm8
            have HX8 := hid (HX7.out.keptB hk8 hzg)
            have HB8 := hid (HB7.out.trans (hk8.below hsg HB7.out.size))
            clear hm8 hk8 HM7 HX7 HB7 y0 y1
            go_wp2_with fail
            refine (HFR.out _ HM8.out).mono ?_
            rintro e w9 ⟨rfl, hb9⟩
            have HX9 := hid (HX8.out.below hb9)
            have HB9 := hid (HB8.out.trans (hb9.mono HB8.out.size))
            have y0 := HX9.out.c0
            have y1 := HX9.out.c1
            clear hb9 HM8 HX8 HB8
            go_wp2
            go_ret
            exact ⟨by first | rfl | simp, HB9.out⟩

set_option maxRecDepth 100000 in
theorem contract (H : Type) (enc : TypeId × Value → H) (W : World) (base : Nat) (args : Array Value) (ds gs : List (DataW H)) (before : List MemPlace)
    (hval : ∀ (j : Nat) t v, Try.f5.params[j]? = some t → args[j]? = some v → Value.okWide Try.prog W .any base t v)
    (hW : DataW.Whole enc Try.prog Try.f5.params.toList Rows.allocFirstSpec.vars false W args.toList ds gs before) (hL : laidMetH Try.prog Rows.allocFirstRow.laid W) :
    Calls Try.prog 5 args W fun e W' => ∃ v, e = .returned v ∧ Rows.allocFirstSpec.post enc Try.prog Try.f5 false true false false W args v W' := by
  have hW' := hW
  obtain ⟨p, q, hA0, hV, rfl, hfz, hnd⟩ := hW
  have hA : DataW.TrodAll enc Try.prog W 0 (fun _ => true) true Try.f5.params.toList args.toList ds p := hA0
  rw [Try.params5] at hA hval
  obtain ⟨v0, vs0, d0, ds0, p0, q0, hargs, rfl, rfl, h0, r0⟩ := trodAll_cons hA
  obtain ⟨v1, vs1, d1, ds1, p1, q1, rfl, rfl, rfl, h1, r1⟩ := trodAll_cons r0
  obtain ⟨rfl, rfl, rfl⟩ := trodAll_nil r1
  obtain rfl : args = #[v0, v1] := by cases args; simp_all
  obtain ⟨ao0, L0, cap0, rfl, hR0, hL0, hb0⟩ := open_rspans (hval 0 46 v0 rfl rfl) h0
  obtain ⟨n1, rfl, rfl, rfl, wn1⟩ := open_int Try.underlying3 (hval 1 3 v1 rfl rfl) h1
  refine (walk ao0 L0 cap0 n1 W hR0 hL0).mono fun e W' ⟨he, hb⟩ => ?_
  subst he
  exact ⟨_, rfl, law_post rfl rfl (by rw [Try.params5]; decide +kernel) hW' rfl hb⟩

theorem laid_met (os : Os) : laidMet Try.prog Rows.allocFirstRow.laid ((laidWorld os).forCall (fun _ _ => 0) ⟨#[], #[.slice none 0 0, .int .i64 0], []⟩).memory :=
  laidMet_of_run' 8 (by kernel_rfl) (by kernel_rfl)
theorem reads (os : Os) {H : Type} (enc : TypeId × Value → H) : ∃ places, DataW.whole enc Try.prog ((laidWorld os).forCall (fun _ _ => 0) ⟨#[], #[.slice none 0 0, .int .i64 0], []⟩).memory Try.f5.params.toList Rows.allocFirstSpec.vars false (#[.slice none 0 0, .int .i64 0] : Array Value).toList 8
    = some ([.nil, .lit (.int .i64 0)], [], places) :=
  ⟨[], by kernel_rfl⟩

set_option maxRecDepth 100000 in
theorem lifted (os : Os) (started : os.Started) (H : Type) (enc : TypeId × Value → H) (F : Stop.Interp) :
    ReturnsInHanded {} Try.checked os 5 .any ((OpenSpec.ofChange Rows.allocFirstSpec).preRow enc Try.prog Try.f5 Rows.allocFirstRow.domain false Rows.allocFirstRow.laid) (((OpenSpec.ofChange Rows.allocFirstSpec).at F).post enc Try.prog Try.f5 false true false false) := by
  obtain ⟨places, hx⟩ := reads os enc
  refine returnsInHanded_of_row (C := Try.checked) (s := OpenSpec.ofChange Rows.allocFirstSpec) own started (by kernel_rfl) Try.func5
    (witness_row_at (enc := enc) (C := Try.checked) false (laidWorld os) #[.slice none 0 0, .int .i64 0] rfl (by kernel_rfl) (by kernel_rfl) (by kernel_rfl)
      (OpenSpec.preRow_of_cond 8 hx (by kernel_rfl) (fun k hk => by cases hk) (by kernel_rfl) (laid_met os))) ?_
  intro W base args ds gs before hval hW _ _ _ hL _ _
  exact contract H enc W base args ds gs before hval hW hL

theorem said : Rows.AllocFirstSaid :=
  OpenClaim.holds_of_cond 5 Try.f5 rfl rfl rfl rfl rfl rfl rfl ⟨rfl, rfl, rfl, rfl, rfl⟩ rfl rfl rfl rfl rfl (by kernel_rfl) Try.func5 (by kernel_rfl)
    (of_decide_eq_true (by kernel_rfl)) (by unfold Func.isWrapper; first | (rw [if_pos (by decide +kernel)]; kernel_rfl) | (rw [if_neg (by decide +kernel)]; exact ⟨rfl, rfl⟩))
    (fun os started H enc _ F => by rw [OpenClaim.pre_eq_preRow]; exact lifted os started H enc F)


end AllocFirst
theorem allocFirst_said : Rows.AllocFirstSaid := AllocFirst.said
end Go.Proofs.Ytmlkbdkehoajaaa
