/-
  Layer 11: what the reference's Change and Taken return.
-/
import Derived.Test.YtmlkbdkehoajaaaAl8
namespace Go.Proofs.Ytmlkbdkehoajaaa
open Go.RowKit
open Go.Lib (hid)

set_option maxHeartbeats 2000000 in
set_option maxRecDepth 100000 in
theorem rchange_any (g c : Nat) (L : List Bool) (F C : Int) (hF : F ≤ 9223372036854775807) (hC : C ≤ 9223372036854775807) (t : Bool) (w : World) (h : BRow w g c L) (h1 : 1 ≤ L.length) (hle : L.length ≤ 4096) :
    Calls Try.prog 18 #[.slice (some ⟨g, 0, none⟩) L.length c, .agg #[.int .i64 F, .int .i64 C], .bool t] w fun e w' =>
      ∃ g' c', e = .returned (.tuple #[.slice (some ⟨g', 0, none⟩) L.length c', .bool (Al.ch L F C t)]) ∧ BRow w' g' c' (Al.after L F C t) ∧ (g' = g ∨ w.heap.size ≤ g') ∧ Below w.heap.size w w' := by
  have HM1 := hid (h.at (Below.heap_alloc w (.cells #[.int .i64 F, .int .i64 C] 31) g h.lt))
  have HB1 := hid ((Below.refl w.heap.size w).alloc (Nat.le_refl _) (.cells #[.int .i64 F, .int .i64 C] 31))
  have HX1 := hid (show RBox (w.alloc (.cells #[.int .i64 F, .int .i64 C] 31)) w.heap.size F C from heap_alloc_new _ _)
  have hno : (¬ (1 ≤ C ∧ 0 ≤ F ∧ C ≤ (L.length : Int) - F)) → Al.ch L F C t = false := fun hn => by
    unfold Al.ch
    rw [Bool.and_eq_false_iff]
    left
    rw [← Bool.not_eq_true, Al.fits_iff]
    exact hn
  have haf : Al.ch L F C t = false → Al.after L F C t = L := fun hn => by unfold Al.after; rw [hn]; rfl
  clear h
  by_cases c1 : C < 1
  · have HCH := hid (hno (by omega))
    have HAF := hid (haf HCH.out)
    have d1 : decide (C < 1) = true := decide_eq_true c1
    clear hno haf
    go_enter Try.func18, Try.ntmps18
    go_upto_region 1 with (fail)
    go_quiet (fail)
    go_wp2
    go_ret2
    exact ⟨g, c, by rw [HCH.out]; rfl, by rw [HAF.out]; exact HM1.out.at rfl, Or.inl rfl, HB1.out.trans ⟨rfl, rfl, rfl, Nat.le_refl _, fun _ _ => rfl⟩⟩
  · by_cases c2 : (L.length : Int) < C
    · have HCH := hid (hno (by omega))
      have HAF := hid (haf HCH.out)
      have d1 : decide (C < 1) = false := decide_eq_false c1
      clear hno haf
      go_enter Try.func18, Try.ntmps18
      go_upto_region 1 with (fail)
      go_quiet (fail)
      go_wp2
      go_ret2
      exact ⟨g, c, by rw [HCH.out]; rfl, by rw [HAF.out]; exact HM1.out.at rfl, Or.inl rfl, HB1.out.trans ⟨rfl, rfl, rfl, Nat.le_refl _, fun _ _ => rfl⟩⟩
    · by_cases c3 : F < 0
      · have HCH := hid (hno (by omega))
        have HAF := hid (haf HCH.out)
        have d1 : decide (C < 1) = false := decide_eq_false c1
        have d2 : decide ((L.length : Int) < C) = false := decide_eq_false c2
        clear hno haf
        go_enter Try.func18, Try.ntmps18
        go_upto_region 1 with (fail)
        go_quiet (fail)
        go_wp2
        go_ret2
        exact ⟨g, c, by rw [HCH.out]; rfl, by rw [HAF.out]; exact HM1.out.at rfl, Or.inl rfl, HB1.out.trans ⟨rfl, rfl, rfl, Nat.le_refl _, fun _ _ => rfl⟩⟩
      · by_cases c4 : (L.length : Int) ≤ F
        · have HCH := hid (hno (by omega))
          have HAF := hid (haf HCH.out)
          have d1 : decide (C < 1) = false := decide_eq_false c1
          have d2 : decide ((L.length : Int) < C) = false := decide_eq_false c2
          have d3 : decide (F < 0) = false := decide_eq_false c3
          clear hno haf
          go_enter Try.func18, Try.ntmps18
          go_upto_region 1 with (fail)
          go_quiet (fail)
          go_wp2
          go_ret2
          exact ⟨g, c, by rw [HCH.out]; rfl, by rw [HAF.out]; exact HM1.out.at rfl, Or.inl rfl, HB1.out.trans ⟨rfl, rfl, rfl, Nat.le_refl _, fun _ _ => rfl⟩⟩
        · obtain ⟨f, rfl⟩ : ∃ f : Nat, F = (f : Int) := ⟨F.toNat, by omega⟩
          obtain ⟨n, rfl⟩ : ∃ n : Nat, C = (n : Int) := ⟨C.toNat, by omega⟩
          have hru := Al.run_le L f (!t)
          have HRU := hid (fun wx hx => run_any g c L f (by omega) (!t) wx hx hle)
          have HST := hid (fun (hh : n ≤ Al.run L f (!t)) wx hx => set_any g c L f n t wx hx h1 hle (by omega))
          have hch : Al.ch L (f : Int) (n : Int) t = decide (n ≤ Al.run L f (!t)) := by
            unfold Al.ch
            rw [Int.toNat_natCast, Bool.eq_iff_iff, Bool.and_eq_true, Al.fits_iff, decide_eq_true_eq, decide_eq_true_eq]
            omega
          have haf2 : Al.after L (f : Int) (n : Int) t = if n ≤ Al.run L f (!t) then Al.setN L f t n else L := by
            unfold Al.after
            rw [hch]
            simp
          have d1 : decide ((n : Int) < 1) = false := decide_eq_false c1
          have d2 : decide ((L.length : Int) < (n : Int)) = false := decide_eq_false c2
          have d3 : decide ((f : Int) < 0) = false := decide_eq_false c3
          have d4 : decide ((L.length : Int) ≤ (f : Int)) = false := decide_eq_false c4
          have x0 := HX1.out.c0
          have x1 := HX1.out.c1
          clear hno haf
          generalize Al.run L f (!t) = R at *
          have HCH0 := hid hch
          have HAF0 := hid haf2
          clear hch haf2
          by_cases hRn : n ≤ R
          · have HCH := hid (show Al.ch L (f : Int) (n : Int) t = true from by rw [HCH0.out]; exact decide_eq_true hRn)
            have HAF := hid (show Al.after L (f : Int) (n : Int) t = Al.setN L f t n from by rw [HAF0.out, if_pos hRn])
            have hRi : ¬ (R : Int) < (n : Int) := by omega
            have HST2 := hid (HST.out hRn)
            clear HCH0 HAF0 HST
            go_enter Try.func18, Try.ntmps18
            go_upto_region 1 with (fail)
            generalize w.alloc (.cells #[.int .i64 (f : Int), .int .i64 (n : Int)] 31) = w0 at *
            have HRD := hid (fun m => HRU.out (w0.drewN m) (HM1.out.at rfl))
            clear HRU
            go_quiet ((go_at_call 22; exact Calls.quiet_of_same (HRD.out _)))
            have HB2 := hid (show Below w.heap.size w (w0.drewN nq) from HB1.out.trans ⟨rfl, rfl, rfl, Nat.le_refl _, fun _ _ => rfl⟩)
            have HM2 := hid (show BRow (w0.drewN nq) g c L from HM1.out.at rfl)
            have x0 := (show RBox (w0.drewN nq) w.heap.size f n from HX1.out).c0
            have x1 := (show RBox (w0.drewN nq) w.heap.size f n from HX1.out).c1
            clear HX1 HB1 HM1 HRD
            generalize w0.drewN nq = w1 at *
            go_wp2_with fail
            refine (HST2.out _ HM2.out).mono ?_
            rintro e w2 ⟨g', c', rfl, hr2, hg2, hb2⟩
            have hs1 := HB2.out.size
            go_wp2
            go_ret2
            exact ⟨g', c', by rw [HCH.out]; rfl, by rw [HAF.out]; exact hr2, Or.inr (by omega), HB2.out.trans (hb2.mono hs1)⟩
          · have HCH := hid (show Al.ch L (f : Int) (n : Int) t = false from by rw [HCH0.out]; exact decide_eq_false hRn)
            have HAF := hid (show Al.after L (f : Int) (n : Int) t = L from by rw [HAF0.out, if_neg hRn])
            have hRi : (R : Int) < (n : Int) := by omega
            clear HCH0 HAF0 HST
            go_enter Try.func18, Try.ntmps18
            go_upto_region 1 with (fail)
            generalize w.alloc (.cells #[.int .i64 (f : Int), .int .i64 (n : Int)] 31) = w0 at *
            have HRD := hid (fun m => HRU.out (w0.drewN m) (HM1.out.at rfl))
            clear HRU
            go_quiet ((go_at_call 22; exact Calls.quiet_of_same (HRD.out _)))
            go_wp2
            go_ret2
            exact ⟨g, c, by rw [HCH.out]; rfl, by rw [HAF.out]; exact HM1.out.at rfl, Or.inl rfl, HB1.out.trans ⟨rfl, rfl, rfl, Nat.le_refl _, fun _ _ => rfl⟩⟩
end Go.Proofs.Ytmlkbdkehoajaaa
