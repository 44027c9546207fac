/-
  Layer 18: what the reference's Set returns.
-/
import Derived.Test.YtlfjhpmachblkaaBx13
namespace Go.Proofs.Ytlfjhpmachblkaa
open Go.ChangeShapes Go.WideShapes Go.ChangeAt Go.RowKit
open Go.Lib (hid)

/-- Where an entry has this number, another one. -/
def Bv.put (L : List Bv.E) (u : Int) (e : Bv.E) : List Bv.E := L.map fun x => if x.1 = u then e else x
theorem Bv.put_len (L : List Bv.E) (u : Int) (e : Bv.E) : (Bv.put L u e).length = L.length := List.length_map _
theorem Bv.put_step (L : List Bv.E) (u : Int) (e : Bv.E) (k : Nat) (h : k < L.length) : Bv.put (L.take (k + 1)) u e = Bv.put (L.take k) u e ++ [if (L.getD k (0, 0, 0)).1 = u then e else L.getD k (0, 0, 0)] := by
  unfold Bv.put
  rw [List.take_add_one, List.map_append, List.getD_eq_getElem?_getD, List.getElem?_eq_getElem h]
  rfl
theorem Bv.put_is {L : List Bv.E} (hup : Bv.Up L) {u : Int} (hh : Bv.hit L u = true) (e : Bv.E) : Bv.put L u e = L.set (Bv.cnt L u) e := by
  have hlt := Bv.hit_lt hh
  have hu := Bv.hit_is hh
  apply List.ext_getElem?
  intro i
  unfold Bv.put
  rw [List.getElem?_map, List.getElem?_set]
  by_cases hi : i < L.length
  · rw [List.getElem?_eq_getElem hi]
    simp only [Option.map_some]
    by_cases hc : Bv.cnt L u = i
    · rw [if_pos hc, if_pos hlt]
      have : L[i].1 = u := by
        rw [hc, List.getD_eq_getElem?_getD, List.getElem?_eq_getElem hi] at hu
        exact hu
      rw [if_pos this]
    · rw [if_neg hc]
      have : ¬ L[i].1 = u := by
        intro h
        exact hc (Bv.hit_at hup i hi (by rw [List.getD_eq_getElem?_getD, List.getElem?_eq_getElem hi]; exact h)).1
      rw [if_neg this]
  · rw [List.getElem?_eq_none (by omega)]
    by_cases hc : Bv.cnt L u = i
    · omega
    · rw [if_neg hc]; rfl

set_option maxHeartbeats 4000000 in
set_option maxRecDepth 100000 in
theorem rset18_any (V X : Int) (v : Value) (L : List Bv.E) (u on off : Int) (w : World) (h : OwnB w 63 v L) (hup : Bv.Up L) (hf : Bv.Fls L) (hl : L.length ≤ 1000) :
    Calls Try.prog 30 #[rbV V X v, .int .i64 u, .int .i64 on, .int .i64 off] w fun e w' => ∃ vl, e = .returned (.tuple #[rbV V X vl, beV (Bv.setR L u on off), .int .i64 (Bv.setE L u on off : Nat)]) ∧ OwnB w' 63 vl (Bv.setL L u on off) ∧ Below w.heap.size w w' := by
  have HGT := hid (fun wx hx => rget18_any V X v L u wx hx hup hl)
  have HUP := hid hup
  have HFL := hid hf
  obtain ⟨ao, cap, rfl, hes⟩ := h.es
  have HO := hid h
  have HA := hid hes
  clear h hes hup hf
  cases hh : Bv.hit L u with
  | false =>
    have hE : Bv.setE L u on off = 7 := by unfold Bv.setE; rw [hh]; rfl
    have hR : Bv.setR L u on off = (0, 0, 0) ∧ Bv.setL L u on off = L := by unfold Bv.setL Bv.setR; rw [hE]; exact ⟨rfl, rfl⟩
    have hG : Bv.getR L u = (0, 0, 0) ∧ Bv.getE L u = 7 := by unfold Bv.getR Bv.getE; rw [hh]; exact ⟨rfl, rfl⟩
    rw [hE, hR.1, hR.2]
    rw [hG.1, hG.2] at HGT
    clear hE hR hG hh
    unfold rbV beV
    unfold rbV beV at HGT
    obtain ⟨ru, hru⟩ : ∃ ru : Int, ru = 0 := ⟨_, rfl⟩
    obtain ⟨rf, hrf⟩ : ∃ rf : Int, rf = 0 := ⟨_, rfl⟩
    obtain ⟨rm, hrm⟩ : ∃ rm : Int, rm = 0 := ⟨_, rfl⟩
    rw [show (#[Value.int .i64 ((0, 0, 0) : Bv.E).1, Value.int .i64 ((0, 0, 0) : Bv.E).2.1, Value.int .i64 ((0, 0, 0) : Bv.E).2.2] : Array Value) = #[.int .i64 ru, .int .i64 rf, .int .i64 rm] from by rw [hru, hrf, hrm]] at HGT ⊢
    clear hru hrf hrm
    go_enter Try.func30, Try.ntmps30
    go_upto_region 1 with (fail)
    generalize hW0 : World.alloc _ _ = w0
    obtain ⟨b0, b1, b2, hb0, hs0⟩ := three_blocks w _ _ _ w0 hW0
    have R00 := hid (show RbAt w0 w.heap.size V X (.slice ao L.length cap) from b0)
    have R01 := hid (show RbAt w0 (w.heap.size + 1) 0 0 (.slice none 0 0) from b1)
    have E02 := hid (show EntAt w0 (w.heap.size + 1 + 1) 63 (0, 0, 0) from b2)
    have HB0 := hid hb0
    have HS0 := hid hs0
    clear hW0 b0 b1 b2 hb0 hs0
    obtain ⟨c0, c1, c2⟩ := R00.out.c
    go_wp2_with fail
    refine (HGT.out w0 (HO.out.below HB0.out)).mono ?_
    rintro e w1 ⟨rfl, hb1⟩
    have HB1 := hid hb1
    clear hb1 HGT c0 c1 c2
    go_upto_region 2 with (fail)
    generalize hW2 : World.alloc _ _ = w2
    have hb2 : Below w1.heap.size w1 w2 := by rw [← hW2]; exact (Below.refl _ _).alloc (Nat.le_refl _) _
    have E23 := hid (show EntAt w2 w1.heap.size 63 (ru, rf, rm) from by rw [← hW2]; exact heap_alloc_new _ _)
    have HB2 := hid (HB1.out.trans (hb2.mono HB1.out.size))
    have R20 := hid (R00.out.below HB2.out)
    have R21 := hid (R01.out.below HB2.out)
    have E22 := hid (E02.out.below HB2.out)
    have hz3 : w.heap.size + 1 + 1 < w1.heap.size := by have := HB1.out.size; have := HS0.out; omega
    have hBz : Below w.heap.size w w2 := HB0.out.trans (HB2.out.mono HB0.out.size)
    have HBZ := hid hBz
    have HOZ := hid (HO.out.below hBz)
    have hnz : some (w.heap.size + 1 + 1) ≠ (Value.slice ao L.length cap).ownBlock := fun e => by have := HO.out.lt e; omega
    clear hW2 hb2 hBz R00 R01 E02 HB1 HB2 HB0 HS0
    generalize w1.heap.size = z3 at *
    obtain ⟨c0, c1, c2⟩ := R20.out.c
    obtain ⟨d0, d1, d2⟩ := E23.out.c
    dsimp only at d0 d1 d2
    obtain ⟨⟨z0, s0⟩, f0, s1, f1, s2, f2⟩ := R21.out.wr
    have E6 := hid (E23.out.wr2 (B := w.heap.size + 1) (by omega) (.int .i64 V) (.int .i64 X) (.slice ao L.length cap))
    have E7 := hid (E22.out.wr2 (B := w.heap.size + 1) (by omega) (.int .i64 V) (.int .i64 X) (.slice ao L.length cap))
    obtain ⟨e0, e1, e2⟩ := E6.out.c
    dsimp only at e0 e1 e2
    obtain ⟨⟨y0, t0⟩, g0, t1, g1, t2, g2⟩ := E7.out.wr
    go_upto_region 3 with (fail)
    go_region
    have hfin := set33 (w := w) R21.out E22.out HOZ.out HBZ.out (by omega) (by omega) (by omega) hnz V X (.slice ao L.length cap) ru rf rm
    have HFIN := hid hfin
    clear hfin
    clear e0 e1 e2 t0 t1 t2 g0 g1 g2 s0 s1 s2 f0 f1 f2 c0 c1 c2 d0 d1 d2 E6 E7
    generalize World.drew _ = w6 at *
    go_wp2
    refine ret_rbox Try.results30 _ _ (w.heap.size + 1) (w.heap.size + 1 + 1) V X (.slice ao L.length cap) (ru, rf, rm) (.int .i64 7) ?_ HFIN.out.1 ?_ HFIN.out.2.1 ?_ ?_ ?_
    · rfl
    · rfl
    · rfl
    · rfl
    first
      | exact ⟨_, rfl, HFIN.out.2.2.1, HFIN.out.2.2.2⟩
      | exact ⟨_, rfl, by rw [HLL.out]; exact HFIN.out.2.2.1, HFIN.out.2.2.2⟩
  | true =>
    obtain ⟨⟨ru, rf, rm⟩, hy⟩ : ∃ y, Bv.at_ L u = y := ⟨_, rfl⟩
    have hlt := Bv.hit_lt hh
    have hru : ru = u := by have := Bv.hit_is hh; rw [show L.getD (Bv.cnt L u) (0, 0, 0) = (ru, rf, rm) from hy] at this; exact this
    have hrf : Bv.fl rf = true := by have := HFL.out _ hlt; rw [show L.getD (Bv.cnt L u) (0, 0, 0) = (ru, rf, rm) from hy] at this; exact this
    have hG : Bv.getR L u = (ru, rf, rm) ∧ Bv.getE L u = 0 := by unfold Bv.getR Bv.getE; rw [hh]; exact ⟨hy, rfl⟩
    rw [hG.1, hG.2] at HGT
    by_cases hfl : (Bv.fl on && Bv.fl off) = true
    · have hE : Bv.setE L u on off = 0 := by unfold Bv.setE; rw [hh, hfl]; rfl
      have hR : Bv.setR L u on off = (ru, Bv.sf rf on off, rm) := by unfold Bv.setR; rw [hE, hy]; rfl
      have hL : Bv.setL L u on off = Bv.put L u (ru, Bv.sf rf on off, rm) := by rw [Bv.put_is HUP.out hh]; unfold Bv.setL; rw [hE, hR]; rfl
      rw [hE, hR, hL]
      obtain ⟨a, ha, rfl⟩ := Bv.fl_nat (show Bv.fl on = true from by cases h1 : Bv.fl on <;> simp_all)
      obtain ⟨b, hb, rfl⟩ := Bv.fl_nat (show Bv.fl off = true from by cases h1 : Bv.fl off <;> simp_all)
      obtain ⟨k, hk, hrk⟩ := Bv.fl_nat hrf
      rw [show Bv.sf rf (a : Int) (b : Int) = ((Bv.acc k a b 5 : Nat) : Int) from by rw [hrk]; exact Bv.acc_all k hk a ha b hb]
      have HRK := hid hrk
      clear hE hR hL hG hh hy hfl hrf hlt hrk
      subst hru
      unfold rbV beV
      unfold rbV beV at HGT
      obtain ⟨F, hF⟩ : ∃ F, Bv.acc k a b 5 = F := ⟨_, rfl⟩
      rw [hF]
      have HF5 := hid hF
      clear hF
      go_enter Try.func30, Try.ntmps30
      go_upto_region 1 with (fail)
      generalize hW0 : World.alloc _ _ = w0
      obtain ⟨b0, b1, b2, hb0, hs0⟩ := three_blocks w _ _ _ w0 hW0
      have R00 := hid (show RbAt w0 w.heap.size V X (.slice ao L.length cap) from b0)
      have R01 := hid (show RbAt w0 (w.heap.size + 1) 0 0 (.slice none 0 0) from b1)
      have E02 := hid (show EntAt w0 (w.heap.size + 1 + 1) 63 (0, 0, 0) from b2)
      have HB0 := hid hb0
      have HS0 := hid hs0
      clear hW0 b0 b1 b2 hb0 hs0
      obtain ⟨c0, c1, c2⟩ := R00.out.c
      go_wp2_with fail
      refine (HGT.out w0 (HO.out.below HB0.out)).mono ?_
      rintro e w1 ⟨rfl, hb1⟩
      have HB1 := hid hb1
      clear hb1 HGT c0 c1 c2
      go_upto_region 2 with (fail)
      generalize hW2 : World.alloc _ _ = w2
      have hb2 : Below w1.heap.size w1 w2 := by rw [← hW2]; exact (Below.refl _ _).alloc (Nat.le_refl _) _
      have E23 := hid (show EntAt w2 w1.heap.size 63 (ru, rf, rm) from by rw [← hW2]; exact heap_alloc_new _ _)
      have HB2 := hid (HB1.out.trans (hb2.mono HB1.out.size))
      have R20 := hid (R00.out.below HB2.out)
      have R21 := hid (R01.out.below HB2.out)
      have E22 := hid (E02.out.below HB2.out)
      have hz3 : w.heap.size + 1 + 1 < w1.heap.size := by have := HB1.out.size; have := HS0.out; omega
      have hBz : Below w.heap.size w w2 := HB0.out.trans (HB2.out.mono HB0.out.size)
      have HBZ := hid hBz
      have HOZ := hid (HO.out.below hBz)
      have hnz : some (w.heap.size + 1 + 1) ≠ (Value.slice ao L.length cap).ownBlock := fun e => by have := HO.out.lt e; omega
      clear hW2 hb2 hBz R00 R01 E02 HB1 HB2 HB0 HS0
      generalize w1.heap.size = z3 at *
      have hrk := HRK.out
      subst hrk
      obtain ⟨d0, d1, d2⟩ := E23.out.c
      dsimp only at d0 d1 d2
      go_upto_region 8 with (fail)
      go_loopw [13, 14] (fun x y wr => ∃ i : Nat, i ≤ 5 ∧ y = .int .i64 ((2 ^ i : Nat) : Int) ∧ x = .int .i64 (Bv.acc k a b i : Nat) ∧ wr = w2) (fun _ y _ => 32 - (intOf y).toNat)
      case atStart => exact ⟨0, by omega, rfl, rfl, rfl⟩
      case round =>
        obtain ⟨i, hi, rfl, rfl, rfl⟩ := hrel
        by_cases hlt : i < 5
        · have hst : Bv.acc k a b (i + 1) = Bv.acc k a b i + if a / 2 ^ i % 2 = 1 ∨ (k / 2 ^ i % 2 = 1 ∧ b / 2 ^ i % 2 = 0) then 2 ^ i else 0 := rfl
          have hac := Bv.acc_lt k a b i
          have hpw : 2 ^ (i + 1) = 2 * 2 ^ i := by rw [Nat.pow_succ]; omega
          have hp1 : 1 ≤ 2 ^ i := Nat.one_le_two_pow
          have hp16 : 2 ^ i ≤ 16 := by
            have : i = 0 ∨ i = 1 ∨ i = 2 ∨ i = 3 ∨ i = 4 := by omega
            rcases this with rfl | rfl | rfl | rfl | rfl <;> decide
          have HST := hid hst
          have HPW := hid hpw
          clear hst hpw
          generalize 2 ^ i = B at *
          have hB0 : (B : Int) ≠ 0 := by omega
          have hBi : (B : Int) < 32 := by omega
          have qa : ((a : Int)).tdiv (B : Int) = ((a / B : Nat) : Int) := by rw [Int.tdiv_eq_ediv_of_nonneg (Int.natCast_nonneg a)]; rfl
          have qk : ((k : Int)).tdiv (B : Int) = ((k / B : Nat) : Int) := by rw [Int.tdiv_eq_ediv_of_nonneg (Int.natCast_nonneg k)]; rfl
          have qb : ((b : Int)).tdiv (B : Int) = ((b / B : Nat) : Int) := by rw [Int.tdiv_eq_ediv_of_nonneg (Int.natCast_nonneg b)]; rfl
          have la : a / B ≤ 31 := Nat.le_trans (Nat.div_le_self _ _) (by omega)
          have lk : k / B ≤ 31 := Nat.le_trans (Nat.div_le_self _ _) (by omega)
          have lb : b / B ≤ 31 := Nat.le_trans (Nat.div_le_self _ _) (by omega)
          generalize a / B = a1 at *
          generalize k / B = k1 at *
          generalize b / B = b1 at *
          have ra : ((a1 : Int)).tmod 2 = ((a1 % 2 : Nat) : Int) := by rw [Int.tmod_eq_emod_of_nonneg (Int.natCast_nonneg _)]; rfl
          have rk : ((k1 : Int)).tmod 2 = ((k1 % 2 : Nat) : Int) := by rw [Int.tmod_eq_emod_of_nonneg (Int.natCast_nonneg _)]; rfl
          have rb : ((b1 : Int)).tmod 2 = ((b1 % 2 : Nat) : Int) := by rw [Int.tmod_eq_emod_of_nonneg (Int.natCast_nonneg _)]; rfl
          generalize Bv.acc k a b i = n at *
          have xa : a1 % 2 < 2 := Nat.mod_lt _ (by decide)
          have xk : k1 % 2 < 2 := Nat.mod_lt _ (by decide)
          have xb : b1 % 2 < 2 := Nat.mod_lt _ (by decide)
          generalize a1 % 2 = a2 at *
          generalize k1 % 2 = k2 at *
          generalize b1 % 2 = b2 at *
          have ra2 : ((a1 : Int)) % 2 = ((a2 : Nat) : Int) := by rw [← ra, Int.tmod_eq_emod_of_nonneg (Int.natCast_nonneg _)]
          have rk2 : ((k1 : Int)) % 2 = ((k2 : Nat) : Int) := by rw [← rk, Int.tmod_eq_emod_of_nonneg (Int.natCast_nonneg _)]
          have rb2 : ((b1 : Int)) % 2 = ((b2 : Nat) : Int) := by rw [← rb, Int.tmod_eq_emod_of_nonneg (Int.natCast_nonneg _)]
          have hnB : (n : Int) + (B : Int) ≤ 100 := by omega
          have hms : ∀ x y : Nat, y = 2 * B → (intOf (.int .i64 (2 * (B : Int)))).toNat = y := fun x y hy => by simp [intOf]; omega
          clear hms
          by_cases h1 : a2 = 1
          · subst h1
            rw [if_pos (Or.inl rfl)] at HST
            go_wp2
            exact ⟨⟨i + 1, by omega, by rw [HPW.out]; go_num, by rw [HST.out]; go_num, by trivial⟩, by simp [intOf]; omega⟩
          · obtain rfl : a2 = 0 := by omega
            by_cases h2 : k2 = 1
            · subst h2
              by_cases h3 : b2 = 0
              · subst h3
                rw [if_pos (Or.inr ⟨rfl, rfl⟩)] at HST
                go_wp2
                exact ⟨⟨i + 1, by omega, by rw [HPW.out]; go_num, by rw [HST.out]; go_num, by trivial⟩, by simp [intOf]; omega⟩
              · obtain rfl : b2 = 1 := by omega
                rw [if_neg (by omega), Nat.add_zero] at HST
                go_wp2
                exact ⟨⟨i + 1, by omega, by rw [HPW.out]; go_num, by rw [HST.out]; rfl, by trivial⟩, by simp [intOf]; omega⟩
            · obtain rfl : k2 = 0 := by omega
              rw [if_neg (by omega), Nat.add_zero] at HST
              go_wp2
              exact ⟨⟨i + 1, by omega, by rw [HPW.out]; go_num, by rw [HST.out]; rfl, by trivial⟩, by simp [intOf]; omega⟩
        · obtain rfl : i = 5 := by omega
          rw [show ((2 ^ 5 : Nat) : Int) = 32 from rfl]
          clear hi hlt
          rw [HF5.out]
          clear HF5
          have f1 := E23.out.f 1
          go_upto_region 13 with (fail)
          have hk3 : KeptQ (fun j => j = z3) wr (wr.setCell ⟨z3, 1, none⟩ (.int .i64 (F : Int))) := KeptQ.setCell _ _ _ rfl
          have he3 : EntAt (wr.setCell ⟨z3, 1, none⟩ (.int .i64 (F : Int))) z3 63 (ru, (F : Int), rm) := by
            unfold EntAt
            rw [heap_setCell_same _ _ 1 _ _ _ E23.out]
            rfl
          have R30 := hid (R20.out.other hk3 (by omega))
          have R31 := hid (R21.out.other hk3 (by omega))
          have E32 := hid (E22.out.other hk3 (by omega))
          have E33 := hid he3
          have HB3 := hid (hk3.below2 HBZ.out (by omega))
          have hzs := E23.out.lt
          have HW3 := hid (show z3 < (wr.setCell ⟨z3, 1, none⟩ (.int .i64 (F : Int))).heap.size from Nat.lt_of_lt_of_le hzs hk3.size)
          clear hk3 he3 f1 d0 d1 d2 R20 R21 E22 E23 HBZ HOZ hzs
          generalize World.setCell _ _ _ = w3 at *
          go_upto_region 14 with (fail)
          generalize hW4 : World.alloc _ _ = w4
          have hb4 : Below w3.heap.size w3 w4 := by rw [← hW4]; exact (Below.refl _ _).alloc (Nat.le_refl _) _
          have hn4 : w4.heap[w3.heap.size]? = some (.cells #[] 63 (0, 0)) := by rw [← hW4]; exact heap_alloc_new _ _
          have HO4 := hid (OwnB.empty hn4)
          have R40 := hid (R30.out.below hb4)
          have R41 := hid (R31.out.below hb4)
          have E42 := hid (E32.out.below hb4)
          have E43 := hid (E33.out.below hb4)
          have HB4 := hid (HB3.out.trans (hb4.mono HB3.out.size))
          have hf4 : VFresh w3 (.slice (some ⟨w3.heap.size, 0, none⟩) 0 0) := fun k hk => by have : k = w3.heap.size := Option.some.inj hk; omega
          have HF4 := hid hf4
          have HW34 := hid hb4.size
          have hz33 := HW3.out
          have hlz := HB3.out.size
          clear hW4 hb4 hn4 hf4 R30 R31 E32 E33 HB3 HW3
          obtain ⟨c0, c1, c2⟩ := R40.out.c
          go_upto_region 15 with (fail)
          clear c0 c1 c2
          go_loopw [15, 78] (fun vl i wr => ∃ p : Nat, p ≤ L.length ∧ i = .int .i64 p ∧ OwnB wr 63 vl (Bv.put (L.take p) ru (ru, (F : Int), rm)) ∧ VFresh w3 vl ∧ RbAt wr w.heap.size V X (.slice ao L.length cap) ∧ RbAt wr (w.heap.size + 1) 0 0 (.slice none 0 0) ∧ EntAt wr (w.heap.size + 1 + 1) 63 (0, 0, 0) ∧ EntAt wr z3 63 (ru, (F : Int), rm) ∧ Below w.heap.size w wr ∧ w3.heap.size ≤ wr.heap.size)
            (fun _ i _ => L.length - (intOf i).toNat)
          case atStart => exact ⟨0, by omega, rfl, HO4.out, HF4.out, R40.out, R41.out, E42.out, E43.out, HB4.out, HW34.out⟩
          case round =>
            obtain ⟨p, hp, rfl, hlf, hfl, hr0, hr1, he2, he3, hb5, hw3⟩ := hrel
            have HB := hid hb5
            have HOL := hid hlf
            have HFV := hid hfl
            have R0 := hid hr0
            have R1 := hid hr1
            have E2 := hid he2
            have E3 := hid he3
            clear hb5 hlf hfl hr0 hr1 he2 he3 HO4 HF4 R40 R41 E42 E43 HB4 HW34
            by_cases hlt : p < L.length
            · obtain ⟨g, rfl, q0, q1, q2⟩ := (HA.out.below HB.out) p hlt
              have hs1 := Bv.put_step L ru (ru, (F : Int), rm) p hlt
              obtain ⟨⟨yu, yf, ym⟩, hy⟩ : ∃ y, L.getD p (0, 0, 0) = y := ⟨_, rfl⟩
              rw [hy] at q0 q1 q2 hs1
              dsimp only at q0 q1 q2 hs1
              have hk2 := Bv.put_len (L.take p) ru (ru, (F : Int), rm)
              rw [List.length_take] at hk2
              have HG1 := hid hs1
              clear hs1 hy
              have hb6 : Below wr.heap.size wr (wr.alloc (.cells #[.int .i64 yu, .int .i64 yf, .int .i64 ym] 63)) := (Below.refl wr.heap.size wr).alloc (Nat.le_refl _) _
              have hn6 : EntAt (wr.alloc (.cells #[.int .i64 yu, .int .i64 yf, .int .i64 ym] 63)) wr.heap.size 63 (yu, yf, ym) := heap_alloc_new _ _
              by_cases h0 : yu = ru
              · subst h0
                rw [if_pos rfl] at HG1
                go_upto_region 18 with (fail)
                generalize World.alloc _ _ = w6 at *
                obtain ⟨x0, x1, x2⟩ := (E3.out.below hb6).c
                dsimp only at x0 x1 x2
                obtain ⟨⟨y0, s0⟩, f0, s1, f1, s2, f2⟩ := hn6.wr
                have hw6 := hb6.size
                go_upto_region 19 with (fail)
                have hk7 := EntAt.kept (w := w6) (B := wr.heap.size) yu (F : Int) rm
                have hn7 := hn6.set yu (F : Int) rm
                have hz6 := hn6.lt
                have hb7 : Below wr.heap.size wr (((w6.setCell ⟨wr.heap.size, 0, none⟩ (.int .i64 yu)).setCell ⟨wr.heap.size, 1, none⟩ (.int .i64 (F : Int))).setCell ⟨wr.heap.size, 2, none⟩ (.int .i64 rm)) := hk7.below2 hb6 (Nat.le_refl _)
                clear hk7 hn6 hb6 x0 x1 x2 y0 s0 f0 s1 f1 s2 f2
                generalize World.setCell _ _ _ = w7 at *
                have hs7 := hb7.size
                obtain ⟨x0, x1, x2⟩ := hn7.c
                dsimp only at x0 x1 x2
                have HOL7 := hid (HOL.out.below hb7)
                have R07 := hid (R0.out.below hb7)
                have R17 := hid (R1.out.below hb7)
                have E27 := hid (E2.out.below hb7)
                have E37 := hid (E3.out.below hb7)
                have HB7 := hid (HB.out.trans (hb7.mono HB.out.size))
                clear hn7 hb7 HOL R0 R1 E2 E3 HB q0 q1 q2
                have HA8 := hid (show Below w7.heap.size w7 (w7.alloc (.cells #[.int .i64 yu, .int .i64 (F : Int), .int .i64 rm] 63)) from (Below.refl w7.heap.size w7).alloc (Nat.le_refl _) _)
                have HX := hid (show EntAt (w7.alloc (.cells #[.int .i64 yu, .int .i64 (F : Int), .int .i64 rm] 63)) w7.heap.size 63 (yu, (F : Int), rm) from heap_alloc_new _ _)
                go_wp2_with (refine wpList_appEnt eRef rfl _ _ rfl _ (Bv.put (L.take p) yu (yu, (F : Int), rm)) rfl (OwnB.below HOL7.out HA8.out) w7.heap.size (yu, (F : Int), rm) rfl HX.out (by rw [hk2]; omega) ?_; intro v' w' ho' hg' hn'; have hbel := hid ((HB7.out.trans (HA8.out.mono HB7.out.size)).grown hg' (HB7.out.trans (HA8.out.mono HB7.out.size)).size (fun k hk => by have := HFV.out k hk.symm; omega)); have hfr := hid (HFV.out.next hn' (Nat.le_trans (Nat.le_trans hw3 hs7) HA8.out.size)); have hrb := hid ((R07.out.below HA8.out).grown (OwnB.below HOL7.out HA8.out) hg'); have hrc := hid ((R17.out.below HA8.out).grown (OwnB.below HOL7.out HA8.out) hg'); have hrd := hid ((E27.out.below HA8.out).grown HFV.out (by omega) hg'); have hre := hid ((E37.out.below HA8.out).grown HFV.out (by omega) hg'); have HO := hid ho'; have hsz := hid (Nat.le_trans (Nat.le_trans (Nat.le_trans hw3 hs7) HA8.out.size) hg'.size); clear ho' hg' hn')
                exact ⟨⟨p + 1, by omega, by go_num, by rw [HG1.out]; exact HO.out, hfr.out, hrb.out, hrc.out, hrd.out, hre.out, hbel.out, hsz.out⟩, by simp [intOf]; omega⟩
              · have hyb : (yu == ru) = false := by simpa using h0
                rw [if_neg h0] at HG1
                go_upto_region 19 with (fail)
                have hn7 := hn6
                have hb7 := hb6
                have hz6 := hn6.lt
                clear hn6 hb6
                generalize World.alloc _ _ = w7 at *
                have hs7 := hb7.size
                obtain ⟨x0, x1, x2⟩ := hn7.c
                dsimp only at x0 x1 x2
                have HOL7 := hid (HOL.out.below hb7)
                have R07 := hid (R0.out.below hb7)
                have R17 := hid (R1.out.below hb7)
                have E27 := hid (E2.out.below hb7)
                have E37 := hid (E3.out.below hb7)
                have HB7 := hid (HB.out.trans (hb7.mono HB.out.size))
                clear hn7 hb7 HOL R0 R1 E2 E3 HB q0 q1 q2
                have HA8 := hid (show Below w7.heap.size w7 (w7.alloc (.cells #[.int .i64 yu, .int .i64 yf, .int .i64 ym] 63)) from (Below.refl w7.heap.size w7).alloc (Nat.le_refl _) _)
                have HX := hid (show EntAt (w7.alloc (.cells #[.int .i64 yu, .int .i64 yf, .int .i64 ym] 63)) w7.heap.size 63 (yu, yf, ym) from heap_alloc_new _ _)
                go_wp2_with (refine wpList_appEnt eRef rfl _ _ rfl _ (Bv.put (L.take p) ru (ru, (F : Int), rm)) rfl (OwnB.below HOL7.out HA8.out) w7.heap.size (yu, yf, ym) rfl HX.out (by rw [hk2]; omega) ?_; intro v' w' ho' hg' hn'; have hbel := hid ((HB7.out.trans (HA8.out.mono HB7.out.size)).grown hg' (HB7.out.trans (HA8.out.mono HB7.out.size)).size (fun k hk => by have := HFV.out k hk.symm; omega)); have hfr := hid (HFV.out.next hn' (Nat.le_trans (Nat.le_trans hw3 hs7) HA8.out.size)); have hrb := hid ((R07.out.below HA8.out).grown (OwnB.below HOL7.out HA8.out) hg'); have hrc := hid ((R17.out.below HA8.out).grown (OwnB.below HOL7.out HA8.out) hg'); have hrd := hid ((E27.out.below HA8.out).grown HFV.out (by omega) hg'); have hre := hid ((E37.out.below HA8.out).grown HFV.out (by omega) hg'); have HO := hid ho'; have hsz := hid (Nat.le_trans (Nat.le_trans (Nat.le_trans hw3 hs7) HA8.out.size) hg'.size); clear ho' hg' hn')
                exact ⟨⟨p + 1, by omega, by go_num, by rw [HG1.out]; exact HO.out, hfr.out, hrb.out, hrc.out, hrd.out, hre.out, hbel.out, hsz.out⟩, by simp [intOf]; omega⟩
            · obtain rfl : p = L.length := by omega
              rw [List.take_length] at HOL
              obtain ⟨aol, cpl, hvl⟩ := ownsRow_slice HOL.out
              subst hvl
              obtain ⟨c0, c1, c2⟩ := R0.out.c
              have f2 := frozen_of_row wr _ 2 _ _ R0.out
              go_upto_region 22 with (fail)
              generalize hLL : (Bv.put L ru (ru, (F : Int), rm)) = LL at *
              have HLL := hid hLL
              clear hLL
              have hk4 : KeptQ (fun k => k = w.heap.size) wr (wr.setCell ⟨w.heap.size, 2, none⟩ (.slice aol LL.length cpl)) := KeptQ.setCell _ _ _ rfl
              have hr4 : RbAt (wr.setCell ⟨w.heap.size, 2, none⟩ (.slice aol LL.length cpl)) w.heap.size V X (.slice aol LL.length cpl) := by
                unfold RbAt
                rw [heap_setCell_same _ _ 2 _ _ _ R0.out]
                rfl
              have R4 := hid hr4
              have R5 := hid (R1.out.other hk4 (by omega))
              have E4 := hid (E2.out.other hk4 (by omega))
              have E5 := hid (E3.out.other hk4 (by omega))
              have OL := hid (HOL.out.other hk4 (R0.out.nown HOL.out))
              have HB5 := hid (hk4.below2 HB.out (Nat.le_refl _))
              clear hk4 hr4 c0 c1 c2 f2 R0 R1 HOL E2 E3 HB
              generalize World.setCell _ _ _ = w5 at *
              obtain ⟨c0, c1, c2⟩ := R4.out.c
              obtain ⟨d0, d1, d2⟩ := E5.out.c
              dsimp only at d0 d1 d2
              obtain ⟨⟨z0, s0⟩, f0, s1, f1, s2, f2⟩ := R5.out.wr
              have E6 := hid (E5.out.wr2 (B := w.heap.size + 1) (by omega) (.int .i64 V) (.int .i64 X) (.slice aol LL.length cpl))
              have E7 := hid (E4.out.wr2 (B := w.heap.size + 1) (by omega) (.int .i64 V) (.int .i64 X) (.slice aol LL.length cpl))
              obtain ⟨e0, e1, e2⟩ := E6.out.c
              dsimp only at e0 e1 e2
              obtain ⟨⟨y0, t0⟩, g0, t1, g1, t2, g2⟩ := E7.out.wr
              go_region
              have hfin := set33 (w := w) R5.out E4.out OL.out HB5.out (by omega) (by omega) (by omega) (fun e => by have := HFV.out _ e; omega) V X (.slice aol LL.length cpl) ru (F : Int) rm
              have HFIN := hid hfin
              clear hfin
              clear e0 e1 e2 t0 t1 t2 g0 g1 g2 s0 s1 s2 f0 f1 f2 c0 c1 c2 d0 d1 d2 E6 E7
              generalize World.drew _ = w6 at *
              go_wp2
              refine ret_rbox Try.results30 _ _ (w.heap.size + 1) (w.heap.size + 1 + 1) V X (.slice aol LL.length cpl) (ru, (F : Int), rm) (.int .i64 0) ?_ HFIN.out.1 ?_ HFIN.out.2.1 ?_ ?_ ?_
              · rfl
              · rfl
              · rfl
              · rfl
              first
                | exact ⟨_, rfl, HFIN.out.2.2.1, HFIN.out.2.2.2⟩
                | exact ⟨_, rfl, by rw [HLL.out]; exact HFIN.out.2.2.1, HFIN.out.2.2.2⟩
    · have hE : Bv.setE L u on off = 4 := by unfold Bv.setE; rw [hh, if_neg hfl]; rfl
      have hR : Bv.setR L u on off = (0, 0, 0) ∧ Bv.setL L u on off = L := by unfold Bv.setL Bv.setR; rw [hE]; exact ⟨rfl, rfl⟩
      rw [hE, hR.1, hR.2]
      have hw : on < 0 ∨ 31 < on ∨ off < 0 ∨ 31 < off := by
        unfold Bv.fl at hfl
        simp at hfl
        omega
      clear hE hR hG hh hy hfl hrf hlt hru
      unfold rbV beV
      unfold rbV beV at HGT
      go_enter Try.func30, Try.ntmps30
      go_upto_region 1 with (fail)
      generalize hW0 : World.alloc _ _ = w0
      obtain ⟨b0, b1, b2, hb0, hs0⟩ := three_blocks w _ _ _ w0 hW0
      have R00 := hid (show RbAt w0 w.heap.size V X (.slice ao L.length cap) from b0)
      have R01 := hid (show RbAt w0 (w.heap.size + 1) 0 0 (.slice none 0 0) from b1)
      have E02 := hid (show EntAt w0 (w.heap.size + 1 + 1) 63 (0, 0, 0) from b2)
      have HB0 := hid hb0
      have HS0 := hid hs0
      clear hW0 b0 b1 b2 hb0 hs0
      obtain ⟨c0, c1, c2⟩ := R00.out.c
      go_wp2_with fail
      refine (HGT.out w0 (HO.out.below HB0.out)).mono ?_
      rintro e w1 ⟨rfl, hb1⟩
      have HB1 := hid hb1
      clear hb1 HGT c0 c1 c2
      go_upto_region 2 with (fail)
      generalize hW2 : World.alloc _ _ = w2
      have hb2 : Below w1.heap.size w1 w2 := by rw [← hW2]; exact (Below.refl _ _).alloc (Nat.le_refl _) _
      have E23 := hid (show EntAt w2 w1.heap.size 63 (ru, rf, rm) from by rw [← hW2]; exact heap_alloc_new _ _)
      have HB2 := hid (HB1.out.trans (hb2.mono HB1.out.size))
      have R20 := hid (R00.out.below HB2.out)
      have R21 := hid (R01.out.below HB2.out)
      have E22 := hid (E02.out.below HB2.out)
      have hz3 : w.heap.size + 1 + 1 < w1.heap.size := by have := HB1.out.size; have := HS0.out; omega
      have hBz : Below w.heap.size w w2 := HB0.out.trans (HB2.out.mono HB0.out.size)
      have HBZ := hid hBz
      have HOZ := hid (HO.out.below hBz)
      have hnz : some (w.heap.size + 1 + 1) ≠ (Value.slice ao L.length cap).ownBlock := fun e => by have := HO.out.lt e; omega
      clear hW2 hb2 hBz R00 R01 E02 HB1 HB2 HB0 HS0
      generalize w1.heap.size = z3 at *
      obtain ⟨c0, c1, c2⟩ := R20.out.c
      obtain ⟨⟨z0, s0⟩, f0, s1, f1, s2, f2⟩ := R21.out.wr
      have E6 := hid (E23.out.wr2 (B := w.heap.size + 1) (by omega) (.int .i64 V) (.int .i64 X) (.slice ao L.length cap))
      have E7 := hid (E22.out.wr2 (B := w.heap.size + 1) (by omega) (.int .i64 V) (.int .i64 X) (.slice ao L.length cap))
      obtain ⟨e0, e1, e2⟩ := E6.out.c
      dsimp only at e0 e1 e2
      obtain ⟨⟨y0, t0⟩, g0, t1, g1, t2, g2⟩ := E7.out.wr
      have hgo : ∀ (P : Prop), (on < 0 → P) → (0 ≤ on → 31 < on → P) → (0 ≤ on → on ≤ 31 → off < 0 → P) → (0 ≤ on → on ≤ 31 → 0 ≤ off → 31 < off → P) → P := fun P p1 p2 p3 p4 => by
        by_cases h1 : on < 0
        · exact p1 h1
        · by_cases h2 : 31 < on
          · exact p2 (by omega) h2
          · by_cases h3 : off < 0
            · exact p3 (by omega) (by omega) h3
            · exact p4 (by omega) (by omega) (by omega) (by omega)
      clear hw
      have hfin := set33' (w := w) R21.out E22.out HOZ.out HBZ.out (by omega) (by omega) (by omega) hnz V X (.slice ao L.length cap) 0 0 0
      have HFIN := hid (show _ from hfin)
      clear hfin
      refine hgo _ (fun p1 => ?_) (fun p1 p2 => ?_) (fun p1 p2 p3 => ?_) (fun p1 p2 p3 p4 => ?_)
      all_goals clear hgo
      all_goals go_wp2
      all_goals refine ret_rbox Try.results30 _ _ (w.heap.size + 1) (w.heap.size + 1 + 1) V X (.slice ao L.length cap) (0, 0, 0) (.int .i64 4) ?_ HFIN.out.1 ?_ HFIN.out.2.1 ?_ ?_ ⟨_, rfl, HFIN.out.2.2.1, HFIN.out.2.2.2⟩
      all_goals rfl
end Go.Proofs.Ytlfjhpmachblkaa
