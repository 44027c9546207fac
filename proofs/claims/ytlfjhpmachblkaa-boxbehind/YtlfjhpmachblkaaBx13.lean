/-
  Layer 18: what the reference's Remove returns.
-/
import Derived.Test.YtlfjhpmachblkaaBx12
namespace Go.Proofs.Ytlfjhpmachblkaa
open Go.ChangeShapes Go.WideShapes Go.ChangeAt Go.RowKit
open Go.Lib (hid)

/-- Those with another number. -/
def Bv.ne (L : List Bv.E) (u : Int) : List Bv.E := L.filter fun e => e.1 != u
theorem Bv.ne_len (L : List Bv.E) (u : Int) : (Bv.ne L u).length ≤ L.length := List.length_filter_le _ _
theorem Bv.ne_is {L : List Bv.E} (hup : Bv.Up L) (u : Int) : Bv.ne L u = Bv.remL L u := by
  unfold Bv.ne Bv.remL
  cases hh : Bv.hit L u with
  | false =>
    rw [if_neg (by simp), List.filter_eq_self]
    intro e he
    obtain ⟨i, hi, rfl⟩ := List.getElem_of_mem he
    simp only [bne_iff_ne, ne_eq]
    intro h
    have hg : (L.getD i (0, 0, 0)).1 = u := by rw [List.getD_eq_getElem?_getD, List.getElem?_eq_getElem hi]; exact h
    have := (Bv.hit_at hup i hi hg).2
    rw [hh] at this
    cases this
  | true =>
    rw [if_pos rfl]
    have hlt := Bv.hit_lt hh
    have hu := Bv.hit_is hh
    generalize Bv.cnt L u = c at *
    have hL : L = L.take c ++ (L.getD c (0, 0, 0) :: L.drop (c + 1)) := by
      rw [List.getD_eq_getElem?_getD, List.getElem?_eq_getElem hlt, Option.getD_some, List.getElem_cons_drop, List.take_append_drop]
    conv => lhs; rw [hL]
    rw [List.filter_append, List.filter_cons, hu]
    simp only [bne_self_eq_false, Bool.false_eq_true, if_false]
    congr 1
    · rw [List.filter_eq_self]
      intro e he
      obtain ⟨i, hi, rfl⟩ := List.getElem_of_mem he
      rw [List.length_take] at hi
      rw [List.getElem_take]
      simp only [bne_iff_ne, ne_eq]
      have := hup i c (by omega) hlt
      rw [hu, List.getD_eq_getElem?_getD, List.getElem?_eq_getElem (by omega)] at this
      simp only [Option.getD_some] at this
      omega
    · rw [List.filter_eq_self]
      intro e he
      obtain ⟨i, hi, rfl⟩ := List.getElem_of_mem he
      rw [List.length_drop] at hi
      rw [List.getElem_drop]
      simp only [bne_iff_ne, ne_eq]
      have := hup c (c + 1 + i) (by omega) (by omega)
      rw [hu, List.getD_eq_getElem?_getD, List.getElem?_eq_getElem (by omega)] at this
      simp only [Option.getD_some] at this
      omega
theorem EntAt.grown {w w' : World} {B : Nat} {T : TypeId} {e : Bv.E} {v : Value} {w0 : World} (h : EntAt w B T e) (hf : VFresh w0 v) (hB : B < w0.heap.size) (hg : w.grownBy w' v.ownBlock) : EntAt w' B T e :=
  (hg.block B h.lt (fun he => by have := hf B he; omega)).trans h
theorem EntAt.other {w w' : World} {B k : Nat} {T : TypeId} {e : Bv.E} (h : EntAt w B T e) (hk : KeptQ (fun j => j = k) w w') (hne : B ≠ k) : EntAt w' B T e := (hk.block B h.lt hne).trans h
/-- Three new blocks. -/
theorem three_blocks (w : World) (o0 o1 o2 : Obj) (W : World) (hW : ((w.alloc o0).alloc o1).alloc o2 = W) :
    W.heap[w.heap.size]? = some o0 ∧ W.heap[w.heap.size + 1]? = some o1 ∧ W.heap[w.heap.size + 1 + 1]? = some o2 ∧ Below w.heap.size w W ∧ W.heap.size = w.heap.size + 1 + 1 + 1 := by
  subst hW
  refine ⟨?_, ?_, ?_, (((Below.refl _ _).alloc (Nat.le_refl _) _).alloc (by simp) _).alloc (by simp <;> omega) _, by simp⟩
  · rw [Below.heap_alloc _ _ _ (by simp <;> omega), Below.heap_alloc _ _ _ (by simp), heap_alloc_new]
  · rw [Below.heap_alloc _ _ _ (by simp)]
    have := heap_alloc_new (w.alloc o0) o1
    simpa using this
  · have := heap_alloc_new ((w.alloc o0).alloc o1) o2
    simpa using this
/-- Two cells are written, one behind the other: a mailbox, and an entry. -/
theorem EntAt.wr2 {w : World} {B C : Nat} {T : TypeId} {e : Bv.E} (h : EntAt w C T e) (hne : C ≠ B) (x y z : Value) : EntAt (((w.setCell ⟨B, 0, none⟩ x).setCell ⟨B, 1, none⟩ y).setCell ⟨B, 2, none⟩ z) C T e :=
  h.other (set3_kept x y z) hne

theorem set33' {w w4 : World} {B C : Nat} {V0 X0 : Int} {r0 vl : Value} {e0 : Bv.E} {L : List Bv.E} {T : TypeId} (R5 : RbAt w4 B V0 X0 r0) (E4 : EntAt w4 C T e0) (OL : OwnB w4 63 vl L) (hb : Below w.heap.size w w4) (hB : w.heap.size ≤ B) (hC : w.heap.size ≤ C) (hne : C ≠ B) (hv : some C ≠ vl.ownBlock) (V X : Int) (v : Value) (ru rf rm : Int) :
    RbAt ((((((w4.setCell ⟨B, 0, none⟩ (.int .i64 V)).setCell ⟨B, 1, none⟩ (.int .i64 X)).setCell ⟨B, 2, none⟩ v).setCell ⟨C, 0, none⟩ (.int .i64 ru)).setCell ⟨C, 1, none⟩ (.int .i64 rf)).setCell ⟨C, 2, none⟩ (.int .i64 rm)) B V X v ∧
    EntAt ((((((w4.setCell ⟨B, 0, none⟩ (.int .i64 V)).setCell ⟨B, 1, none⟩ (.int .i64 X)).setCell ⟨B, 2, none⟩ v).setCell ⟨C, 0, none⟩ (.int .i64 ru)).setCell ⟨C, 1, none⟩ (.int .i64 rf)).setCell ⟨C, 2, none⟩ (.int .i64 rm)) C T (ru, rf, rm) ∧
    OwnB ((((((w4.setCell ⟨B, 0, none⟩ (.int .i64 V)).setCell ⟨B, 1, none⟩ (.int .i64 X)).setCell ⟨B, 2, none⟩ v).setCell ⟨C, 0, none⟩ (.int .i64 ru)).setCell ⟨C, 1, none⟩ (.int .i64 rf)).setCell ⟨C, 2, none⟩ (.int .i64 rm)) 63 vl L ∧
    Below w.heap.size w ((((((w4.setCell ⟨B, 0, none⟩ (.int .i64 V)).setCell ⟨B, 1, none⟩ (.int .i64 X)).setCell ⟨B, 2, none⟩ v).setCell ⟨C, 0, none⟩ (.int .i64 ru)).setCell ⟨C, 1, none⟩ (.int .i64 rf)).setCell ⟨C, 2, none⟩ (.int .i64 rm)) := by
  have hk5 := set3_kept (w := w4) (B := B) (.int .i64 V) (.int .i64 X) v
  have hr := R5.set V X v
  have he := E4.other hk5 hne
  have ho := OL.other hk5 (R5.nown OL)
  have hb5 := hk5.below2 hb hB
  generalize ((w4.setCell ⟨B, 0, none⟩ (.int .i64 V)).setCell ⟨B, 1, none⟩ (.int .i64 X)).setCell ⟨B, 2, none⟩ v = w5 at *
  have hk6 := EntAt.kept (w := w5) (B := C) ru rf rm
  have hr6 := hr.other hk6 (Ne.symm hne)
  have he6 := he.set ru rf rm
  have ho6 := ho.other hk6 hv
  have hb6 := hk6.below2 hb5 hC
  generalize ((w5.setCell ⟨C, 0, none⟩ (.int .i64 ru)).setCell ⟨C, 1, none⟩ (.int .i64 rf)).setCell ⟨C, 2, none⟩ (.int .i64 rm) = w6 at *
  exact ⟨hr6, he6, ho6, hb6⟩
theorem set33 {w w4 : World} {B C : Nat} {V0 X0 : Int} {r0 vl : Value} {e0 : Bv.E} {L : List Bv.E} {T : TypeId} (R5 : RbAt w4 B V0 X0 r0) (E4 : EntAt w4 C T e0) (OL : OwnB w4 63 vl L) (hb : Below w.heap.size w w4) (hB : w.heap.size ≤ B) (hC : w.heap.size ≤ C) (hne : C ≠ B) (hv : some C ≠ vl.ownBlock) (V X : Int) (v : Value) (ru rf rm : Int) :
    RbAt ((((((w4.setCell ⟨B, 0, none⟩ (.int .i64 V)).setCell ⟨B, 1, none⟩ (.int .i64 X)).setCell ⟨B, 2, none⟩ v).setCell ⟨C, 0, none⟩ (.int .i64 ru)).setCell ⟨C, 1, none⟩ (.int .i64 rf)).setCell ⟨C, 2, none⟩ (.int .i64 rm)).drew B V X v ∧
    EntAt ((((((w4.setCell ⟨B, 0, none⟩ (.int .i64 V)).setCell ⟨B, 1, none⟩ (.int .i64 X)).setCell ⟨B, 2, none⟩ v).setCell ⟨C, 0, none⟩ (.int .i64 ru)).setCell ⟨C, 1, none⟩ (.int .i64 rf)).setCell ⟨C, 2, none⟩ (.int .i64 rm)).drew C T (ru, rf, rm) ∧
    OwnB ((((((w4.setCell ⟨B, 0, none⟩ (.int .i64 V)).setCell ⟨B, 1, none⟩ (.int .i64 X)).setCell ⟨B, 2, none⟩ v).setCell ⟨C, 0, none⟩ (.int .i64 ru)).setCell ⟨C, 1, none⟩ (.int .i64 rf)).setCell ⟨C, 2, none⟩ (.int .i64 rm)).drew 63 vl L ∧
    Below w.heap.size w ((((((w4.setCell ⟨B, 0, none⟩ (.int .i64 V)).setCell ⟨B, 1, none⟩ (.int .i64 X)).setCell ⟨B, 2, none⟩ v).setCell ⟨C, 0, none⟩ (.int .i64 ru)).setCell ⟨C, 1, none⟩ (.int .i64 rf)).setCell ⟨C, 2, none⟩ (.int .i64 rm)).drew := by
  have h := set33' (w := w) R5 E4 OL hb hB hC hne hv V X v ru rf rm
  generalize ((((((w4.setCell ⟨B, 0, none⟩ (.int .i64 V)).setCell ⟨B, 1, none⟩ (.int .i64 X)).setCell ⟨B, 2, none⟩ v).setCell ⟨C, 0, none⟩ (.int .i64 ru)).setCell ⟨C, 1, none⟩ (.int .i64 rf)).setCell ⟨C, 2, none⟩ (.int .i64 rm)) = w6 at *
  exact ⟨h.1, h.2.1, h.2.2.1.at (fun _ _ => rfl), h.2.2.2.drew⟩
set_option maxHeartbeats 4000000 in
set_option maxRecDepth 100000 in
theorem rremove18_any (V X : Int) (v : Value) (L : List Bv.E) (u : Int) (w : World) (h : OwnB w 63 v L) (hup : Bv.Up L) (hl : L.length ≤ 1000) :
    Calls Try.prog 31 #[rbV V X v, .int .i64 u] w fun e w' => ∃ vl, e = .returned (.tuple #[rbV V X vl, beV (Bv.getR L u), .int .i64 (Bv.getE L u : Nat)]) ∧ OwnB w' 63 vl (Bv.remL L u) ∧ Below w.heap.size w w' := by
  have HGT := hid (fun wx hx => rget18_any V X v L u wx hx hup hl)
  have HNE := hid (Bv.ne_is hup u)
  obtain ⟨ao, cap, rfl, hes⟩ := h.es
  have HO := hid h
  have HA := hid hes
  clear h hes hup
  obtain ⟨⟨ru, rf, rm⟩, hR⟩ : ∃ R, Bv.getR L u = R := ⟨_, rfl⟩
  obtain ⟨E, hE⟩ : ∃ E, Bv.getE L u = E := ⟨_, rfl⟩
  rw [hR, hE]
  rw [hR, hE] at HGT
  clear hR hE
  unfold rbV beV
  unfold rbV beV at HGT
  go_enter Try.func31, Try.ntmps31
  go_upto_region 1 with (fail)
  generalize hW0 : World.alloc _ _ = w0
  obtain ⟨b0, b1, b2, hb0, hs0⟩ := three_blocks w _ _ _ w0 hW0
  have R00 := hid (show RbAt w0 w.heap.size V X (.slice ao L.length cap) from b0)
  have R01 := hid (show RbAt w0 (w.heap.size + 1) 0 0 (.slice none 0 0) from b1)
  have E02 := hid (show EntAt w0 (w.heap.size + 1 + 1) 63 (0, 0, 0) from b2)
  have HB0 := hid hb0
  have HS0 := hid hs0
  clear hW0 b0 b1 b2 hb0 hs0
  obtain ⟨c0, c1, c2⟩ := R00.out.c
  go_wp2_with fail
  refine (HGT.out w0 (HO.out.below HB0.out)).mono ?_
  rintro e w1 ⟨rfl, hb1⟩
  have HB1 := hid hb1
  clear hb1 HGT c0 c1 c2
  go_upto_region 2 with (fail)
  generalize hW2 : World.alloc _ _ = w2
  have hb2 : Below w1.heap.size w1 w2 := by rw [← hW2]; exact (Below.refl _ _).alloc (Nat.le_refl _) _
  have E23 := hid (show EntAt w2 w1.heap.size 63 (ru, rf, rm) from by rw [← hW2]; exact heap_alloc_new _ _)
  have HB2 := hid (HB1.out.trans (hb2.mono HB1.out.size))
  have R20 := hid (R00.out.below HB2.out)
  have R21 := hid (R01.out.below HB2.out)
  have E22 := hid (E02.out.below HB2.out)
  have hz3 : w.heap.size + 1 + 1 < w1.heap.size := by have := HB1.out.size; have := HS0.out; omega
  have hBz : Below w.heap.size w w2 := HB0.out.trans (HB2.out.mono HB0.out.size)
  have HBZ := hid hBz
  clear hW2 hb2 hBz R00 R01 E02 HB1 HB2 HB0 HS0
  generalize w1.heap.size = z3 at *
  go_upto_region 3 with (fail)
  generalize hW3 : World.alloc _ _ = w3
  have hb3 : Below w2.heap.size w2 w3 := by rw [← hW3]; exact (Below.refl _ _).alloc (Nat.le_refl _) _
  have hn3 : w3.heap[w2.heap.size]? = some (.cells #[] 63 (0, 0)) := by rw [← hW3]; exact heap_alloc_new _ _
  have HO3 := hid (OwnB.empty hn3)
  have R30 := hid (R20.out.below hb3)
  have R31 := hid (R21.out.below hb3)
  have E32 := hid (E22.out.below hb3)
  have E33 := hid (E23.out.below hb3)
  have HB3 := hid (HBZ.out.trans (hb3.mono HBZ.out.size))
  have hz2 := E23.out.lt
  have hf3 : VFresh w2 (.slice (some ⟨w2.heap.size, 0, none⟩) 0 0) := fun k hk => by have : k = w2.heap.size := Option.some.inj hk; omega
  have HF3 := hid hf3
  have HW23 := hid hb3.size
  clear hW3 hb3 hn3 hf3 R20 R21 E22 E23
  obtain ⟨c0, c1, c2⟩ := R30.out.c
  go_upto_region 4 with (fail)
  clear c0 c1 c2
  go_loopw [9, 22] (fun vl i wr => ∃ p : Nat, p ≤ L.length ∧ i = .int .i64 p ∧ OwnB wr 63 vl (Bv.ne (L.take p) u) ∧ VFresh w2 vl ∧ RbAt wr w.heap.size V X (.slice ao L.length cap) ∧ RbAt wr (w.heap.size + 1) 0 0 (.slice none 0 0) ∧ EntAt wr (w.heap.size + 1 + 1) 63 (0, 0, 0) ∧ EntAt wr z3 63 (ru, rf, rm) ∧ Below w.heap.size w wr ∧ w2.heap.size ≤ wr.heap.size)
    (fun _ i _ => L.length - (intOf i).toNat)
  case atStart => exact ⟨0, by omega, rfl, HO3.out, HF3.out, R30.out, R31.out, E32.out, E33.out, HB3.out, HW23.out⟩
  case round =>
    obtain ⟨p, hp, rfl, hlf, hfl, hr0, hr1, he2, he3, hb, hw2⟩ := hrel
    have HB := hid hb
    have HOL := hid hlf
    have HFL := hid hfl
    have R0 := hid hr0
    have R1 := hid hr1
    have E2 := hid he2
    have E3 := hid he3
    clear hb hlf hfl hr0 hr1 he2 he3 HO3 HF3 R30 R31 E32 E33 HB3 HW23
    by_cases hlt : p < L.length
    · obtain ⟨g, rfl, q0, q1, q2⟩ := (HA.out.below HB.out) p hlt
      have hs1 := Bv.filter_step (fun e => e.1 != u) L p hlt
      obtain ⟨⟨yu, yf, ym⟩, hy⟩ : ∃ y, L.getD p (0, 0, 0) = y := ⟨_, rfl⟩
      rw [hy] at q0 q1 q2 hs1
      dsimp only at q0 q1 q2
      have hg1 : Bv.ne (L.take (p + 1)) u = Bv.ne (L.take p) u ++ if (yu != u) = true then [(yu, yf, ym)] else [] := hs1
      have hk2 := Bv.ne_len (L.take p) u
      rw [List.length_take] at hk2
      have HG1 := hid hg1
      have HA2 := hid (show Below wr.heap.size wr ((wr.alloc (.cells #[.int .i64 yu, .int .i64 yf, .int .i64 ym] 63)).alloc (.cells #[.int .i64 yu, .int .i64 yf, .int .i64 ym] 63)) from ((Below.refl wr.heap.size wr).alloc (Nat.le_refl _) _).alloc (by simp) _)
      have HA1 := hid (show Below wr.heap.size wr (wr.alloc (.cells #[.int .i64 yu, .int .i64 yf, .int .i64 ym] 63)) from (Below.refl wr.heap.size wr).alloc (Nat.le_refl _) _)
      have HX := hid (show EntAt ((wr.alloc (.cells #[.int .i64 yu, .int .i64 yf, .int .i64 ym] 63)).alloc (.cells #[.int .i64 yu, .int .i64 yf, .int .i64 ym] 63)) (wr.heap.size + 1) 63 (yu, yf, ym) from by
        have := heap_alloc_new (wr.alloc (.cells #[.int .i64 yu, .int .i64 yf, .int .i64 ym] 63)) (.cells #[.int .i64 yu, .int .i64 yf, .int .i64 ym] 63)
        simpa [EntAt] using this)
      have HB2 := hid (HB.out.trans (HA2.out.mono HB.out.size))
      clear hs1 hg1 hy
      by_cases h0 : yu = u
      · subst h0
        have h1 : (yu != yu) = false := by simp
        rw [h1] at HG1
        go_wp2
        exact ⟨⟨p + 1, by omega, by go_num, by rw [HG1.out]; simpa using HOL.out.below HA1.out, HFL.out, R0.out.below HA1.out, R1.out.below HA1.out, E2.out.below HA1.out, E3.out.below HA1.out, HB.out.trans (HA1.out.mono HB.out.size), Nat.le_trans hw2 HA1.out.size⟩, by simp [intOf]; omega⟩
      · have h1 : (yu != u) = true := by simpa using h0
        rw [h1] at HG1
        go_wp2_with (refine wpList_appEnt eRef rfl _ _ rfl _ (Bv.ne (L.take p) u) rfl (OwnB.below HOL.out HA2.out) (wr.heap.size + 1) (yu, yf, ym) rfl HX.out (by have := hk2; omega) ?_; intro v' w' ho' hg' hn'; have hbel := hid (HB2.out.grown hg' HB2.out.size (fun k hk => by have := HFL.out k hk.symm; have := HBZ.out.size; omega)); have hfr := hid (HFL.out.next hn' (Nat.le_trans hw2 HA2.out.size)); have hrb := hid ((R0.out.below HA2.out).grown (OwnB.below HOL.out HA2.out) hg'); have hrc := hid ((R1.out.below HA2.out).grown (OwnB.below HOL.out HA2.out) hg'); have hrd := hid ((E2.out.below HA2.out).grown HFL.out (by omega) hg'); have hre := hid ((E3.out.below HA2.out).grown HFL.out (by omega) hg'); have HO := hid ho'; have hsz := hid (Nat.le_trans (Nat.le_trans hw2 HA2.out.size) hg'.size); clear ho' hg' hn')
        exact ⟨⟨p + 1, by omega, by go_num, by rw [HG1.out]; exact HO.out, hfr.out, hrb.out, hrc.out, hrd.out, hre.out, hbel.out, hsz.out⟩, by simp [intOf]; omega⟩
    · obtain rfl : p = L.length := by omega
      rw [List.take_length, HNE.out] at HOL
      obtain ⟨aol, cpl, hvl⟩ := ownsRow_slice HOL.out
      subst hvl
      obtain ⟨c0, c1, c2⟩ := R0.out.c
      have f2 := frozen_of_row wr _ 2 _ _ R0.out
      have hlz := HBZ.out.size
      go_upto_region 10 with (fail)
      have hk4 : KeptQ (fun k => k = w.heap.size) wr (wr.setCell ⟨w.heap.size, 2, none⟩ (.slice aol (Bv.remL L u).length cpl)) := KeptQ.setCell _ _ _ rfl
      have hr4 : RbAt (wr.setCell ⟨w.heap.size, 2, none⟩ (.slice aol (Bv.remL L u).length cpl)) w.heap.size V X (.slice aol (Bv.remL L u).length cpl) := by
        unfold RbAt
        rw [heap_setCell_same _ _ 2 _ _ _ R0.out]
        rfl
      have R4 := hid hr4
      have R5 := hid (R1.out.other hk4 (by omega))
      have E4 := hid (E2.out.other hk4 (by omega))
      have E5 := hid (E3.out.other hk4 (by omega))
      have OL := hid (HOL.out.other hk4 (R0.out.nown HOL.out))
      have HB4 := hid (hk4.below2 HB.out (Nat.le_refl _))
      clear hk4 hr4 c0 c1 c2 f2 R0 R1 HOL E2 E3 HB
      generalize World.setCell _ _ _ = w4 at *
      obtain ⟨c0, c1, c2⟩ := R4.out.c
      obtain ⟨d0, d1, d2⟩ := E5.out.c
      dsimp only at d0 d1 d2
      obtain ⟨⟨z0, s0⟩, f0, s1, f1, s2, f2⟩ := R5.out.wr
      have E6 := hid (E5.out.wr2 (B := w.heap.size + 1) (by omega) (.int .i64 V) (.int .i64 X) (.slice aol (Bv.remL L u).length cpl))
      have E7 := hid (E4.out.wr2 (B := w.heap.size + 1) (by omega) (.int .i64 V) (.int .i64 X) (.slice aol (Bv.remL L u).length cpl))
      obtain ⟨e0, e1, e2⟩ := E6.out.c
      dsimp only at e0 e1 e2
      obtain ⟨⟨y0, t0⟩, g0, t1, g1, t2, g2⟩ := E7.out.wr
      go_region
      have hfin := set33 (w := w) R5.out E4.out OL.out HB4.out (by omega) (by omega) (by omega) (fun e => by have := HFL.out _ e; omega) V X (.slice aol (Bv.remL L u).length cpl) ru rf rm
      have HFIN := hid hfin
      clear hfin e0 e1 e2 t0 t1 t2 g0 g1 g2 s0 s1 s2 f0 f1 f2 c0 c1 c2 d0 d1 d2 E6 E7
      generalize World.drew _ = w6 at *
      go_wp2
      refine ret_rbox Try.results31 _ _ (w.heap.size + 1) (w.heap.size + 1 + 1) V X (.slice aol (Bv.remL L u).length cpl) (ru, rf, rm) (.int .i64 (E : Int)) ?_ HFIN.out.1 ?_ HFIN.out.2.1 ?_ ?_ ?_
      · rfl
      · rfl
      · rfl
      · rfl
      exact ⟨_, rfl, HFIN.out.2.2.1, HFIN.out.2.2.2⟩
end Go.Proofs.Ytlfjhpmachblkaa
