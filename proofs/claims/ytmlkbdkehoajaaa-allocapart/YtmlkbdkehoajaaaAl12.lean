/-
  Layer 11: the law's do.
-/
import Derived.Test.YtmlkbdkehoajaaaAl11
namespace Go.Proofs.Ytmlkbdkehoajaaa
open Go.RowKit
open Go.Lib (hid)

/-- An Act in a block of its own. -/
def ABox (W : World) (B : Nat) (K N F C : Int) : Prop := W.heap[B]? = some (.cells #[.int .i64 K, .int .i64 N, .int .i64 F, .int .i64 C] 33 (0, 0))
theorem ABox.c0 {W : World} {B : Nat} {K N F C : Int} (h : ABox W B K N F C) : W.cell? ⟨B, 0, none⟩ = some (.int .i64 K) := by rw [Lib.cell_of_heap h]; rfl
theorem ABox.c1 {W : World} {B : Nat} {K N F C : Int} (h : ABox W B K N F C) : W.cell? ⟨B, 1, none⟩ = some (.int .i64 N) := by rw [Lib.cell_of_heap h]; rfl
theorem ABox.c2 {W : World} {B : Nat} {K N F C : Int} (h : ABox W B K N F C) : W.cell? ⟨B, 2, none⟩ = some (.int .i64 F) := by rw [Lib.cell_of_heap h]; rfl
theorem ABox.c3 {W : World} {B : Nat} {K N F C : Int} (h : ABox W B K N F C) : W.cell? ⟨B, 3, none⟩ = some (.int .i64 C) := by rw [Lib.cell_of_heap h]; rfl
theorem ABox.lt {W : World} {B : Nat} {K N F C : Int} (h : ABox W B K N F C) : B < W.heap.size := (Array.getElem?_eq_some_iff.1 h).1
theorem ABox.below {W W' : World} {B : Nat} {K N F C : Int} (h : ABox W B K N F C) (hb : Below W.heap.size W W') : ABox W' B K N F C := (hb.block B h.lt).trans h
theorem RBox.lt {W : World} {B : Nat} {F C : Int} (h : RBox W B F C) : B < W.heap.size := (Array.getElem?_eq_some_iff.1 h).1
/-- What a step leaves: the pages, in the map and in the reference's list. -/
structure Both (w : World) (b gm c gl : Nat) (L : List Bool) (w' : World) (gl' cl' : Nat) (L' : List Bool) : Prop where
  len : L'.length = L.length
  map : MapAt w' b gm c L'
  row : BRow w' gl' cl' L'
  ne : gl' ≠ gm
  new : gl' = gl ∨ w.heap.size ≤ gl'
  kept : KeptB gm w w'
theorem BRow.keptB {w w' : World} {g c gm : Nat} {L : List Bool} (h : BRow w g c L) (hk : KeptB gm w w') (hne : g ≠ gm) : BRow w' g c L := h.at (hk.block g h.lt hne)
theorem ABox.keptB {W W' : World} {B gm : Nat} {K N F C : Int} (h : ABox W B K N F C) (hk : KeptB gm W W') (hne : B ≠ gm) : ABox W' B K N F C := (hk.block B h.lt hne).trans h

set_option maxHeartbeats 4000000 in
set_option maxRecDepth 100000 in
theorem do_any (b gm c gl cl : Nat) (L : List Bool) (K N F C : Int) (hF : F ≤ 9223372036854775807) (hC : C ≤ 9223372036854775807) (w : World) (hM : MapAt w b gm c L) (hR : BRow w gl cl L) (hne : gl ≠ gm) :
    Calls Try.prog 10 #[.pointer (some ⟨b, 0, none⟩), .slice (some ⟨gl, 0, none⟩) L.length cl, .agg #[.int .i64 K, .int .i64 N, .int .i64 F, .int .i64 C]] w fun e w' =>
      ∃ gl' cl' L', e = .returned (.tuple #[.slice (some ⟨gl', 0, none⟩) L.length cl', .bool true]) ∧ Both w b gm c gl L w' gl' cl' L' := by
  have hle := hM.le
  have hpos := hM.pos
  have hgml := hM.row.lt
  have hb1 : Below w.heap.size w (w.alloc (.cells #[.int .i64 K, .int .i64 N, .int .i64 F, .int .i64 C] 33)) := (Below.refl _ w).alloc (Nat.le_refl _) _
  have HM1 := hid (hM.below hb1)
  have HR1 := hid (hR.at (hb1.block gl hR.lt))
  have HX1 := hid (show ABox (w.alloc (.cells #[.int .i64 K, .int .i64 N, .int .i64 F, .int .i64 C] 33)) w.heap.size K N F C from heap_alloc_new _ _)
  have HB1 := hid hb1
  have hgl := hR.lt
  clear hM hR hb1
  by_cases hk0 : K = 0
  · subst hk0
    go_enter Try.func10, Try.ntmps10
    go_upto_region 1 with (fail)
    generalize w.alloc _ = w1 at *
    have x0 := HX1.out.c0
    have x1 := HX1.out.c1
    have x2 := HX1.out.c2
    have x3 := HX1.out.c3
    go_wp2_with fail
    refine (rtake_any gl cl L N w1 HR1.out hpos hle).mono ?_
    rintro e w2 (⟨hf, rfl, hb2⟩ | ⟨x, g', c', hN, hf, rfl, hr2, hg2, hb2⟩)
    · have HTK : Hid (∀ wx, MapAt wx b gm c L → Calls Try.prog 13 #[.pointer (some ⟨b, 0, none⟩), .int .i64 N] wx fun e w' => e = .returned (.tuple #[.agg #[.int .i64 0, .int .i64 0], .bool false]) ∧ MapAt w' b gm c L ∧ KeptB gm wx w') := fun wx hx => by
        by_cases hN : N < 1
        · refine (take0_any b N hN wx).mono ?_
          rintro e w' ⟨rfl, hb⟩
          exact ⟨rfl, hx.below hb, KeptB.of_below hb⟩
        · refine (take_any b gm c L N (by omega) wx hx).mono ?_
          rintro e w' (⟨_, rfl, h1, h2⟩ | ⟨y, h0, _⟩)
          · exact ⟨rfl, h1, h2⟩
          · rcases hf with hf | hf
            · exact absurd hf hN
            · rw [hf] at h0; cases h0
      have HR2 := hid (HR1.out.at (hb2.block gl HR1.out.lt))
      have HNE := hid hne
      have HNW := hid (show gl = gl ∨ w.heap.size ≤ gl from Or.inl rfl)
      have HLN := hid (show L.length = L.length from rfl)
      clear hf
      have HM2 := hid (HM1.out.below hb2)
      have HX2 := hid (HX1.out.below hb2)
      have HB2 := hid (HB1.out.trans (hb2.mono HB1.out.size))
      clear x0 x1 x2 x3 hb2 HM1 HR1 HX1 HB1
      go_upto_region 4 with (fail)
      generalize hw3 : w2.alloc _ = w3
      have hb3 : Below w2.heap.size w2 w3 := by rw [← hw3]; exact (Below.refl _ w2).alloc (Nat.le_refl _) _
      have HZ3 := hid (show w3.heap[w2.heap.size]? = some (.cells _ 31 (0, 0)) from by rw [← hw3]; exact heap_alloc_new _ _)
      have HM3 := hid (HM2.out.below hb3)
      have HX3 := hid (HX2.out.below hb3)
      have HR3 := hid (HR2.out.at (hb3.block _ HR2.out.lt))
      have HB3 := hid (HB2.out.trans (hb3.mono HB2.out.size))
      have y1 := HX3.out.c1
      have hs2 := HB2.out.size
      clear hw3 hb3 HM2 HX2 HR2 HB2
      generalize w2.heap.size = z at *
      go_wp2_with fail
      refine (HTK.out _ HM3.out).mono ?_
      rintro e w4 ⟨rfl, hm4, hk4⟩
      have hz4 := (hk4.block z (Array.getElem?_eq_some_iff.1 HZ3.out).1 (by omega)).trans HZ3.out
      have hzl := (Array.getElem?_eq_some_iff.1 hz4).1
      have z0 := fun O => (show RBox (w4.alloc O) z _ _ from (Below.heap_alloc w4 O z hzl).trans hz4).c0
      have z1 := fun O => (show RBox (w4.alloc O) z _ _ from (Below.heap_alloc w4 O z hzl).trans hz4).c1
      have HM4 := hid (fun O => hm4.below ((Below.refl w4.heap.size w4).alloc (Nat.le_refl _) O))
      have hr4 := HR3.out.keptB hk4 HNE.out
      have HR4 := hid (fun O => hr4.at (Below.heap_alloc w4 O _ hr4.lt))
      have HK4 := hid (fun O => ((KeptB.of_below HB3.out).trans hk4).trans (KeptB.of_below ((Below.refl w4.heap.size w4).alloc (Nat.le_refl _) O)))
      clear hm4 hk4 hz4 hr4 hzl HM3 HX3 HR3 HB3 HTK HZ3 y1
      go_wp2
      go_ret2
      exact ⟨gl, cl, L, rfl, ⟨by first | exact HLN.out | rfl, HM4.out _, HR4.out _, HNE.out, by first | exact HNW.out | exact Or.inl rfl, HK4.out _⟩⟩
    · have HTK : Hid (∀ wx, MapAt wx b gm c L → Calls Try.prog 13 #[.pointer (some ⟨b, 0, none⟩), .int .i64 N] wx fun e w' => e = .returned (.tuple #[.agg #[.int .i64 (x.1 : Int), .int .i64 N], .bool true]) ∧ MapAt w' b gm c (Al.setN L x.1 true N.toNat) ∧ KeptB gm wx w') := fun wx hx => by
        refine (take_any b gm c L N hN wx hx).mono ?_
        rintro e w' (⟨h0, _⟩ | ⟨y, h0, rfl, h1, h2⟩)
        · rw [hf] at h0; cases h0
        · rw [hf] at h0
          obtain rfl : x = y := Option.some.inj h0
          rw [Al.first_after L N hN x hf] at h1
          exact ⟨by rw [Al.first_ch L N hN x hf], h1, h2⟩
      have HR2 := hid hr2
      have hs1 := HB1.out.size
      have HNE := hid (show g' ≠ gm from by omega)
      have HNW := hid (show g' = gl ∨ w.heap.size ≤ g' from by omega)
      have HLN := hid (show (Al.setN L x.1 true N.toNat).length = L.length from Al.setN_length _ _ _ _)
      clear hf hr2
      generalize Al.setN L x.1 true N.toNat = L2 at *
      generalize (x.1 : Int) = f1 at *
      have HM2 := hid (HM1.out.below hb2)
      have HX2 := hid (HX1.out.below hb2)
      have HB2 := hid (HB1.out.trans (hb2.mono HB1.out.size))
      clear x0 x1 x2 x3 hb2 HM1 HR1 HX1 HB1
      go_upto_region 4 with (fail)
      generalize hw3 : w2.alloc _ = w3
      have hb3 : Below w2.heap.size w2 w3 := by rw [← hw3]; exact (Below.refl _ w2).alloc (Nat.le_refl _) _
      have HZ3 := hid (show w3.heap[w2.heap.size]? = some (.cells _ 31 (0, 0)) from by rw [← hw3]; exact heap_alloc_new _ _)
      have HM3 := hid (HM2.out.below hb3)
      have HX3 := hid (HX2.out.below hb3)
      have HR3 := hid (HR2.out.at (hb3.block _ HR2.out.lt))
      have HB3 := hid (HB2.out.trans (hb3.mono HB2.out.size))
      have y1 := HX3.out.c1
      have hs2 := HB2.out.size
      clear hw3 hb3 HM2 HX2 HR2 HB2
      generalize w2.heap.size = z at *
      go_wp2_with fail
      refine (HTK.out _ HM3.out).mono ?_
      rintro e w4 ⟨rfl, hm4, hk4⟩
      have hz4 := (hk4.block z (Array.getElem?_eq_some_iff.1 HZ3.out).1 (by omega)).trans HZ3.out
      have hzl := (Array.getElem?_eq_some_iff.1 hz4).1
      have z0 := fun O => (show RBox (w4.alloc O) z _ _ from (Below.heap_alloc w4 O z hzl).trans hz4).c0
      have z1 := fun O => (show RBox (w4.alloc O) z _ _ from (Below.heap_alloc w4 O z hzl).trans hz4).c1
      have HM4 := hid (fun O => hm4.below ((Below.refl w4.heap.size w4).alloc (Nat.le_refl _) O))
      have hr4 := HR3.out.keptB hk4 HNE.out
      have HR4 := hid (fun O => hr4.at (Below.heap_alloc w4 O _ hr4.lt))
      have HK4 := hid (fun O => ((KeptB.of_below HB3.out).trans hk4).trans (KeptB.of_below ((Below.refl w4.heap.size w4).alloc (Nat.le_refl _) O)))
      clear hm4 hk4 hz4 hr4 hzl HM3 HX3 HR3 HB3 HTK HZ3 y1
      go_wp2
      go_ret2
      exact ⟨g', c', L2, rfl, ⟨by first | exact HLN.out | rfl, HM4.out _, HR4.out _, HNE.out, by first | exact HNW.out | exact Or.inl rfl, HK4.out _⟩⟩
  · by_cases hk1 : K = 1
    · subst hk1
      obtain ⟨TT, hTT⟩ : ∃ TT, TT = true := ⟨_, rfl⟩
      have HMK := hid (fun wx hx => mark_any b gm c L F C hF wx hx)
      rw [← hTT] at HMK
      have HMK := HMK
      have HCH := hid (fun wx hx => rchange_any gl cl L F C hF hC TT wx hx hpos hle)
      have HLN := hid (Al.after_length L F C TT)
      go_enter Try.func10, Try.ntmps10
      go_upto_region 1 with (fail)
      generalize w.alloc _ = w1 at *
      have x0 := HX1.out.c0
      have x1 := HX1.out.c1
      have x2 := HX1.out.c2
      have x3 := HX1.out.c3
      generalize Al.ch L F C TT = q at *
      generalize Al.after L F C TT = L2 at *
      subst hTT
      go_wp2_with fail
      refine (HCH.out _ HR1.out).mono ?_
      rintro e w2 ⟨g', c', rfl, hr2, hg2, hb2⟩
      have HM2 := hid (HM1.out.below hb2)
      have HX2 := hid (HX1.out.below hb2)
      have HB2 := hid (HB1.out.trans (hb2.mono HB1.out.size))
      have HR2 := hid hr2
      have y2 := HX2.out.c2
      have y3 := HX2.out.c3
      have hs1 := HB1.out.size
      have hg'ne : g' ≠ gm := by omega
      have hqq : (q == q) = true := by cases q <;> rfl
      clear x0 x1 x2 x3 hr2 hb2 HM1 HR1 HX1 HB1
      go_wp2_with fail
      refine (HMK.out _ HM2.out).mono ?_
      rintro e w3 ⟨rfl, hm3, hk3⟩
      have HM3 := hid hm3
      have HR3 := hid (HR2.out.keptB hk3 hg'ne)
      have HK3 := hid ((KeptB.of_below HB2.out).trans hk3)
      clear hm3 hk3 HM2 HR2 HX2 HB2
      go_wp2
      go_ret2
      exact ⟨g', c', L2, by first | rfl | rw [HLN.out], ⟨HLN.out, HM3.out, HR3.out, hg'ne, by omega, HK3.out⟩⟩
    · obtain ⟨TT, hTT⟩ : ∃ TT, TT = false := ⟨_, rfl⟩
      have HMK := hid (fun wx hx => give_any b gm c L F C hF wx hx)
      rw [← hTT] at HMK
      have hkb0 : (K == 0) = false := by simp [hk0]
      have hkb1 : (K == 1) = false := by simp [hk1]
      have HCH := hid (fun wx hx => rchange_any gl cl L F C hF hC TT wx hx hpos hle)
      have HLN := hid (Al.after_length L F C TT)
      go_enter Try.func10, Try.ntmps10
      go_upto_region 1 with (fail)
      generalize w.alloc _ = w1 at *
      have x0 := HX1.out.c0
      have x1 := HX1.out.c1
      have x2 := HX1.out.c2
      have x3 := HX1.out.c3
      generalize Al.ch L F C TT = q at *
      generalize Al.after L F C TT = L2 at *
      subst hTT
      go_wp2_with fail
      refine (HCH.out _ HR1.out).mono ?_
      rintro e w2 ⟨g', c', rfl, hr2, hg2, hb2⟩
      have HM2 := hid (HM1.out.below hb2)
      have HX2 := hid (HX1.out.below hb2)
      have HB2 := hid (HB1.out.trans (hb2.mono HB1.out.size))
      have HR2 := hid hr2
      have y2 := HX2.out.c2
      have y3 := HX2.out.c3
      have hs1 := HB1.out.size
      have hg'ne : g' ≠ gm := by omega
      have hqq : (q == q) = true := by cases q <;> rfl
      clear x0 x1 x2 x3 hr2 hb2 HM1 HR1 HX1 HB1
      go_wp2_with fail
      refine (HMK.out _ HM2.out).mono ?_
      rintro e w3 ⟨rfl, hm3, hk3⟩
      have HM3 := hid hm3
      have HR3 := hid (HR2.out.keptB hk3 hg'ne)
      have HK3 := hid ((KeptB.of_below HB2.out).trans hk3)
      clear hm3 hk3 HM2 HR2 HX2 HB2
      go_wp2
      go_ret2
      exact ⟨g', c', L2, by first | rfl | rw [HLN.out], ⟨HLN.out, HM3.out, HR3.out, hg'ne, by omega, HK3.out⟩⟩
end Go.Proofs.Ytmlkbdkehoajaaa
