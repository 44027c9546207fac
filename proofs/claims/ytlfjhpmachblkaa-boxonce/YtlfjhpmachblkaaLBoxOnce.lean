/-
  No UID is given twice; entries rise; what is packed is read (law BoxOnce); for every input.
-/
import Derived.Test.YtlfjhpmachblkaaBx10
namespace Go.Proofs.Ytlfjhpmachblkaa
open Go.ChangeShapes Go.WideShapes Go.ChangeAt Go.RowKit
open Go.Lib (hid)

namespace BoxOnce
/-- Behind p acts. -/
structure Inv (p : Nat) (last X : Int) (L : List Bv.E) : Prop where
  good : Bv.Good 1 X L
  lt : last < X
  le : X ≤ (p : Int) + 1
  len : L.length ≤ p
theorem Inv.zero : Inv 0 0 1 [] := ⟨Bv.Good.new (by decide), by omega, by omega, by simp⟩
theorem Inv.sub {p : Nat} {last X : Int} {L K : List Bv.E} (h : Inv p last X L) (hg : Bv.Good 1 X K) (hl : K.length ≤ L.length) : Inv (p + 1) last X K := ⟨hg, h.lt, by have := h.le; omega, by have := h.len; omega⟩
theorem Inv.add {p : Nat} {last X : Int} {L : List Bv.E} (h : Inv p last X L) (hp : p < 50) {m f : Int} (hm : Bv.okc m = true) (hf : Bv.fl f = true) : Inv (p + 1) X (X + 1) (L ++ [(X, f, m)]) :=
  ⟨h.good.add hm hf (by have := h.len; omega) (by have := h.le; omega), by omega, by have := h.le; omega, by rw [List.length_append, List.length_singleton]; have := h.len; omega⟩
theorem add_ok {X : Int} {L : List Bv.E} {m f : Int} (hm : Bv.okc m = true) (hf : Bv.fl f = true) (hl : L.length < 256) :
    Bv.addE L m f = 0 ∧ Bv.addR X L m f = (X, f, m) ∧ Bv.addX X L m f = X + 1 ∧ Bv.addL X L m f = L ++ [(X, f, m)] := by
  have h1 : Bv.addE L m f = 0 := by unfold Bv.addE; rw [hm, hf, show (true && true) = true from rfl, if_pos rfl, if_pos hl]
  refine ⟨h1, ?_, ?_, ?_⟩
  · unfold Bv.addR; rw [h1, if_pos rfl]
  · unfold Bv.addX; rw [h1, if_pos rfl]
  · unfold Bv.addL; rw [h1, if_pos rfl]
theorem okm (j : Nat) (h : j ≤ 255) : Bv.okc ((j : Int) + 1) = true := by unfold Bv.okc; simp; omega
theorem okf (j : Nat) (h : j ≤ 31) : Bv.fl (j : Int) = true := by unfold Bv.fl; simp; omega
set_option maxHeartbeats 4000000 in
set_option maxRecDepth 100000 in
theorem walk (ao : Option Addr) (A : List Bv.A) (cap : Nat) (w : World) (hA : ActsX w ao A) :
    Calls Try.prog 4 #[.slice ao A.length cap] w fun e w' => e = .returned (.bool true) ∧ Below w.heap.size w w' := by
  have HW := hid (awake18_any w)
  have HN := hid (fun wx => bnew_any 1 1 (by decide) wx)
  have HA := hid hA
  clear hA
  go_enter Try.func4, Try.ntmps4
  go_wp2_with fail
  refine HW.out.mono ?_
  rintro e w0 ⟨rfl, hb0⟩
  go_wp2_with fail
  refine (HN.out _).mono ?_
  rintro e w1 ⟨rfl, hi1, hb1⟩
  have S1 := hid (show BxS w w1 w0.heap.size _ 1 1 [] from ⟨hi1, hb0.size, VFresh.nil _, hb0.trans (hb1.mono hb0.size)⟩)
  clear hi1 hb1 hb0 HW HN
  generalize w0.heap.size = b at *
  go_upto_region 8 with (fail)
  go_loopw [4, 5] (fun x i wr => ∃ (p : Nat) (last : Int) (v : Value) (X : Int) (L : List Bv.E), p ≤ A.length ∧ p ≤ 50 ∧ i = .int .i64 p ∧ x = .int .i64 last ∧ Inv p last X L ∧ BxS w wr b v 1 X L)
    (fun _ i _ => A.length - (intOf i).toNat)
  case atStart => exact ⟨0, 0, _, 1, [], by omega, by omega, rfl, rfl, Inv.zero, S1.out⟩
  case round =>
    obtain ⟨p, last, v, X, L, hpA, hp50, rfl, rfl, hinv, hs⟩ := hrel
    have S := hid hs
    have HI := hid hinv
    clear hs S1 hinv
    by_cases hlt : p < A.length
    · by_cases hl2 : p < 50
      · have hpi : (p : Int) < (A.length : Int) := by omega
        have hpi2 : (p : Int) < 50 := by omega
        obtain ⟨sb, so, rfl, c0, c1, c2, c3, c4⟩ := (HA.out.below S.out.bel) p hlt
        obtain ⟨⟨k, u, m, on, off⟩, hz⟩ : ∃ z, A.getD p Bv.A.z = z := ⟨_, rfl⟩
        rw [hz] at c0 c1 c2 c3 c4
        dsimp only at c0 c1 c2 c3 c4
        clear hz
        have HX0 := hid (show (wr.alloc (.cells #[.int .i64 k, .int .i64 u, .int .i64 m, .int .i64 on, .int .i64 off] 33)).heap[wr.heap.size]? = some (.cells #[.int .i64 k, .int .i64 u, .int .i64 m, .int .i64 on, .int .i64 off] 33 (0, 0)) from heap_alloc_new _ _)
        have SX := hid (S.out.below ((Below.refl _ wr).alloc (Nat.le_refl _) (.cells #[.int .i64 k, .int .i64 u, .int .i64 m, .int .i64 on, .int .i64 off] 33)))
        have d0 := cell_of_row _ wr.heap.size 0 _ _ _ HX0.out
        by_cases hk0 : k = 0
        · subst hk0
          obtain ⟨mj, hmj, hmn⟩ := and_le m 255 (by decide)
          rw [show ((255 : Nat) : Int) = 255 from rfl] at hmn
          have hmw : IntKind.i64.wrap (1 + (mj : Int)) = (mj : Int) + 1 := by rw [IntKind.wrap_i64]; omega
          obtain ⟨fj, hfj, hfn⟩ := and_le on 31 (by decide)
          rw [show ((31 : Nat) : Int) = 31 from rfl] at hfn
          have hlen := HI.out.len
          have ha := fun wx hx => badd_any b v 1 X L ((mj : Int) + 1) (fj : Int) wx hx (by omega) (by have := Bv.okc_le HI.out.good.x; omega)
          obtain ⟨k1, k2, k3, k4⟩ := add_ok (X := X) (L := L) (okm mj hmj) (okf fj hfj) (by omega)
          rw [k1, k2, k3, k4] at ha
          have HADD := hid ha
          have HI2 := hid (HI.out.add hl2 (okm mj hmj) (okf fj hfj))
          have hXl : ¬ X ≤ last := by have := HI.out.lt; omega
          clear ha k1 k2 k3 k4 HI hlen S
          unfold beV at HADD
          go_wp2_with fail
          refine (HADD.out _ SX.out.is).mono ?_
          rintro e w2 ⟨v2, rfl, hi2, hk2⟩
          have S2 := hid (SX.out.to hi2 hk2)
          clear hi2 hk2 SX HADD HX0
          have S3 := hid (S2.out.below ((Below.refl _ w2).alloc (Nat.le_refl _) (.cells #[.int .i64 X, .int .i64 (fj : Int), .int .i64 ((mj : Int) + 1)] 38)))
          clear S2
          go_upto_region 22 with (fail)
          generalize World.alloc w2 _ = w3 at *
          have hl3 := HI2.out.len
          have hg3 := hid HI2.out.good.up
          generalize L ++ [(X, (fj : Int), (mj : Int) + 1)] = LL at *
          have HLI := hid (list_any S3.out.is (by omega))
          obtain ⟨N, hN⟩ : ∃ N, LL.length = N := ⟨_, rfl⟩
          rw [hN] at hl3
          have HN := hid hN
          clear hN c0 c1 c2 c3 c4 d0
          go_wp2_with fail
          refine HLI.out.mono ?_
          rintro e w4 ⟨vl, rfl, ho4, _, hb4⟩
          obtain ⟨aol, capl, hvl⟩ := ownsRow_slice ho4
          rw [HN.out] at hvl
          subst hvl
          have S4 := hid (S3.out.below hb4)
          have HO4 := hid ho4
          clear ho4 hb4 HLI S3
          go_upto_region 24 with (fail)
          go_loopw [10] (fun i wq => ∃ q : Nat, 1 ≤ q ∧ (q ≤ N ∨ q = 1) ∧ i = .int .i64 q ∧ BxS w wq b v2 1 (X + 1) LL ∧ OwnB wq 38 (.slice aol N capl) LL) (fun i _ => N - (intOf i).toNat)
          case atStart => exact ⟨1, by omega, Or.inr rfl, rfl, S4.out, HO4.out⟩
          case round =>
            obtain ⟨q, hq1, hqN, rfl, hs, ho⟩ := hrel
            have S5 := hid hs
            have HO5 := hid ho
            clear hs S4 HO4
            by_cases hlq : q < N
            · obtain ⟨q', rfl⟩ : ∃ q', q = q' + 1 := ⟨q - 1, by omega⟩
              obtain ⟨ao', cap', he, hes⟩ := ho.es
              obtain rfl : aol = ao' := by injection he
              obtain ⟨g, rfl, x0, _, _⟩ := hes q' (by rw [HN.out]; omega)
              obtain ⟨g', hg', y0, _, _⟩ := hes (q' + 1) (by rw [HN.out]; exact hlq)
              obtain rfl : g = g' := by injection hg' with h; injection h
              have hup := hg3.out q' (q' + 1) (by omega) (by rw [HN.out]; exact hlq)
              generalize (LL.getD q' (0, 0, 0)).1 = x at *
              generalize (LL.getD (q' + 1) (0, 0, 0)).1 = y at *
              have hyx : ¬ y ≤ x := by omega
              have hqi : (q' : Int) + 1 < (N : Int) := by omega
              have hqi2 : (q' : Int) < (N : Int) := by omega
              have h0q : (0 : Int) ≤ (q' : Int) + 1 := by omega
              have hsub : (q' : Int) + 1 - 1 = (q' : Int) := by omega
              have hws : IntKind.i64.wrap (q' : Int) = (q' : Int) := by rw [IntKind.wrap_i64]; omega
              clear he hes hg' ho
              go_upto_region 26 with (fail)
              go_quiet (fail)
              have hbq : Below wr.heap.size wr (wr.drewN nq) := ⟨rfl, rfl, rfl, Nat.le_refl _, fun _ _ => rfl⟩
              go_wp2
              exact ⟨⟨q' + 1 + 1, by omega, by omega, by go_num, S5.out.below hbq, HO5.out.below hbq⟩, by simp [intOf]; omega⟩
            · clear ho
              go_wp2
              exact ⟨⟨p + 1, X, v2, (X + 1), LL, by omega, by omega, by go_num, rfl, HI2.out, S5.out⟩, by simp [intOf]; omega⟩
        · by_cases hk1 : k = 1
          · subst hk1
            obtain ⟨mj, hmj, hmn⟩ := and_le m 255 (by decide)
            rw [show ((255 : Nat) : Int) = 255 from rfl] at hmn
            have hmw : IntKind.i64.wrap (1 + (mj : Int)) = (mj : Int) + 1 := by rw [IntKind.wrap_i64]; omega
            obtain ⟨fj, hfj, hfn⟩ := and_le on 31 (by decide)
            rw [show ((31 : Nat) : Int) = 31 from rfl] at hfn
            have hlen := HI.out.len
            have ha := fun wx hx => badd_any b v 1 X L ((mj : Int) + 1) (fj : Int) wx hx (by omega) (by have := Bv.okc_le HI.out.good.x; omega)
            obtain ⟨k1, k2, k3, k4⟩ := add_ok (X := X) (L := L) (okm mj hmj) (okf fj hfj) (by omega)
            rw [k1, k2, k3, k4] at ha
            have HADD := hid ha
            have HI2 := hid (HI.out.add hl2 (okm mj hmj) (okf fj hfj))
            have hXl : ¬ X ≤ last := by have := HI.out.lt; omega
            clear ha k1 k2 k3 k4 HI hlen S
            unfold beV at HADD
            go_wp2_with fail
            refine (HADD.out _ SX.out.is).mono ?_
            rintro e w2 ⟨v2, rfl, hi2, hk2⟩
            have S2 := hid (SX.out.to hi2 hk2)
            clear hi2 hk2 SX HADD HX0
            have S3 := hid (S2.out.below ((Below.refl _ w2).alloc (Nat.le_refl _) (.cells #[.int .i64 X, .int .i64 (fj : Int), .int .i64 ((mj : Int) + 1)] 38)))
            clear S2
            go_upto_region 22 with (fail)
            generalize World.alloc w2 _ = w3 at *
            have hl3 := HI2.out.len
            have hg3 := hid HI2.out.good.up
            generalize L ++ [(X, (fj : Int), (mj : Int) + 1)] = LL at *
            have HLI := hid (list_any S3.out.is (by omega))
            obtain ⟨N, hN⟩ : ∃ N, LL.length = N := ⟨_, rfl⟩
            rw [hN] at hl3
            have HN := hid hN
            clear hN c0 c1 c2 c3 c4 d0
            go_wp2_with fail
            refine HLI.out.mono ?_
            rintro e w4 ⟨vl, rfl, ho4, _, hb4⟩
            obtain ⟨aol, capl, hvl⟩ := ownsRow_slice ho4
            rw [HN.out] at hvl
            subst hvl
            have S4 := hid (S3.out.below hb4)
            have HO4 := hid ho4
            clear ho4 hb4 HLI S3
            go_upto_region 24 with (fail)
            go_loopw [10] (fun i wq => ∃ q : Nat, 1 ≤ q ∧ (q ≤ N ∨ q = 1) ∧ i = .int .i64 q ∧ BxS w wq b v2 1 (X + 1) LL ∧ OwnB wq 38 (.slice aol N capl) LL) (fun i _ => N - (intOf i).toNat)
            case atStart => exact ⟨1, by omega, Or.inr rfl, rfl, S4.out, HO4.out⟩
            case round =>
              obtain ⟨q, hq1, hqN, rfl, hs, ho⟩ := hrel
              have S5 := hid hs
              have HO5 := hid ho
              clear hs S4 HO4
              by_cases hlq : q < N
              · obtain ⟨q', rfl⟩ : ∃ q', q = q' + 1 := ⟨q - 1, by omega⟩
                obtain ⟨ao', cap', he, hes⟩ := ho.es
                obtain rfl : aol = ao' := by injection he
                obtain ⟨g, rfl, x0, _, _⟩ := hes q' (by rw [HN.out]; omega)
                obtain ⟨g', hg', y0, _, _⟩ := hes (q' + 1) (by rw [HN.out]; exact hlq)
                obtain rfl : g = g' := by injection hg' with h; injection h
                have hup := hg3.out q' (q' + 1) (by omega) (by rw [HN.out]; exact hlq)
                generalize (LL.getD q' (0, 0, 0)).1 = x at *
                generalize (LL.getD (q' + 1) (0, 0, 0)).1 = y at *
                have hyx : ¬ y ≤ x := by omega
                have hqi : (q' : Int) + 1 < (N : Int) := by omega
                have hqi2 : (q' : Int) < (N : Int) := by omega
                have h0q : (0 : Int) ≤ (q' : Int) + 1 := by omega
                have hsub : (q' : Int) + 1 - 1 = (q' : Int) := by omega
                have hws : IntKind.i64.wrap (q' : Int) = (q' : Int) := by rw [IntKind.wrap_i64]; omega
                clear he hes hg' ho
                go_upto_region 26 with (fail)
                go_quiet (fail)
                have hbq : Below wr.heap.size wr (wr.drewN nq) := ⟨rfl, rfl, rfl, Nat.le_refl _, fun _ _ => rfl⟩
                go_wp2
                exact ⟨⟨q' + 1 + 1, by omega, by omega, by go_num, S5.out.below hbq, HO5.out.below hbq⟩, by simp [intOf]; omega⟩
              · clear ho
                go_wp2
                exact ⟨⟨p + 1, X, v2, (X + 1), LL, by omega, by omega, by go_num, rfl, HI2.out, S5.out⟩, by simp [intOf]; omega⟩
          · by_cases hk2 : k = 2
            · subst hk2
              obtain ⟨mj, hmj, hmn⟩ := and_le m 255 (by decide)
              rw [show ((255 : Nat) : Int) = 255 from rfl] at hmn
              have hmw : IntKind.i64.wrap (1 + (mj : Int)) = (mj : Int) + 1 := by rw [IntKind.wrap_i64]; omega
              obtain ⟨fj, hfj, hfn⟩ := and_le on 31 (by decide)
              rw [show ((31 : Nat) : Int) = 31 from rfl] at hfn
              have hlen := HI.out.len
              have ha := fun wx hx => badd_any b v 1 X L ((mj : Int) + 1) (fj : Int) wx hx (by omega) (by have := Bv.okc_le HI.out.good.x; omega)
              obtain ⟨k1, k2, k3, k4⟩ := add_ok (X := X) (L := L) (okm mj hmj) (okf fj hfj) (by omega)
              rw [k1, k2, k3, k4] at ha
              have HADD := hid ha
              have HI2 := hid (HI.out.add hl2 (okm mj hmj) (okf fj hfj))
              have hXl : ¬ X ≤ last := by have := HI.out.lt; omega
              clear ha k1 k2 k3 k4 HI hlen S
              unfold beV at HADD
              go_wp2_with fail
              refine (HADD.out _ SX.out.is).mono ?_
              rintro e w2 ⟨v2, rfl, hi2, hk2⟩
              have S2 := hid (SX.out.to hi2 hk2)
              clear hi2 hk2 SX HADD HX0
              have S3 := hid (S2.out.below ((Below.refl _ w2).alloc (Nat.le_refl _) (.cells #[.int .i64 X, .int .i64 (fj : Int), .int .i64 ((mj : Int) + 1)] 38)))
              clear S2
              go_upto_region 22 with (fail)
              generalize World.alloc w2 _ = w3 at *
              have hl3 := HI2.out.len
              have hg3 := hid HI2.out.good.up
              generalize L ++ [(X, (fj : Int), (mj : Int) + 1)] = LL at *
              have HLI := hid (list_any S3.out.is (by omega))
              obtain ⟨N, hN⟩ : ∃ N, LL.length = N := ⟨_, rfl⟩
              rw [hN] at hl3
              have HN := hid hN
              clear hN c0 c1 c2 c3 c4 d0
              go_wp2_with fail
              refine HLI.out.mono ?_
              rintro e w4 ⟨vl, rfl, ho4, _, hb4⟩
              obtain ⟨aol, capl, hvl⟩ := ownsRow_slice ho4
              rw [HN.out] at hvl
              subst hvl
              have S4 := hid (S3.out.below hb4)
              have HO4 := hid ho4
              clear ho4 hb4 HLI S3
              go_upto_region 24 with (fail)
              go_loopw [10] (fun i wq => ∃ q : Nat, 1 ≤ q ∧ (q ≤ N ∨ q = 1) ∧ i = .int .i64 q ∧ BxS w wq b v2 1 (X + 1) LL ∧ OwnB wq 38 (.slice aol N capl) LL) (fun i _ => N - (intOf i).toNat)
              case atStart => exact ⟨1, by omega, Or.inr rfl, rfl, S4.out, HO4.out⟩
              case round =>
                obtain ⟨q, hq1, hqN, rfl, hs, ho⟩ := hrel
                have S5 := hid hs
                have HO5 := hid ho
                clear hs S4 HO4
                by_cases hlq : q < N
                · obtain ⟨q', rfl⟩ : ∃ q', q = q' + 1 := ⟨q - 1, by omega⟩
                  obtain ⟨ao', cap', he, hes⟩ := ho.es
                  obtain rfl : aol = ao' := by injection he
                  obtain ⟨g, rfl, x0, _, _⟩ := hes q' (by rw [HN.out]; omega)
                  obtain ⟨g', hg', y0, _, _⟩ := hes (q' + 1) (by rw [HN.out]; exact hlq)
                  obtain rfl : g = g' := by injection hg' with h; injection h
                  have hup := hg3.out q' (q' + 1) (by omega) (by rw [HN.out]; exact hlq)
                  generalize (LL.getD q' (0, 0, 0)).1 = x at *
                  generalize (LL.getD (q' + 1) (0, 0, 0)).1 = y at *
                  have hyx : ¬ y ≤ x := by omega
                  have hqi : (q' : Int) + 1 < (N : Int) := by omega
                  have hqi2 : (q' : Int) < (N : Int) := by omega
                  have h0q : (0 : Int) ≤ (q' : Int) + 1 := by omega
                  have hsub : (q' : Int) + 1 - 1 = (q' : Int) := by omega
                  have hws : IntKind.i64.wrap (q' : Int) = (q' : Int) := by rw [IntKind.wrap_i64]; omega
                  clear he hes hg' ho
                  go_upto_region 26 with (fail)
                  go_quiet (fail)
                  have hbq : Below wr.heap.size wr (wr.drewN nq) := ⟨rfl, rfl, rfl, Nat.le_refl _, fun _ _ => rfl⟩
                  go_wp2
                  exact ⟨⟨q' + 1 + 1, by omega, by omega, by go_num, S5.out.below hbq, HO5.out.below hbq⟩, by simp [intOf]; omega⟩
                · clear ho
                  go_wp2
                  exact ⟨⟨p + 1, X, v2, (X + 1), LL, by omega, by omega, by go_num, rfl, HI2.out, S5.out⟩, by simp [intOf]; omega⟩
            · by_cases hk3 : k = 3
              · subst hk3
                have hr := fun wx hx => remove_any b v 1 X L u wx hx HI.out.good.up (by have := HI.out.len; omega)
                have HRM := hid hr
                have HI2 := hid (HI.out.sub (HI.out.good.rem u) (Bv.rem_len L u))
                clear hr HI S
                go_wp2_with fail
                refine (HRM.out _ SX.out.is).mono ?_
                rintro e w3 ⟨v2, rfl, hi2, hk2⟩
                have S3 := hid (SX.out.to hi2 hk2)
                clear hi2 hk2 SX HRM HX0
                go_upto_region 22 with (fail)
                have hl3 := HI2.out.len
                have hg3 := hid HI2.out.good.up
                generalize Bv.remL L u = LL at *
                have HLI := hid (list_any S3.out.is (by omega))
                obtain ⟨N, hN⟩ : ∃ N, LL.length = N := ⟨_, rfl⟩
                rw [hN] at hl3
                have HN := hid hN
                clear hN c0 c1 c2 c3 c4 d0
                go_wp2_with fail
                refine HLI.out.mono ?_
                rintro e w4 ⟨vl, rfl, ho4, _, hb4⟩
                obtain ⟨aol, capl, hvl⟩ := ownsRow_slice ho4
                rw [HN.out] at hvl
                subst hvl
                have S4 := hid (S3.out.below hb4)
                have HO4 := hid ho4
                clear ho4 hb4 HLI S3
                go_upto_region 24 with (fail)
                go_loopw [10] (fun i wq => ∃ q : Nat, 1 ≤ q ∧ (q ≤ N ∨ q = 1) ∧ i = .int .i64 q ∧ BxS w wq b v2 1 X LL ∧ OwnB wq 38 (.slice aol N capl) LL) (fun i _ => N - (intOf i).toNat)
                case atStart => exact ⟨1, by omega, Or.inr rfl, rfl, S4.out, HO4.out⟩
                case round =>
                  obtain ⟨q, hq1, hqN, rfl, hs, ho⟩ := hrel
                  have S5 := hid hs
                  have HO5 := hid ho
                  clear hs S4 HO4
                  by_cases hlq : q < N
                  · obtain ⟨q', rfl⟩ : ∃ q', q = q' + 1 := ⟨q - 1, by omega⟩
                    obtain ⟨ao', cap', he, hes⟩ := ho.es
                    obtain rfl : aol = ao' := by injection he
                    obtain ⟨g, rfl, x0, _, _⟩ := hes q' (by rw [HN.out]; omega)
                    obtain ⟨g', hg', y0, _, _⟩ := hes (q' + 1) (by rw [HN.out]; exact hlq)
                    obtain rfl : g = g' := by injection hg' with h; injection h
                    have hup := hg3.out q' (q' + 1) (by omega) (by rw [HN.out]; exact hlq)
                    generalize (LL.getD q' (0, 0, 0)).1 = x at *
                    generalize (LL.getD (q' + 1) (0, 0, 0)).1 = y at *
                    have hyx : ¬ y ≤ x := by omega
                    have hqi : (q' : Int) + 1 < (N : Int) := by omega
                    have hqi2 : (q' : Int) < (N : Int) := by omega
                    have h0q : (0 : Int) ≤ (q' : Int) + 1 := by omega
                    have hsub : (q' : Int) + 1 - 1 = (q' : Int) := by omega
                    have hws : IntKind.i64.wrap (q' : Int) = (q' : Int) := by rw [IntKind.wrap_i64]; omega
                    clear he hes hg' ho
                    go_upto_region 26 with (fail)
                    go_quiet (fail)
                    have hbq : Below wr.heap.size wr (wr.drewN nq) := ⟨rfl, rfl, rfl, Nat.le_refl _, fun _ _ => rfl⟩
                    go_wp2
                    exact ⟨⟨q' + 1 + 1, by omega, by omega, by go_num, S5.out.below hbq, HO5.out.below hbq⟩, by simp [intOf]; omega⟩
                  · clear ho
                    go_wp2
                    exact ⟨⟨p + 1, last, v2, X, LL, by omega, by omega, by go_num, rfl, HI2.out, S5.out⟩, by simp [intOf]; omega⟩
              · have g0 : (k == 0) = false := by simpa using hk0
                have g1 : (k == 1) = false := by simpa using hk1
                have g2 : (k == 2) = false := by simpa using hk2
                have g3 : (k == 3) = false := by simpa using hk3
                have hr := fun wx (hx : IsB wx b v 1 X L) => expunge_any hx (by have := HI.out.len; omega)
                have HRM := hid hr
                have HI2 := hid (HI.out.sub HI.out.good.left (Bv.left_len L))
                clear hr HI S
                go_wp2_with fail
                refine (HRM.out _ SX.out.is).mono ?_
                rintro e w3 ⟨vo, v2, rfl, hi2, _, _, hf2, hk2⟩
                have S3 := hid (SX.out.exp hi2 hk2 hf2)
                clear hi2 hk2 hf2 SX HRM HX0
                go_upto_region 22 with (fail)
                have hl3 := HI2.out.len
                have hg3 := hid HI2.out.good.up
                generalize Bv.left L = LL at *
                have HLI := hid (list_any S3.out.is (by omega))
                obtain ⟨N, hN⟩ : ∃ N, LL.length = N := ⟨_, rfl⟩
                rw [hN] at hl3
                have HN := hid hN
                clear hN c0 c1 c2 c3 c4 d0
                go_wp2_with fail
                refine HLI.out.mono ?_
                rintro e w4 ⟨vl, rfl, ho4, _, hb4⟩
                obtain ⟨aol, capl, hvl⟩ := ownsRow_slice ho4
                rw [HN.out] at hvl
                subst hvl
                have S4 := hid (S3.out.below hb4)
                have HO4 := hid ho4
                clear ho4 hb4 HLI S3
                go_upto_region 24 with (fail)
                go_loopw [10] (fun i wq => ∃ q : Nat, 1 ≤ q ∧ (q ≤ N ∨ q = 1) ∧ i = .int .i64 q ∧ BxS w wq b v2 1 X LL ∧ OwnB wq 38 (.slice aol N capl) LL) (fun i _ => N - (intOf i).toNat)
                case atStart => exact ⟨1, by omega, Or.inr rfl, rfl, S4.out, HO4.out⟩
                case round =>
                  obtain ⟨q, hq1, hqN, rfl, hs, ho⟩ := hrel
                  have S5 := hid hs
                  have HO5 := hid ho
                  clear hs S4 HO4
                  by_cases hlq : q < N
                  · obtain ⟨q', rfl⟩ : ∃ q', q = q' + 1 := ⟨q - 1, by omega⟩
                    obtain ⟨ao', cap', he, hes⟩ := ho.es
                    obtain rfl : aol = ao' := by injection he
                    obtain ⟨g, rfl, x0, _, _⟩ := hes q' (by rw [HN.out]; omega)
                    obtain ⟨g', hg', y0, _, _⟩ := hes (q' + 1) (by rw [HN.out]; exact hlq)
                    obtain rfl : g = g' := by injection hg' with h; injection h
                    have hup := hg3.out q' (q' + 1) (by omega) (by rw [HN.out]; exact hlq)
                    generalize (LL.getD q' (0, 0, 0)).1 = x at *
                    generalize (LL.getD (q' + 1) (0, 0, 0)).1 = y at *
                    have hyx : ¬ y ≤ x := by omega
                    have hqi : (q' : Int) + 1 < (N : Int) := by omega
                    have hqi2 : (q' : Int) < (N : Int) := by omega
                    have h0q : (0 : Int) ≤ (q' : Int) + 1 := by omega
                    have hsub : (q' : Int) + 1 - 1 = (q' : Int) := by omega
                    have hws : IntKind.i64.wrap (q' : Int) = (q' : Int) := by rw [IntKind.wrap_i64]; omega
                    clear he hes hg' ho
                    go_upto_region 26 with (fail)
                    go_quiet (fail)
                    have hbq : Below wr.heap.size wr (wr.drewN nq) := ⟨rfl, rfl, rfl, Nat.le_refl _, fun _ _ => rfl⟩
                    go_wp2
                    exact ⟨⟨q' + 1 + 1, by omega, by omega, by go_num, S5.out.below hbq, HO5.out.below hbq⟩, by simp [intOf]; omega⟩
                  · clear ho
                    go_wp2
                    exact ⟨⟨p + 1, last, v2, X, LL, by omega, by omega, by go_num, rfl, HI2.out, S5.out⟩, by simp [intOf]; omega⟩
      · obtain rfl : p = 50 := by omega
        have hji : (50 : Int) < (A.length : Int) := by omega
        rw [show ((50 : Nat) : Int) = 50 from rfl]
        clear HA
        have HP1 := hid (pack_any S.out.is (by have := HI.out.good.len; omega) HI.out.good.fits)
        have HGG := hid HI.out.good
        clear HI
        go_wp2_with fail
        refine HP1.out.mono ?_
        rintro e w2 ⟨rfl, hb2⟩
        have S2 := hid (S.out.below hb2)
        clear hb2 S HP1
        go_wp2_with fail
        refine (wof_any (str (Bv.pack 1 X L)) w2).mono ?_
        rintro e w3 ⟨rfl, hw3⟩
        have hb3 : Below w2.heap.size w2 w3 := by rw [hw3]; exact (Below.refl _ _).alloc (Nat.le_refl _) _
        have hin : InAt w3 w2.heap.size (Bv.pack 1 X L ++ [], 0) := by rw [hw3, List.append_nil]; exact heap_alloc_new _ _
        have S3 := hid (S2.out.below hb3)
        have HRD := hid (bread_any HGG.out (by simp) hin)
        have hbi : w2.heap.size ≠ b := by have := S2.out.is.lt; omega
        have hbv : some w2.heap.size ≠ v.ownBlock := fun e => by have := S2.out.is.own.lt e; omega
        have hs2 := S2.out.bel.size
        clear hw3 hb3 hin S2
        generalize w2.heap.size = i at *
        go_wp2_with fail
        refine HRD.out.mono ?_
        rintro e w4 ⟨c, vc, rfl, hR⟩
        have R4 := hid hR
        have S4 := hid (show BxS w w4 b v 1 X L from ⟨S3.out.is.kept hR.kept.q (by rintro k (rfl | hk) e; exact hbi e.symm; exact hbv (by rw [← e]; exact hk)), S3.out.fb, S3.out.fv, S3.out.bel.trans (hR.kept.below hs2 S3.out.bel.size)⟩)
        have HEN := hid (iend_any i [] 0 w4 hR.inn)
        have HP4 := hid (pack_any hR.is (by have := HGG.out.len; omega) HGG.out.fits)
        clear hR S3 HRD
        rw [if_pos rfl] at HEN
        go_wp2_with fail
        refine HEN.out.mono ?_
        rintro e wx ⟨rfl, rfl⟩
        go_wp2_with fail
        refine HP4.out.mono ?_
        rintro e w5 ⟨rfl, hb5⟩
        have S5 := hid (S4.out.below hb5)
        have HP5 := hid (pack_any S5.out.is (by have := HGG.out.len; omega) HGG.out.fits)
        clear hb5 S4 R4 HP4
        go_wp2_with fail
        refine HP5.out.mono ?_
        rintro e w6 ⟨rfl, hb6⟩
        have S6 := hid (S5.out.bel.trans (hb6.mono S5.out.bel.size))
        clear hb6 S5 HP5
        go_wp2
        go_ret
        exact ⟨by simp, S6.out⟩
    · obtain rfl : p = A.length := by omega
      clear HA
      have HP1 := hid (pack_any S.out.is (by have := HI.out.good.len; omega) HI.out.good.fits)
      have HGG := hid HI.out.good
      clear HI
      go_wp2_with fail
      refine HP1.out.mono ?_
      rintro e w2 ⟨rfl, hb2⟩
      have S2 := hid (S.out.below hb2)
      clear hb2 S HP1
      go_wp2_with fail
      refine (wof_any (str (Bv.pack 1 X L)) w2).mono ?_
      rintro e w3 ⟨rfl, hw3⟩
      have hb3 : Below w2.heap.size w2 w3 := by rw [hw3]; exact (Below.refl _ _).alloc (Nat.le_refl _) _
      have hin : InAt w3 w2.heap.size (Bv.pack 1 X L ++ [], 0) := by rw [hw3, List.append_nil]; exact heap_alloc_new _ _
      have S3 := hid (S2.out.below hb3)
      have HRD := hid (bread_any HGG.out (by simp) hin)
      have hbi : w2.heap.size ≠ b := by have := S2.out.is.lt; omega
      have hbv : some w2.heap.size ≠ v.ownBlock := fun e => by have := S2.out.is.own.lt e; omega
      have hs2 := S2.out.bel.size
      clear hw3 hb3 hin S2
      generalize w2.heap.size = i at *
      go_wp2_with fail
      refine HRD.out.mono ?_
      rintro e w4 ⟨c, vc, rfl, hR⟩
      have R4 := hid hR
      have S4 := hid (show BxS w w4 b v 1 X L from ⟨S3.out.is.kept hR.kept.q (by rintro k (rfl | hk) e; exact hbi e.symm; exact hbv (by rw [← e]; exact hk)), S3.out.fb, S3.out.fv, S3.out.bel.trans (hR.kept.below hs2 S3.out.bel.size)⟩)
      have HEN := hid (iend_any i [] 0 w4 hR.inn)
      have HP4 := hid (pack_any hR.is (by have := HGG.out.len; omega) HGG.out.fits)
      clear hR S3 HRD
      rw [if_pos rfl] at HEN
      go_wp2_with fail
      refine HEN.out.mono ?_
      rintro e wx ⟨rfl, rfl⟩
      go_wp2_with fail
      refine HP4.out.mono ?_
      rintro e w5 ⟨rfl, hb5⟩
      have S5 := hid (S4.out.below hb5)
      have HP5 := hid (pack_any S5.out.is (by have := HGG.out.len; omega) HGG.out.fits)
      clear hb5 S4 R4 HP4
      go_wp2_with fail
      refine HP5.out.mono ?_
      rintro e w6 ⟨rfl, hb6⟩
      have S6 := hid (S5.out.bel.trans (hb6.mono S5.out.bel.size))
      clear hb6 S5 HP5
      go_wp2
      go_ret
      exact ⟨by simp, S6.out⟩

set_option maxRecDepth 100000 in
theorem contract (H : Type) (enc : TypeId × Value → H) (W : World) (base : Nat) (args : Array Value) (ds gs : List (DataW H)) (before : List MemPlace)
    (hval : ∀ (j : Nat) t v, Try.f4.params[j]? = some t → args[j]? = some v → Value.okWide Try.prog W .any base t v)
    (hW : DataW.Whole enc Try.prog Try.f4.params.toList Rows.boxOnceSpec.vars false W args.toList ds gs before) (hL : laidMetH Try.prog Rows.boxOnceRow.laid W) :
    Calls Try.prog 4 args W fun e W' => ∃ v, e = .returned v ∧ Rows.boxOnceSpec.post enc Try.prog Try.f4 false true false false W args v W' := by
  have hW' := hW
  obtain ⟨p, q, hA0, hV, rfl, hfz, hnd⟩ := hW
  have hA : DataW.TrodAll enc Try.prog W 0 (fun _ => true) true Try.f4.params.toList args.toList ds p := hA0
  rw [Try.params4] at hA hval
  obtain ⟨v0, vs0, d0, ds0, p0, q0, hargs, rfl, rfl, h0, r0⟩ := trodAll_cons hA
  obtain ⟨rfl, rfl, rfl⟩ := trodAll_nil r0
  obtain rfl : args = #[v0] := by cases args; simp_all
  obtain ⟨ao0, L0, cap0, rfl, hR0, hL0⟩ := open_acts18 (hval 0 22 v0 rfl rfl) h0
  refine (walk ao0 L0 cap0 W hR0).mono fun e W' ⟨he, hb⟩ => ?_
  subst he
  exact ⟨_, rfl, law_post rfl rfl (by rw [Try.params4]; decide +kernel) hW' rfl hb⟩

theorem laid_met (os : Os) : laidMet Try.prog Rows.boxOnceRow.laid ((laidWorld os).forCall (fun _ _ => 0) ⟨#[], #[.slice none 0 0], []⟩).memory :=
  laidMet_of_run' 8 (by kernel_rfl) (by kernel_rfl)
theorem reads (os : Os) {H : Type} (enc : TypeId × Value → H) : ∃ places, DataW.whole enc Try.prog ((laidWorld os).forCall (fun _ _ => 0) ⟨#[], #[.slice none 0 0], []⟩).memory Try.f4.params.toList Rows.boxOnceSpec.vars false (#[.slice none 0 0] : Array Value).toList 8
    = some ([.nil], [], places) :=
  ⟨[], by kernel_rfl⟩

set_option maxRecDepth 100000 in
theorem lifted (os : Os) (started : os.Started) (H : Type) (enc : TypeId × Value → H) (F : Stop.Interp) :
    ReturnsInHanded {} Try.checked os 4 .any ((OpenSpec.ofChange Rows.boxOnceSpec).preRow enc Try.prog Try.f4 Rows.boxOnceRow.domain false Rows.boxOnceRow.laid) (((OpenSpec.ofChange Rows.boxOnceSpec).at F).post enc Try.prog Try.f4 false true false false) := by
  obtain ⟨places, hx⟩ := reads os enc
  refine returnsInHanded_of_row (C := Try.checked) (s := OpenSpec.ofChange Rows.boxOnceSpec) own started (by kernel_rfl) Try.func4
    (witness_row_at (enc := enc) (C := Try.checked) false (laidWorld os) #[.slice none 0 0] rfl (by kernel_rfl) (by kernel_rfl) (by kernel_rfl)
      (OpenSpec.preRow_of_cond 8 hx (by kernel_rfl) (fun k hk => by cases hk) (by kernel_rfl) (laid_met os))) ?_
  intro W base args ds gs before hval hW _ _ _ hL _ _
  exact contract H enc W base args ds gs before hval hW hL

theorem said : Rows.BoxOnceSaid :=
  OpenClaim.holds_of_cond 4 Try.f4 rfl rfl rfl rfl rfl rfl rfl ⟨rfl, rfl, rfl, rfl, rfl⟩ rfl rfl rfl rfl rfl (by kernel_rfl) Try.func4 (by kernel_rfl)
    (of_decide_eq_true (by kernel_rfl)) (by unfold Func.isWrapper; first | (rw [if_pos (by decide +kernel)]; kernel_rfl) | (rw [if_neg (by decide +kernel)]; exact ⟨rfl, rfl⟩))
    (fun os started H enc _ F => by rw [OpenClaim.pre_eq_preRow]; exact lifted os started H enc F)


end BoxOnce
theorem boxOnce_said : Rows.BoxOnceSaid := BoxOnce.said
end Go.Proofs.Ytlfjhpmachblkaa
