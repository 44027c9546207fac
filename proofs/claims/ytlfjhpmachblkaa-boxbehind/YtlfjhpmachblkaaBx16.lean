/-
  Layer 18: what the reference's Pack returns.
-/
import Derived.Test.YtlfjhpmachblkaaBx15
import Derived.Test.YtlfjhpmachblkaaRef6
namespace Go.Proofs.Ytlfjhpmachblkaa
open Go.ChangeShapes Go.WideShapes Go.ChangeAt Go.RowKit
open Go.Lib (hid)

set_option maxHeartbeats 600000 in
set_option maxRecDepth 100000 in
theorem rpack18_any (V X : Int) (v : Value) (L : List Bv.E) (w : World) (h : OwnB w 63 v L) (hl : L.length ≤ 1000) (hF : Bv.Fits V X L) :
    Calls Try.prog 36 #[rbV V X v] w fun e w' => e = .returned (.string (str (Bv.pack V X L))) ∧ Below w.heap.size w w' := by
  obtain ⟨ao, cap, rfl, hes⟩ := h.es
  have HA := hid hes
  have HF := hid hF
  have HNM := hid (fun (n : Int) (hn : n ≤ 9223372036854775807) wx => rnum_any n hn wx)
  clear h hes hF
  unfold rbV
  go_enter Try.func36, Try.ntmps36
  go_upto_region 1 with (fail)
  have HB0 := hid ((Below.refl w.heap.size w).alloc (Nat.le_refl _) (.cells #[.int .i64 V, .int .i64 X, .slice ao L.length cap] 28))
  have R0 := hid (show RbAt (w.alloc (.cells #[.int .i64 V, .int .i64 X, .slice ao L.length cap] 28)) w.heap.size V X (.slice ao L.length cap) from heap_alloc_new _ _)
  generalize w.alloc _ = w0 at *
  have hs0 : w0.heap.size ≤ w0.drew.heap.size := Nat.le_refl _
  refine wp_region_class (fun u => Below w0.heap.size w0 u) (by kernel_rfl) (by kernel_rfl) ((Below.refl _ _).drew) ?_
  intro Z φ hne hSφ hφ
  have HSZ := hid hSφ
  have c0 : ∀ z, (φ z).cell? ⟨w.heap.size, 0, none⟩ = some (.int .i64 V) := fun z => (R0.out.below (hSφ z)).c.1
  have c1 : ∀ z, (φ z).cell? ⟨w.heap.size, 1, none⟩ = some (.int .i64 X) := fun z => (R0.out.below (hSφ z)).c.2.1
  have c2 : ∀ z, (φ z).cell? ⟨w.heap.size, 2, none⟩ = some (.slice ao L.length cap) := fun z => (R0.out.below (hSφ z)).c.2.2
  have CC := hid (fun (n : Int) (hn : n ≤ 9223372036854775807) z => calls_class hφ ((HNM.out n hn (φ z)).mono fun e w' h => ⟨h.1, (hSφ z).trans (h.2.mono (hSφ z).size)⟩))
  have CV := hid (CC.out V HF.out.1)
  have CX := hid (CC.out X HF.out.2.1)
  have CL := hid (CC.out (L.length : Int) (by omega))
  have hap1 := str_append (Wx.num8 V.toNat) (Wx.num8 X.toNat)
  have hap2 := str_append (Wx.num8 V.toNat ++ Wx.num8 X.toNat) (Wx.num8 (L.length : Int).toNat)
  have z1 : (str (Wx.num8 V.toNat)).size = 8 := by rw [str_size, Wx.num8_length]
  have z2 : (str (Wx.num8 X.toNat)).size = 8 := by rw [str_size, Wx.num8_length]
  have z3 : (str (Wx.num8 (L.length : Int).toNat)).size = 8 := by rw [str_size, Wx.num8_length]
  have z4 : (str (Wx.num8 V.toNat ++ Wx.num8 X.toNat)).size = 16 := by rw [str_size, List.length_append, Wx.num8_length, Wx.num8_length]
  have hhd : Wx.num8 V.toNat ++ Wx.num8 X.toNat ++ Wx.num8 (L.length : Int).toNat = Wx.nums8 [V, X, (L.length : Int)] := by simp [Wx.nums8]
  rw [hhd] at hap2
  generalize hS0 : str (Wx.nums8 [V, X, (L.length : Int)]) = S0 at *
  have HS0 := hid hS0
  generalize str (Wx.num8 V.toNat ++ Wx.num8 X.toNat) = SVX at *
  generalize str (Wx.num8 V.toNat) = SV at *
  generalize str (Wx.num8 X.toNat) = SX at *
  generalize str (Wx.num8 (L.length : Int).toNat) = SL at *
  clear hSφ hφ CC hS0 hhd
  repeat (go_big_quiet_step (first | (go_at_call 48; first | with_reducible exact CV.out _ | with_reducible exact CX.out _ | with_reducible exact CL.out _)))
  refine wpQuiet_nil ?_
  intro z
  have HB1 := hid (HB0.out.trans ((HSZ.out z).mono HB0.out.size))
  have R1 := hid (R0.out.below (HSZ.out z))
  clear c0 c1 c2 CV CX CL hap1 hap2 z1 z2 z3 z4 HSZ hs0
  generalize φ z = w1 at *
  rw [← HS0.out]
  clear HS0
  obtain ⟨c0, c1, c2⟩ := R1.out.c
  go_upto_region 3 with (fail)
  clear c0 c1 c2
  go_loopw [3, 21] (fun x i wr => ∃ p : Nat, p ≤ L.length ∧ i = .int .i64 p ∧ x = .string (str (Wx.nums8 [V, X, (L.length : Int)] ++ Bv.ents8 (L.take p))) ∧ Below w.heap.size w wr)
    (fun _ i _ => L.length - (intOf i).toNat)
  case atStart => exact ⟨0, by omega, rfl, by simp [Bv.ents8], HB1.out⟩
  case round =>
    obtain ⟨p, hp, rfl, rfl, hb⟩ := hrel
    have HB := hid hb
    clear hb HB1 R1
    by_cases hlt : p < L.length
    · obtain ⟨g, rfl, q0, q1, q2⟩ := (HA.out.below HB.out) p hlt
      obtain ⟨f0, f1, f2⟩ := HF.out.2.2 p hlt
      have hst := Bv.ents8_succ L p hlt
      obtain ⟨⟨yu, yf, ym⟩, hy⟩ : ∃ y, L.getD p (0, 0, 0) = y := ⟨_, rfl⟩
      rw [hy] at q0 q1 q2 hst f0 f1 f2
      dsimp only at q0 q1 q2 f0 f1 f2
      have hapA := str_append (Wx.num8 yu.toNat) (Wx.num8 yf.toNat)
      have hapB := str_append (Wx.num8 yu.toNat ++ Wx.num8 yf.toNat) (Wx.num8 ym.toNat)
      rw [show Wx.num8 yu.toNat ++ Wx.num8 yf.toNat ++ Wx.num8 ym.toNat = Bv.ent8 (yu, yf, ym) from by simp [Bv.ent8, Wx.nums8]] at hapB
      have hapC := str_append (Wx.nums8 [V, X, (L.length : Int)] ++ Bv.ents8 (L.take p)) (Bv.ent8 (yu, yf, ym))
      rw [List.append_assoc, ← hst] at hapC
      have y1 : (str (Wx.num8 yu.toNat)).size = 8 := by rw [str_size, Wx.num8_length]
      have y2 : (str (Wx.num8 yf.toNat)).size = 8 := by rw [str_size, Wx.num8_length]
      have y3 : (str (Wx.num8 ym.toNat)).size = 8 := by rw [str_size, Wx.num8_length]
      have y4 : (str (Wx.num8 yu.toNat ++ Wx.num8 yf.toNat)).size = 16 := by rw [str_size, List.length_append, Wx.num8_length, Wx.num8_length]
      have y5 : (str (Bv.ent8 (yu, yf, ym))).size = 24 := by rw [str_size, Bv.ent8_len]
      have y6 : (str (Wx.nums8 [V, X, (L.length : Int)] ++ Bv.ents8 (L.take p))).size = 24 + 24 * p := by
        rw [str_size, List.length_append, Wx.nums8_length, Bv.ents8_len, List.length_take]
        simp only [List.length_cons, List.length_nil]
        omega
      go_upto_region 5 with (fail)
      have hb6 : Below wr.heap.size wr (wr.alloc (.cells #[.int .i64 yu, .int .i64 yf, .int .i64 ym] 63)) := (Below.refl wr.heap.size wr).alloc (Nat.le_refl _) _
      have hn6 : EntAt (wr.alloc (.cells #[.int .i64 yu, .int .i64 yf, .int .i64 ym] 63)) wr.heap.size 63 (yu, yf, ym) := heap_alloc_new _ _
      have E6 := hid hn6
      have HB6 := hid (HB.out.trans (hb6.mono HB.out.size))
      clear hn6 hb6 q0 q1 q2 hy HB
      generalize World.alloc _ _ = w6 at *
      refine wp_region_class (fun u => Below w6.heap.size w6 u) (by kernel_rfl) (by kernel_rfl) ((Below.refl _ _).drew) ?_
      intro Z2 ψ hne2 hSψ hψ
      have HSY := hid hSψ
      have d0 : ∀ z, (ψ z).cell? ⟨wr.heap.size, 0, none⟩ = some (.int .i64 yu) := fun z => (E6.out.below (hSψ z)).c.1
      have d1 : ∀ z, (ψ z).cell? ⟨wr.heap.size, 1, none⟩ = some (.int .i64 yf) := fun z => (E6.out.below (hSψ z)).c.2.1
      have d2 : ∀ z, (ψ z).cell? ⟨wr.heap.size, 2, none⟩ = some (.int .i64 ym) := fun z => (E6.out.below (hSψ z)).c.2.2
      have CC := hid (fun (n : Int) (hn : n ≤ 9223372036854775807) z => calls_class hψ ((HNM.out n hn (ψ z)).mono fun e w' h => ⟨h.1, (hSψ z).trans (h.2.mono (hSψ z).size)⟩))
      have CU := hid (CC.out yu f0)
      have CF := hid (CC.out yf f1)
      have CM := hid (CC.out ym f2)
      generalize hS1 : str (Wx.nums8 [V, X, (L.length : Int)] ++ Bv.ents8 (L.take (p + 1))) = S1 at *
      have HS1 := hid hS1
      generalize str (Wx.nums8 [V, X, (L.length : Int)] ++ Bv.ents8 (L.take p)) = S2 at *
      generalize str (Bv.ent8 (yu, yf, ym)) = S3 at *
      generalize str (Wx.num8 yu.toNat ++ Wx.num8 yf.toNat) = SUF at *
      generalize str (Wx.num8 yu.toNat) = SU at *
      generalize str (Wx.num8 yf.toNat) = SF at *
      generalize str (Wx.num8 ym.toNat) = SM at *
      clear hSψ hψ CC hS1 hst f0 f1 f2
      repeat (go_big_quiet_step (first | (go_at_call 48; first | with_reducible exact CU.out _ | with_reducible exact CF.out _ | with_reducible exact CM.out _)))
      refine wpQuiet_nil ?_
      intro z2
      have HB7 := hid (HB6.out.trans ((HSY.out z2).mono HB6.out.size))
      clear d0 d1 d2 CU CF CM HSY
      generalize ψ z2 = w7 at *
      go_wp2
      exact ⟨⟨p + 1, by omega, by go_num, by rw [HS1.out], HB7.out⟩, by simp [intOf]; omega⟩
    · obtain rfl : p = L.length := by omega
      rw [List.take_length]
      go_wp2
      go_ret
      exact ⟨rfl, HB.out⟩
end Go.Proofs.Ytlfjhpmachblkaa
