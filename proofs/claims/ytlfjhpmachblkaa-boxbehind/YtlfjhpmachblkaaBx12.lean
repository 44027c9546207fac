/-
  Layer 18: what the reference's Unseen, Expunge, Remove return.
-/
import Derived.Test.YtlfjhpmachblkaaBx11
import Derived.Test.YtlfjhpmachblkaaBxSf
namespace Go.Proofs.Ytlfjhpmachblkaa
open Go.ChangeShapes Go.WideShapes Go.ChangeAt Go.RowKit
open Go.Lib (hid)

/-- Flags, as a natural number. -/
theorem Bv.fl_nat {f : Int} (h : Bv.fl f = true) : ∃ n : Nat, n < 32 ∧ f = (n : Int) := ⟨f.toNat, by have := Bv.fl_le h; omega, by have := Bv.fl_le h; omega⟩
/-- All flags are sums of flags. -/
def Bv.Fls (L : List Bv.E) : Prop := ∀ i, i < L.length → Bv.fl (L.getD i (0, 0, 0)).2.1 = true

set_option maxHeartbeats 2000000 in
set_option maxRecDepth 100000 in
theorem runseen18_any (V X : Int) (v : Value) (L : List Bv.E) (w : World) (h : OwnB w 63 v L) (hf : Bv.Fls L) (hl : L.length ≤ 1000) :
    Calls Try.prog 35 #[rbV V X v] w fun e w' => e = .returned (.int .i64 (Bv.unseen L : Nat)) ∧ Below w.heap.size w w' := by
  obtain ⟨ao, cap, rfl, hes⟩ := h.es
  have HA := hid hes
  have HF := hid hf
  clear h hes hf
  obtain ⟨N, hN⟩ : ∃ N, Bv.unseen L = N := ⟨_, rfl⟩
  rw [hN]
  have HN := hid hN
  clear hN
  unfold rbV
  go_enter Try.func35, Try.ntmps35
  go_upto_region 3 with (fail)
  have HB0 := hid ((Below.refl w.heap.size w).alloc (Nat.le_refl _) (.cells #[.int .i64 V, .int .i64 X, .slice ao L.length cap] 28))
  generalize w.alloc _ = w0 at *
  go_loopw [3, 9] (fun n i wr => ∃ p : Nat, p ≤ L.length ∧ i = .int .i64 p ∧ n = .int .i64 (Bv.unseen (L.take p) : Nat) ∧ Below w.heap.size w wr)
    (fun _ i _ => L.length - (intOf i).toNat)
  case atStart => exact ⟨0, by omega, rfl, rfl, HB0.out⟩
  case round =>
    obtain ⟨p, hp, rfl, rfl, hb⟩ := hrel
    have HB := hid hb
    clear hb HB0
    by_cases hlt : p < L.length
    · obtain ⟨g, rfl, q0, q1, q2⟩ := (HA.out.below HB.out) p hlt
      have hst := Bv.count_step Bv.un L p hlt
      have hfp := HF.out p hlt
      obtain ⟨⟨yu, yf, ym⟩, hy⟩ : ∃ y, L.getD p (0, 0, 0) = y := ⟨_, rfl⟩
      rw [hy] at q0 q1 q2 hst hfp
      dsimp only at q0 q1 q2 hfp
      obtain ⟨k, hk, rfl⟩ := Bv.fl_nat hfp
      have hbd : Bv.unseen (L.take p) ≤ 1000 := Nat.le_trans (List.countP_le_length) (by rw [List.length_take]; omega)
      have hst2 : Bv.unseen (L.take (p + 1)) = Bv.unseen (L.take p) + if (k % 2 == 0) = true then 1 else 0 := by rw [← Bv.un_all k hk]; exact hst
      have HST := hid hst2
      have HB2 := hid (HB.out.trans (((Below.refl wr.heap.size wr).alloc (Nat.le_refl _) (.cells #[.int .i64 yu, .int .i64 (k : Int), .int .i64 ym] 63)).mono HB.out.size))
      have hrem : ((k : Int)).tmod 2 = ((k % 2 : Nat) : Int) := by rw [Int.tmod_eq_emod_of_nonneg (Int.natCast_nonneg k)]; omega
      have hrem2 : ((k : Int)) % 2 = ((k % 2 : Nat) : Int) := by omega
      clear hst hst2 hy hfp
      generalize Bv.unseen (L.take p) = n at *
      generalize k % 2 = z at *
      by_cases h0 : z = 0
      · subst h0
        go_wp2
        exact ⟨⟨p + 1, by omega, by go_num, by rw [HST.out]; go_num, HB2.out⟩, by simp [intOf]; omega⟩
      · have h1 : (z == 0) = false := by simpa using h0
        have h2 : ((z : Int) == 0) = false := by simpa using h0
        go_wp2
        exact ⟨⟨p + 1, by omega, by go_num, by rw [HST.out, h1]; rfl, HB2.out⟩, by simp [intOf]; omega⟩
    · obtain rfl : p = L.length := by omega
      rw [List.take_length, HN.out]
      go_wp2
      go_ret
      exact ⟨rfl, HB.out⟩

theorem RbAt.grown {w w' : World} {B : Nat} {V X : Int} {r v : Value} {l : List Bv.E} (h : RbAt w B V X r) (ho : OwnB w 63 v l) (hg : w.grownBy w' v.ownBlock) : RbAt w' B V X r := by
  refine (hg.block B h.lt (fun e => ?_)).trans h
  obtain ⟨cs, hv⟩ := ho.block e
  have := h
  unfold RbAt at this
  rw [hv] at this
  injection this with e
  injection e with _ e _
  exact absurd e (by decide)
theorem RbAt.other {w w' : World} {B k : Nat} {V X : Int} {r : Value} (h : RbAt w B V X r) (hk : KeptQ (fun j => j = k) w w') (hne : B ≠ k) : RbAt w' B V X r := (hk.block B h.lt hne).trans h
theorem OwnB.other {w w' : World} {k : Nat} {T : TypeId} {v : Value} {l : List Bv.E} (h : OwnB w T v l) (hk : KeptQ (fun j => j = k) w w') (hne : some k ≠ v.ownBlock) : OwnB w' T v l :=
  h.at fun g hg => hk.block g (h.lt hg) (fun e => hne (by rw [← e]; exact hg))
theorem RbAt.nown {w : World} {B : Nat} {V X : Int} {r v : Value} {l : List Bv.E} (h : RbAt w B V X r) (ho : OwnB w 63 v l) : some B ≠ v.ownBlock := by
  intro e
  obtain ⟨cs, hv⟩ := ho.block e
  have := h
  unfold RbAt at this
  rw [hv] at this
  injection this with e
  injection e with _ e _
  exact absurd e (by decide)
/-- An empty slice of its own. -/
theorem OwnB.empty {w : World} {T : TypeId} {g : Nat} (h : w.heap[g]? = some (.cells #[] T (0, 0))) : OwnB w T (.slice (some ⟨g, 0, none⟩) 0 0) [] :=
  ⟨rfl, Or.inr ⟨g, 0, #[], rfl, Nat.zero_le _, h, Nat.le_refl _, by unfold maxLen; omega, rfl, rfl⟩⟩
/-- Four new blocks. -/
theorem four_blocks (w : World) (o0 o1 o2 o3 : Obj) (W : World) (hW : (((w.alloc o0).alloc o1).alloc o2).alloc o3 = W) :
    W.heap[w.heap.size]? = some o0 ∧ W.heap[w.heap.size + 1]? = some o1 ∧ W.heap[w.heap.size + 1 + 1]? = some o2 ∧ W.heap[w.heap.size + 1 + 1 + 1]? = some o3 ∧ Below w.heap.size w W ∧ W.heap.size = w.heap.size + 1 + 1 + 1 + 1 := by
  subst hW
  refine ⟨?_, ?_, ?_, ?_, ((((Below.refl _ _).alloc (Nat.le_refl _) _).alloc (by simp) _).alloc (by simp <;> omega) _).alloc (by simp <;> omega) _, by simp⟩
  · rw [Below.heap_alloc _ _ _ (by simp <;> omega), Below.heap_alloc _ _ _ (by simp <;> omega), Below.heap_alloc _ _ _ (by simp), heap_alloc_new]
  · rw [Below.heap_alloc _ _ _ (by simp <;> omega), Below.heap_alloc _ _ _ (by simp)]
    have := heap_alloc_new (w.alloc o0) o1
    simpa using this
  · rw [Below.heap_alloc _ _ _ (by simp)]
    have := heap_alloc_new ((w.alloc o0).alloc o1) o2
    simpa using this
  · have := heap_alloc_new (((w.alloc o0).alloc o1).alloc o2) o3
    simpa using this
set_option maxHeartbeats 4000000 in
set_option maxRecDepth 100000 in
theorem rexpunge18_any (V X : Int) (v : Value) (L : List Bv.E) (w : World) (h : OwnB w 63 v L) (hf : Bv.Fls L) (hl : L.length ≤ 1000) :
    Calls Try.prog 32 #[rbV V X v] w fun e w' => ∃ vl vo, e = .returned (.tuple #[rbV V X vl, vo]) ∧ OwnB w' 63 vl (Bv.left L) ∧ OwnB w' 63 vo (Bv.gone L) ∧ Below w.heap.size w w' := by
  obtain ⟨ao, cap, rfl, hes⟩ := h.es
  have HA := hid hes
  have HF := hid hf
  clear h hes hf
  unfold rbV
  go_enter Try.func32, Try.ntmps32
  go_upto_region 4 with (fail)
  generalize hW0 : World.alloc _ _ = w0
  obtain ⟨b0, b1, b2, b3, hb0, hs0⟩ := four_blocks w _ _ _ _ w0 hW0
  have R00 : RbAt w0 w.heap.size V X (.slice ao L.length cap) := b0
  have R01 : RbAt w0 (w.heap.size + 1) 0 0 (.slice none 0 0) := b1
  clear hW0 b0 b1
  go_loopw [4, 5, 13] (fun vl vo i wr => ∃ p : Nat, p ≤ L.length ∧ i = .int .i64 p ∧ OwnB wr 63 vl (Bv.left (L.take p)) ∧ OwnB wr 63 vo (Bv.gone (L.take p)) ∧ VFresh w vl ∧ VFresh w vo ∧ (∀ k, some k = vo.ownBlock → some k ≠ vl.ownBlock) ∧ RbAt wr w.heap.size V X (.slice ao L.length cap) ∧ RbAt wr (w.heap.size + 1) 0 0 (.slice none 0 0) ∧ Below w.heap.size w wr)
    (fun _ _ i _ => L.length - (intOf i).toNat)
  case atStart => exact ⟨0, by omega, rfl, OwnB.empty b2, OwnB.empty b3, fun k hk => by have : k = w.heap.size + 1 + 1 := Option.some.inj hk; omega, fun k hk => by have : k = w.heap.size + 1 + 1 + 1 := Option.some.inj hk; omega, fun k hk he => by have h1 : k = w.heap.size + 1 + 1 + 1 := Option.some.inj hk; have h2 : k = w.heap.size + 1 + 1 := Option.some.inj he; omega, R00, R01, hb0⟩
  case round =>
    obtain ⟨p, hp, rfl, hlf, ho, hfl, hfo, hap, hr0, hr1, hb⟩ := hrel
    have HB := hid hb
    have HOO := hid ho
    have HOL := hid hlf
    have HFO := hid hfo
    have HFL := hid hfl
    have HAP := hid hap
    have R0 := hid hr0
    have R1 := hid hr1
    clear hb ho hlf hfo hfl hap hr0 hr1 b2 b3 R00 R01 hb0 hs0
    by_cases hlt : p < L.length
    · obtain ⟨g, rfl, q0, q1, q2⟩ := (HA.out.below HB.out) p hlt
      have hs1 := Bv.filter_step Bv.del L p hlt
      have hs2 := Bv.filter_step (fun e => !Bv.del e) L p hlt
      have hfp := HF.out p hlt
      obtain ⟨⟨yu, yf, ym⟩, hy⟩ : ∃ y, L.getD p (0, 0, 0) = y := ⟨_, rfl⟩
      rw [hy] at q0 q1 q2 hs1 hs2 hfp
      dsimp only at q0 q1 q2 hfp
      obtain ⟨k, hk, rfl⟩ := Bv.fl_nat hfp
      have hg1 : Bv.gone (L.take (p + 1)) = Bv.gone (L.take p) ++ if Bv.del (yu, (k : Int), ym) then [(yu, (k : Int), ym)] else [] := hs1
      have hg2 : Bv.left (L.take (p + 1)) = Bv.left (L.take p) ++ if (!Bv.del (yu, (k : Int), ym)) = true then [(yu, (k : Int), ym)] else [] := hs2
      have hk1 := Bv.gone_len (L.take p)
      have hk2 := Bv.left_len (L.take p)
      rw [List.length_take] at hk1 hk2
      rw [show Bv.del (yu, (k : Int), ym) = (k / 8 % 2 == 1) from Bv.del_all k hk] at hg1 hg2
      have HG1 := hid hg1
      have HG2 := hid hg2
      have HA2 := hid (show Below wr.heap.size wr ((wr.alloc (.cells #[.int .i64 yu, .int .i64 (k : Int), .int .i64 ym] 63)).alloc (.cells #[.int .i64 yu, .int .i64 (k : Int), .int .i64 ym] 63)) from ((Below.refl wr.heap.size wr).alloc (Nat.le_refl _) _).alloc (by simp) _)
      have HX := hid (show EntAt ((wr.alloc (.cells #[.int .i64 yu, .int .i64 (k : Int), .int .i64 ym] 63)).alloc (.cells #[.int .i64 yu, .int .i64 (k : Int), .int .i64 ym] 63)) (wr.heap.size + 1) 63 (yu, (k : Int), ym) from by
        have := heap_alloc_new (wr.alloc (.cells #[.int .i64 yu, .int .i64 (k : Int), .int .i64 ym] 63)) (.cells #[.int .i64 yu, .int .i64 (k : Int), .int .i64 ym] 63)
        simpa [EntAt] using this)
      have HB2 := hid (HB.out.trans (HA2.out.mono HB.out.size))
      have hquo : ((k : Int)).tdiv 8 = ((k / 8 : Nat) : Int) := by rw [Int.tdiv_eq_ediv_of_nonneg (Int.natCast_nonneg k)]; omega
      have hquo2 : ((k : Int)) / 8 = ((k / 8 : Nat) : Int) := by omega
      have hrem : (((k / 8 : Nat) : Int)).tmod 2 = ((k / 8 % 2 : Nat) : Int) := by rw [Int.tmod_eq_emod_of_nonneg (Int.natCast_nonneg _)]; omega
      have hrem2 : (((k / 8 : Nat) : Int)) % 2 = ((k / 8 % 2 : Nat) : Int) := by omega
      have hk8 : k / 8 ≤ 100 := by omega
      clear hs1 hs2 hg1 hg2 hy hfp
      generalize k / 8 = y8 at *
      generalize y8 % 2 = z at *
      by_cases h0 : z = 1
      · subst h0
        go_wp2_with (refine wpList_appEnt eRef rfl _ _ rfl _ (Bv.gone (L.take p)) rfl (OwnB.below HOO.out HA2.out) (wr.heap.size + 1) (yu, (k : Int), ym) rfl HX.out (by have := hk1; omega) ?_; intro v' w' ho' hg' hn'; have hbel := hid (HFO.out.below HB2.out hg'); have hother := hid (OwnB.grown (OwnB.below HOL.out HA2.out) hg' (fun k hk he => HAP.out k he hk)); have hfr := hid (HFO.out.next hn' HB2.out.size); have hrb := hid ((R0.out.below HA2.out).grown (OwnB.below HOO.out HA2.out) hg'); have hrc := hid ((R1.out.below HA2.out).grown (OwnB.below HOO.out HA2.out) hg'); have HO := hid ho'; have hnn := hid hn'; clear ho' hg' hn')
        refine ⟨⟨p + 1, by omega, by go_num, ?_, ?_, HFL.out, hfr.out, ?_, hrb.out, hrc.out, hbel.out⟩, by simp [intOf]; omega⟩
        · rw [HG2.out]; simpa using hother.out
        · rw [HG1.out]; exact HO.out
        · intro k hk he
          rcases hnn.out k hk with h1 | h1
          · exact HAP.out k h1 he
          · have := (OwnB.lt HOL.out he); have := HA2.out.size; omega
      · have h1 : (z == 1) = false := by simpa using h0
        have h2 : ((z : Int) == 1) = false := by simp; omega
        rw [h1] at HG1 HG2
        go_wp2_with (refine wpList_appEnt eRef rfl _ _ rfl _ (Bv.left (L.take p)) rfl (OwnB.below HOL.out HA2.out) (wr.heap.size + 1) (yu, (k : Int), ym) rfl HX.out (by have := hk2; omega) ?_; intro v' w' ho' hg' hn'; have hbel := hid (HFL.out.below HB2.out hg'); have hother := hid (OwnB.grown (OwnB.below HOO.out HA2.out) hg' HAP.out); have hfr := hid (HFL.out.next hn' HB2.out.size); have hrb := hid ((R0.out.below HA2.out).grown (OwnB.below HOL.out HA2.out) hg'); have hrc := hid ((R1.out.below HA2.out).grown (OwnB.below HOL.out HA2.out) hg'); have HO := hid ho'; have hnn := hid hn'; clear ho' hg' hn')
        refine ⟨⟨p + 1, by omega, by go_num, ?_, ?_, hfr.out, HFO.out, ?_, hrb.out, hrc.out, hbel.out⟩, by simp [intOf]; omega⟩
        · rw [HG2.out]; exact HO.out
        · rw [HG1.out]; simpa using hother.out
        · intro k hk he
          rcases hnn.out k he with h1 | h1
          · exact HAP.out k hk h1
          · have := (OwnB.lt HOO.out hk); have := HA2.out.size; omega
    · obtain rfl : p = L.length := by omega
      rw [List.take_length] at HOO HOL
      obtain ⟨aol, cpl, hvl⟩ := ownsRow_slice HOL.out
      obtain ⟨aoo, cpo, hvo⟩ := ownsRow_slice HOO.out
      subst hvl hvo
      obtain ⟨c0, c1, c2⟩ := R0.out.c
      have f2 := frozen_of_row wr _ 2 _ _ R0.out
      go_upto_region 11 with (fail)
      have hk4 : KeptQ (fun k => k = w.heap.size) wr (wr.setCell ⟨w.heap.size, 2, none⟩ (.slice aol (Bv.left L).length cpl)) := KeptQ.setCell _ _ _ rfl
      have hr4 : RbAt (wr.setCell ⟨w.heap.size, 2, none⟩ (.slice aol (Bv.left L).length cpl)) w.heap.size V X (.slice aol (Bv.left L).length cpl) := by
        unfold RbAt
        rw [heap_setCell_same _ _ 2 _ _ _ R0.out]
        rfl
      have R4 := hid hr4
      have R5 := hid (R1.out.other hk4 (by omega))
      have OL := hid (HOL.out.other hk4 (R0.out.nown HOL.out))
      have OO := hid (HOO.out.other hk4 (R0.out.nown HOO.out))
      have HB4 := hid (hk4.below2 HB.out (Nat.le_refl _))
      clear hk4 hr4 c0 c1 c2 f2 R0 R1 HOL HOO
      generalize World.setCell _ _ _ = w4 at *
      obtain ⟨c0, c1, c2⟩ := R4.out.c
      obtain ⟨⟨z0, s0⟩, f0, s1, f1, s2, f2⟩ := R5.out.wr
      go_wp2
      refine ret_rbs Try.results32 _ _ (w.heap.size + 1) V X (.slice aol (Bv.left L).length cpl) (.slice aoo (Bv.gone L).length cpo) ?_ (R5.out.set V X _) ?_ ?_ ?_
      · rfl
      · rfl
      · rfl
      have hk5 := set3_kept (w := w4) (B := w.heap.size + 1) (.int .i64 V) (.int .i64 X) (.slice aol (Bv.left L).length cpl)
      exact ⟨_, _, rfl, OL.out.other hk5 (R5.out.nown OL.out), OO.out.other hk5 (R5.out.nown OO.out), hk5.below2 HB4.out (by omega)⟩
end Go.Proofs.Ytlfjhpmachblkaa
