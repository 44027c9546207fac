/-
  Layer 18: Expunge.
-/
import Derived.Test.YtlfjhpmachblkaaBx4
namespace Go.Proofs.Ytlfjhpmachblkaa
open Go.ChangeShapes Go.WideShapes Go.ChangeAt Go.RowKit
open Go.Lib (hid)

namespace Bv
def gone (L : List E) : List E := L.filter del
def left (L : List E) : List E := L.filter fun e => !del e
theorem gone_len (L : List E) : (gone L).length ≤ L.length := List.length_filter_le _ _
theorem left_len (L : List E) : (left L).length ≤ L.length := List.length_filter_le _ _
end Bv
theorem VFresh.below {w w1 w2 : World} {v : Value} (h : VFresh w v) (hb : Below w.heap.size w w1) (hg : w1.grownBy w2 v.ownBlock) : Below w.heap.size w w2 :=
  hb.grown hg hb.size (fun k hk => h k hk.symm)
theorem OwnB.grown {w w' : World} {T : TypeId} {v v' : Value} {l : List Bv.E} (h : OwnB w T v l) (hg : w.grownBy w' v'.ownBlock) (hn : ∀ k, some k = v.ownBlock → some k ≠ v'.ownBlock) : OwnB w' T v l :=
  h.at fun g hg' => hg.block g (h.lt hg') (hn g hg')

set_option maxHeartbeats 2000000 in
set_option maxRecDepth 100000 in
theorem expunge_any {b : Nat} {v : Value} {V X : Int} {L : List Bv.E} {w : World} (h : IsB w b v V X L) (hl : L.length ≤ 1000) :
    Calls Try.prog 16 #[.pointer (some ⟨b, 0, none⟩)] w fun e w' => ∃ vo vl, e = .returned vo ∧ IsB w' b vl V X (Bv.left L) ∧ OwnB w' 38 vo (Bv.gone L) ∧ VFresh w vo ∧ VFresh w vl ∧ KeptQ (fun k => k = b) w w' := by
  have c2 := h.c2
  obtain ⟨ao, cap, rfl, hes⟩ := h.own.es
  have HA := hid hes
  have HI := hid h
  clear h hes
  go_enter Try.func16, Try.ntmps16
  go_upto_region 3 with (fail)
  go_loopw [3, 4, 12] (fun vo vl i wr => ∃ p : Nat, p ≤ L.length ∧ i = .int .i64 p ∧ OwnB wr 38 vo (Bv.gone (L.take p)) ∧ OwnB wr 38 vl (Bv.left (L.take p)) ∧ VFresh w vo ∧ VFresh w vl ∧ (∀ k, some k = vo.ownBlock → some k ≠ vl.ownBlock) ∧ Below w.heap.size w wr)
    (fun _ _ i _ => L.length - (intOf i).toNat)
  case atStart => exact ⟨0, by omega, rfl, OwnB.nil _ _, OwnB.nil _ _, VFresh.nil _, VFresh.nil _, (fun k hk => by cases hk), Below.refl _ _⟩
  case round =>
    obtain ⟨p, hp, rfl, ho, hlf, hfo, hfl, hap, hb⟩ := hrel
    have HB := hid hb
    have HOO := hid ho
    have HOL := hid hlf
    have HFO := hid hfo
    have HFL := hid hfl
    have HAP := hid hap
    clear hb ho hlf hfo hfl hap
    by_cases hlt : p < L.length
    · obtain ⟨g, rfl, q0, q1, q2⟩ := (HA.out.below HB.out) p hlt
      have hs1 := Bv.filter_step Bv.del L p hlt
      have hs2 := Bv.filter_step (fun e => !Bv.del e) L p hlt
      obtain ⟨⟨yu, yf, ym⟩, hy⟩ : ∃ y, L.getD p (0, 0, 0) = y := ⟨_, rfl⟩
      rw [hy] at q0 q1 q2 hs1 hs2
      dsimp only at q0 q1 q2
      have hg1 : Bv.gone (L.take (p + 1)) = Bv.gone (L.take p) ++ if Bv.del (yu, yf, ym) then [(yu, yf, ym)] else [] := hs1
      have hg2 : Bv.left (L.take (p + 1)) = Bv.left (L.take p) ++ if (!Bv.del (yu, yf, ym)) = true then [(yu, yf, ym)] else [] := hs2
      have hk1 := Bv.gone_len (L.take p)
      have hk2 := Bv.left_len (L.take p)
      rw [List.length_take] at hk1 hk2
      obtain ⟨z, hz⟩ : ∃ z, bits .and .i64 yf 8 = z := ⟨_, rfl⟩
      rw [show Bv.del (yu, yf, ym) = (z != 0) from by rw [← hz]; rfl] at hg1 hg2
      have HG1 := hid hg1
      have HG2 := hid hg2
      have HA2 := hid (show Below wr.heap.size wr ((wr.alloc (.cells #[.int .i64 yu, .int .i64 yf, .int .i64 ym] 38)).alloc (.cells #[.int .i64 yu, .int .i64 yf, .int .i64 ym] 38)) from ((Below.refl wr.heap.size wr).alloc (Nat.le_refl _) _).alloc (by simp) _)
      have HX := hid (show EntAt ((wr.alloc (.cells #[.int .i64 yu, .int .i64 yf, .int .i64 ym] 38)).alloc (.cells #[.int .i64 yu, .int .i64 yf, .int .i64 ym] 38)) (wr.heap.size + 1) 38 (yu, yf, ym) from by
        have := heap_alloc_new (wr.alloc (.cells #[.int .i64 yu, .int .i64 yf, .int .i64 ym] 38)) (.cells #[.int .i64 yu, .int .i64 yf, .int .i64 ym] 38)
        simpa [EntAt] using this)
      have HB2 := hid (HB.out.trans (HA2.out.mono HB.out.size))
      clear hs1 hs2 hg1 hg2 hy
      by_cases h0 : z = 0
      · subst h0
        go_wp2_with (refine wpList_appEnt eBox rfl _ _ rfl _ (Bv.left (L.take p)) rfl (OwnB.below HOL.out HA2.out) (wr.heap.size + 1) (yu, yf, ym) rfl HX.out (by have := hk2; omega) ?_; intro v' w' ho' hg' hn'; have hbel := hid (HFL.out.below HB2.out hg'); have hother := hid (OwnB.grown (OwnB.below HOO.out HA2.out) hg' HAP.out); have hfr := hid (HFL.out.next hn' HB2.out.size); have HO := hid ho'; have hnn := hid hn'; clear ho' hg' hn')
        refine ⟨⟨p + 1, by omega, by go_num, ?_, ?_, HFO.out, hfr.out, ?_, hbel.out⟩, by simp [intOf]; omega⟩
        · rw [HG1.out]; simpa using hother.out
        · rw [HG2.out]; exact HO.out
        · intro k hk he
          rcases hnn.out k he with h1 | h1
          · exact HAP.out k hk h1
          · have := (OwnB.lt HOO.out hk); have := HA2.out.size; omega
      · have h1 : (z != 0) = true := by simpa using h0
        rw [h1] at HG1 HG2
        go_wp2_with (refine wpList_appEnt eBox rfl _ _ rfl _ (Bv.gone (L.take p)) rfl (OwnB.below HOO.out HA2.out) (wr.heap.size + 1) (yu, yf, ym) rfl HX.out (by have := hk1; omega) ?_; intro v' w' ho' hg' hn'; have hbel := hid (HFO.out.below HB2.out hg'); have hother := hid (OwnB.grown (OwnB.below HOL.out HA2.out) hg' (fun k hk he => HAP.out k he hk)); have hfr := hid (HFO.out.next hn' HB2.out.size); have HO := hid ho'; have hnn := hid hn'; clear ho' hg' hn')
        refine ⟨⟨p + 1, by omega, by go_num, ?_, ?_, hfr.out, HFL.out, ?_, hbel.out⟩, by simp [intOf]; omega⟩
        · rw [HG1.out]; exact HO.out
        · rw [HG2.out]; simpa using hother.out
        · intro k hk he
          rcases hnn.out k hk with h1 | h1
          · exact HAP.out k h1 he
          · have := (OwnB.lt HOL.out he); have := HA2.out.size; omega
    · obtain rfl : p = L.length := by omega
      rw [List.take_length] at HOO HOL
      have HI1 := hid (HI.out.below HB.out)
      have c3 := HI1.out.c2
      have f3 := HI1.out.fr 2
      obtain ⟨aol, cpl, hvl⟩ := ownsRow_slice HOL.out
      obtain ⟨aoo, cpo, hvo⟩ := ownsRow_slice HOO.out
      subst hvl hvo
      go_wp2
      go_ret
      have hk4 : KeptQ (fun k => k = b) wr (wr.setCell ⟨b, 2, none⟩ (.slice aol (Bv.left L).length cpl)) := KeptQ.setCell _ _ _ rfl
      have hnb : ∀ v, VFresh w v → ∀ g, some g = v.ownBlock → ¬ g = b := fun v hv g hg e => by have := hv g hg; have := HI.out.lt; omega
      refine ⟨_, _, rfl, ⟨?_, HOL.out.at fun g hg => hk4.block g (HOL.out.lt hg) (hnb _ HFL.out g hg)⟩, HOO.out.at fun g hg => hk4.block g (HOO.out.lt hg) (hnb _ HFO.out g hg), HFO.out, HFL.out, (KeptQ.of_below HB.out).trans hk4⟩
      rw [heap_setCell_same _ b 2 _ _ _ HI1.out.row]
      rfl
end Go.Proofs.Ytlfjhpmachblkaa
