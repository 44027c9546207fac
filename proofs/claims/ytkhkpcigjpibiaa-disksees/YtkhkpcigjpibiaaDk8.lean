/-
  Layer 9: Write, Flush.
-/
import Derived.Test.YtkhkpcigjpibiaaDk7
namespace Go.Proofs.Ytkhkpcigjpibiaa
open Go.ChangeShapes Go.WideShapes Go.ChangeAt Go.RowKit Go.Shelf
open Go.Conc
open Go.Lib (hid)

attribute [local go_sem] Oper.semAt_some

namespace Dv
def write (D : Dv.D) (p : Int) (s : ByteArray) : Dv.D × Nat :=
  if Dv.refuses D p ≠ 0 then (D, Dv.refuses D p)
  else if s.size ≠ 256 then (D, 4)
  else if (step D (1, p.toNat, s)).2 = false then ((step D (1, p.toNat, s)).1, 11)
  else (add (step D (1, p.toNat, s)).1 (1, p.toNat, s), 0)
end Dv
section
variable {d gs c : Nat} {vv : Value} {D : Dv.D}
theorem IsD.fresh {w : World} (h : IsD w d gs c vv D) {k : Nat} (hk : w.heap.size ≤ k) : ¬ dkB d gs c vv k := by
  rintro (rfl | rfl | rfl | hk')
  · have := h.ltd; omega
  · have := h.st.lt; omega
  · have := h.ltc; omega
  · obtain ⟨cs, hv⟩ := h.vblock hk'
    have := (Array.getElem?_eq_some_iff.1 hv).1
    omega
theorem Dv.step_P (o : Dv.O) (h : D.left ≠ 0) : (Dv.step D o).1.P = D.P ∧ (Dv.step D o).1.cap = D.cap := by
  unfold Dv.step
  rw [if_neg h]
  exact ⟨rfl, rfl⟩

set_option maxHeartbeats 4000000 in
set_option maxRecDepth 100000 in
theorem write_any (hF : Dv.Fit D) (hcp : 0 < D.cap) (p : Int) (s : ByteArray) (w : World) (h : IsD w d gs c vv D) :
    Calls Try.prog 17 #[.pointer (some ⟨d, 0, none⟩), .int .i64 p, .string s] w fun e w' => ∃ vv', e = .returned (.int .i64 ((Dv.write D p s).2 : Int)) ∧ IsD w' d gs c vv' (Dv.write D p s).1 ∧ DkTo w d gs c vv w' vv' := by
  have HH := hid h
  have HF := hid hF
  have href := refuses_any p h
  clear h hF
  by_cases h0 : Dv.refuses D p = 0
  · rw [h0] at href
    by_cases hs : s.size = 256
    · have hp : 0 ≤ p ∧ p < D.P.length := by
        unfold Dv.refuses at h0
        split at h0
        · cases h0
        · split at h0
          · assumption
          · cases h0
      obtain ⟨n, rfl⟩ : ∃ n : Nat, p = n := ⟨p.toNat, by omega⟩
      have hwr : Dv.write D n s = if (Dv.step D (1, n, s)).2 = false then ((Dv.step D (1, n, s)).1, 11) else (Dv.add (Dv.step D (1, n, s)).1 (1, n, s), 0) := by
        unfold Dv.write
        rw [if_neg (by simp [h0]), if_neg (by simp [hs]), Int.toNat_natCast]
      have hs' : (s.size : Int) = 256 := by omega
      have HST := hid (fun (w1 : World) (h1 : IsD w1 d gs c vv D) => step_any d gs c vv D HF.out (1, n, s) w1 h1)
      have HAD := hid (fun (hl : D.left ≠ 0) (vv' : Value) (w1 : World) (h1 : IsD w1 d gs c vv' (Dv.step D (1, n, s)).1) => add_any d gs c vv' (Dv.step D (1, n, s)).1 (1, n, s) (by rw [(Dv.step_P _ hl).1]; have := hp.2; simp only; omega) (by rw [(Dv.step_P _ hl).2]; exact hcp) w1 h1)
      have HWR := hid hwr
      clear hwr
      go_enter Try.func17, Try.ntmps17
      go_wp2_with (first
        | (go_at_call 47; refine href.mono ?_; rintro e w1 ⟨rfl, hw1⟩; subst hw1))
      have HNW := hid (heap_alloc_new w1 (.cells #[.int .i64 1, .int .i64 (n : Int), .string s] 78))
      have hbl : Below w1.heap.size w1 (w1.alloc (.cells #[.int .i64 1, .int .i64 (n : Int), .string s] 78)) := (Below.refl _ _).alloc (Nat.le_refl _) _
      refine (HST.out _ (HH.out.below hbl)).mono ?_
      rintro e w2 ⟨vv2, rfl, hd2, hk2⟩
      have hB2 : w2.heap[w1.heap.size]? = some (.cells (opC (1, n, s)) 78 (0, 0)) := (hk2.1.block w1.heap.size (by rw [World.size_alloc]; omega) (HH.out.fresh (Nat.le_refl _))).trans HNW.out
      have HK2 := hid ((DkTo.below hbl).trans hk2)
      have HD2 := hid hd2
      clear hk2 hd2 HNW hbl
      by_cases hl : D.left = 0
      · have hst : Dv.step D (1, n, s) = (Dv.crash D, false) := if_pos hl
        rw [show (Dv.step D (1, n, s)).2 = false from by rw [hst]]
        have hwr := HWR.out
        rw [if_pos (by rw [hst])] at hwr
        go_wp2
        exact bodyPost_ret (results_tmp rfl _ _ _) rfl ⟨vv2, by rw [hwr]; rfl, by rw [hwr]; exact HD2.out, HK2.out⟩
      · have hst : (Dv.step D (1, n, s)).2 = true := by unfold Dv.step; rw [if_neg hl]
        rw [hst]
        have hwr := HWR.out
        rw [if_neg (by rw [hst]; simp)] at hwr
        obtain ⟨o0, o1, o2⟩ := opRow_cells hB2
        go_wp2_with (go_at_call 49; refine (HAD.out hl vv2 w2 HD2.out).mono ?_; rintro e w3 ⟨rfl, hd3, hk3⟩)
        refine bodyPost_ret (results_tmp rfl _ _ _) rfl ⟨vv2, by rw [hwr]; rfl, by rw [hwr]; exact hd3, HK2.out.trans (DkTo.of hk3 ?_)⟩
        rintro k (rfl | rfl)
        · exact Or.inr (Or.inl rfl)
        · exact Or.inr (Or.inr (Or.inl rfl))
    · have hwr : Dv.write D p s = (D, 4) := by
        unfold Dv.write
        rw [if_neg (by simp [h0]), if_pos hs]
      rw [hwr]
      have hs' : ((s.size : Int) != 256) = true := by simp; omega
      go_enter Try.func17, Try.ntmps17
      go_wp2_with (first
        | (go_at_call 47; refine href.mono ?_; rintro e w1 ⟨rfl, hw1⟩; subst hw1))
      exact bodyPost_ret (results_tmp rfl _ _ _) rfl ⟨vv, rfl, HH.out, DkTo.refl _ _ _ _ _⟩
  · have hwr : Dv.write D p s = (D, Dv.refuses D p) := by
      unfold Dv.write
      rw [if_pos h0]
    rw [hwr]
    generalize Dv.refuses D p = r at *
    have h0' : ((r : Int) != 0) = true := by simp; omega
    go_enter Try.func17, Try.ntmps17
    go_wp2_with (first
      | (go_at_call 47; refine href.mono ?_; rintro e w1 ⟨rfl, hw1⟩; subst hw1))
    exact bodyPost_ret (results_tmp rfl _ _ _) rfl ⟨vv, rfl, HH.out, DkTo.refl _ _ _ _ _⟩
end
end Go.Proofs.Ytkhkpcigjpibiaa
