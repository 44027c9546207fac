/-
  Layer 9: what is asked of a disk; Arm, Write, Flush.
-/
import Derived.Test.YtkhkpcigjpibiaaDk6
import Derived.Conc.LoneSelectN
namespace Go.Proofs.Ytkhkpcigjpibiaa
open Go.ChangeShapes Go.WideShapes Go.ChangeAt Go.RowKit Go.Shelf
open Go.Conc
open Go.Lib (hid)

attribute [local go_sem] Oper.semAt_some

section
variable {w : World} {d gs c : Nat} {vv : Value} {D : Dv.D}
theorem IsD.reRow {w' : World} (h : IsD w d gs c vv D) (D' : Dv.D) (hP : D'.P = D.P) (hQ : D'.Q = D.Q) (hcap : D'.cap = D.cap) (hview : D'.view = D.view) (hot : ∀ k, k ≠ d → w'.heap[k]? = w.heap[k]?)
    (hrow : w'.heap[d]? = some (.cells (dkC gs c vv D') 65 (0, 0))) : IsD w' d gs c vv D' := by
  obtain ⟨n1, n2, n3, n4, n5, n6⟩ := h.ne
  obtain ⟨ss, rr, hc⟩ := h.ch
  obtain ⟨P, pc, Q, cap, cr, lf, mk, st, vw, sv⟩ := D'
  simp only at hP hQ hcap hview
  subst hP hQ hcap hview
  exact ⟨hrow, h.st.at (hot gs (Ne.symm n1)), ⟨ss, rr, (hot c (Ne.symm n2)).trans hc⟩, ownsRow_at h.vw (fun g hg => hot g (fun e => n4 (by rw [← e]; exact hg))), h.room, h.capb, h.pages, h.okQ⟩
set_option maxRecDepth 100000 in
theorem has_any (p : Int) (h : IsD w d gs c vv D) : Calls Try.prog 53 #[.pointer (some ⟨d, 0, none⟩), .int .i64 p] w fun e w' => e = .returned (.bool (decide (0 ≤ p ∧ p < D.P.length))) ∧ w' = w := by
  obtain ⟨c0, c1, c2, c3, c4, c5, c6, c7⟩ := dkC_cells h.row
  clear h
  by_cases h0 : 0 ≤ p
  · have e1 : (decide (0 ≤ p ∧ p < D.P.length)) = decide (p < D.P.length) := by simp [h0]
    rw [e1]
    go_enter Try.func53, Try.ntmps53
    go_wp2
    exact bodyPost_ret (results_tmp rfl _ _ _) rfl ⟨rfl, rfl⟩
  · have e1 : (decide (0 ≤ p ∧ p < D.P.length)) = false := by simp [h0]
    rw [e1]
    go_enter Try.func53, Try.ntmps53
    go_wp2
    exact bodyPost_ret (results_tmp rfl _ _ _) rfl ⟨rfl, rfl⟩
/-- Why a page can't be used. -/
def Dv.refuses (D : Dv.D) (p : Int) : Nat := if D.crashed then 11 else if 0 ≤ p ∧ p < D.P.length then 0 else 4
set_option maxRecDepth 100000 in
theorem refuses_any (p : Int) (h : IsD w d gs c vv D) : Calls Try.prog 47 #[.pointer (some ⟨d, 0, none⟩), .int .i64 p] w fun e w' => e = .returned (.int .i64 (Dv.refuses D p : Int)) ∧ w' = w := by
  have hhas := has_any p h
  obtain ⟨c0, c1, c2, c3, c4, c5, c6, c7⟩ := dkC_cells h.row
  clear h
  unfold Dv.refuses
  cases hcr : D.crashed with
  | true =>
    rw [hcr] at c2
    go_enter Try.func47, Try.ntmps47
    go_wp2
    exact bodyPost_ret (results_tmp rfl _ _ _) rfl ⟨rfl, rfl⟩
  | false =>
    rw [hcr] at c2
    by_cases hp : 0 ≤ p ∧ p < D.P.length
    · rw [if_neg (by simp), if_pos hp]
      rw [decide_eq_true hp] at hhas
      go_enter Try.func47, Try.ntmps47
      go_wp2_with (go_at_call 53; refine hhas.mono ?_; rintro e w1 ⟨rfl, hw1⟩; subst hw1)
      exact bodyPost_ret (results_tmp rfl _ _ _) rfl ⟨rfl, rfl⟩
    · rw [if_neg (by simp), if_neg hp]
      rw [decide_eq_false hp] at hhas
      go_enter Try.func47, Try.ntmps47
      go_wp2_with (go_at_call 53; refine hhas.mono ?_; rintro e w1 ⟨rfl, hw1⟩; subst hw1)
      exact bodyPost_ret (results_tmp rfl _ _ _) rfl ⟨rfl, rfl⟩
set_option maxRecDepth 100000 in
theorem pages_any (h : IsD w d gs c vv D) : Calls Try.prog 30 #[.pointer (some ⟨d, 0, none⟩)] w fun e w' => e = .returned (.int .i64 (D.P.length : Int)) ∧ w' = w := by
  obtain ⟨c0, c1, c2, c3, c4, c5, c6, c7⟩ := dkC_cells h.row
  clear h
  go_enter Try.func30, Try.ntmps30
  go_wp2
  exact bodyPost_ret (results_tmp rfl _ _ _) rfl ⟨rfl, rfl⟩
set_option maxRecDepth 100000 in
theorem crashed_any (h : IsD w d gs c vv D) : Calls Try.prog 20 #[.pointer (some ⟨d, 0, none⟩)] w fun e w' => e = .returned (.bool D.crashed) ∧ w' = w := by
  obtain ⟨c0, c1, c2, c3, c4, c5, c6, c7⟩ := dkC_cells h.row
  clear h
  go_enter Try.func20, Try.ntmps20
  go_wp2
  exact bodyPost_ret (results_tmp rfl _ _ _) rfl ⟨rfl, rfl⟩
set_option maxRecDepth 100000 in
theorem steps_any (h : IsD w d gs c vv D) : Calls Try.prog 24 #[.pointer (some ⟨d, 0, none⟩)] w fun e w' => e = .returned (.int .i64 (D.steps : Int)) ∧ w' = w := by
  obtain ⟨c0, c1, c2, c3, c4, c5, c6, c7⟩ := dkC_cells h.row
  clear h
  go_enter Try.func24, Try.ntmps24
  go_wp2
  exact bodyPost_ret (results_tmp rfl _ _ _) rfl ⟨rfl, rfl⟩
set_option maxRecDepth 100000 in
theorem cached_any (h : IsD w d gs c vv D) : Calls Try.prog 22 #[.pointer (some ⟨d, 0, none⟩)] w fun e w' => e = .returned (.int .i64 (D.Q.length : Int)) ∧ w' = w := by
  obtain ⟨c0, c1, c2, c3, c4, c5, c6, c7⟩ := dkC_cells h.row
  obtain ⟨ss, rr, hc⟩ := h.ch
  clear h
  have hl := run_len_chan (P := Try.prog) 63 3 Try.underlying63 hc
  go_enter Try.func22, Try.ntmps22
  go_wp2
  exact bodyPost_ret (results_tmp rfl _ _ _) rfl ⟨rfl, rfl⟩
set_option maxRecDepth 100000 in
theorem arm_any (n : Int) (m : Nat) (h : IsD w d gs c vv D) : Calls Try.prog 19 #[.pointer (some ⟨d, 0, none⟩), .int .i64 n, .int .u64 (m : Int)] w fun e w' => e = .returned (.tuple #[]) ∧ IsD w' d gs c vv { D with left := max (-1) n, mask := m } ∧ KeptQ (fun k => k = d) w w' := by
  obtain ⟨c0, c1, c2, c3, c4, c5, c6, c7⟩ := dkC_cells h.row
  have f3 := frozen_of_row w d 3 _ _ h.row
  have f4 := frozen_of_row w d 4 _ _ h.row
  have HH := hid h
  clear h
  go_enter Try.func19, Try.ntmps19
  go_wp2
  refine bodyPost_end (results_none rfl _ _ _) rfl ⟨rfl, HH.out.reRow _ rfl rfl rfl rfl (fun k hk => ?_) ?_, ?_⟩
  · rw [heap_setCell_other _ ⟨d, 4, none⟩ k _ hk, heap_setCell_other _ ⟨d, 3, none⟩ k _ hk]
  · rw [heap_setCell_same _ d 4 _ _ _ (heap_setCell_same _ d 3 _ _ _ HH.out.row)]
    rfl
  · have k1 : KeptQ (fun k => k = d) w (w.setCell ⟨d, 3, none⟩ (.int .i64 (max (-1) n))) := KeptQ.setCell _ _ _ rfl
    exact k1.trans (KeptQ.setCell _ _ _ rfl)
end
end Go.Proofs.Ytkhkpcigjpibiaa
