/-
  Layer 9: a write comes into the cache.
-/
import Derived.Test.YtkhkpcigjpibiaaDk0
namespace Go.Proofs.Ytkhkpcigjpibiaa
open Go.ChangeShapes Go.WideShapes Go.ChangeAt Go.RowKit
open Go.Conc
open Go.Lib (hid)

namespace Dv
/-- A write comes: with no room the eldest one becomes stable. -/
def add (D : Dv.D) (o : O) : Dv.D :=
  if D.Q.length < D.cap then { D with Q := D.Q ++ [o] }
  else match D.Q with
    | q :: r => { D with P := D.P.set q.2.1 q.2.2, Q := r ++ [o] }
    | [] => D
end Dv

set_option maxHeartbeats 1000000 in
set_option maxRecDepth 100000 in
theorem add_any (d gs c : Nat) (vv : Value) (D : Dv.D) (o : Dv.O) (ho : o.2.1 < D.P.length) (hcp : 0 < D.cap) (w : World) (h : IsD w d gs c vv D) :
    Calls Try.prog 49 #[.pointer (some ⟨d, 0, none⟩), opV o] w fun e w' => e = .returned (.tuple #[]) ∧ IsD w' d gs c vv (Dv.add D o) ∧ KeptQ (fun k => k = gs ∨ k = c) w w' := by
  obtain ⟨D', hD'⟩ : ∃ D', D' = Dv.add D o := ⟨_, rfl⟩
  rw [← hD']
  have HD := hid hD'
  have HH := hid h
  have hne := hid h.ne
  clear h hD'
  unfold opV opC
  go_enter Try.func49, Try.ntmps49
  go_upto_region 1 with (fail)
  have hk0 : KeptQ (fun k => k = gs ∨ k = c) w (w.alloc (.cells #[.int .i64 (o.1 : Int), .int .i64 (o.2.1 : Int), .string o.2.2] 78)) := KeptQ.alloc _ _
  have HA0 := hid (heap_alloc_new w (.cells #[.int .i64 (o.1 : Int), .int .i64 (o.2.1 : Int), .string o.2.2] 78))
  have H0 := hid (HH.out.below ((Below.refl _ w).alloc (Nat.le_refl _) (.cells #[.int .i64 (o.1 : Int), .int .i64 (o.2.1 : Int), .string o.2.2] 78)))
  have hwg : w.heap.size ≠ gs := by have := HH.out.st.lt; omega
  have hwc : w.heap.size ≠ c := by have := HH.out.ltc; omega
  generalize w.alloc _ = w0 at *
  have HK0 := hid hk0
  clear hk0
  obtain ⟨_, c1, _, _, _, _, _, _⟩ := dkC_cells H0.out.row
  have e0 : w0.cell? ⟨w.heap.size, 0, none⟩ = some (.int .i64 (o.1 : Int)) := by rw [cell_of_row _ _ _ _ _ _ HA0.out]; rfl
  have e1 : w0.cell? ⟨w.heap.size, 1, none⟩ = some (.int .i64 (o.2.1 : Int)) := by rw [cell_of_row _ _ _ _ _ _ HA0.out]; rfl
  have e2 : w0.cell? ⟨w.heap.size, 2, none⟩ = some (.string o.2.2) := by rw [cell_of_row _ _ _ _ _ _ HA0.out]; rfl
  go_upto_region 3 with (fail)
  by_cases hrm : D.Q.length < D.cap
  · obtain ⟨s, r, hc⟩ := H0.out.ch
    refine wp_region_to ?_
    refine listTo_comm rfl (cases := #[scase c (opV o) (opV (0, 0, ⟨#[]⟩))]) (blocking := false) (shape := .select) (w1 := w0) (by simp [go_sem, execOp, scase, Act.eval, opV, opC]) (comms_sel_send hc (by simpa using hrm)) ?_
    simp only [Act.put, List.setIfInBounds_toArray, List.set_cons_zero, List.set_cons_succ]
    refine listTo_of ?_
    generalize hw1 : w0.setChan _ _ _ _ _ _ _ = w1
    have hk1 : KeptQ (fun k => k = gs ∨ k = c) w0 w1 := by rw [← hw1]; exact KeptQ.setChan _ _ _ _ _ _ _ _ (Or.inr rfl)
    go_wp2
    refine bodyPost_end (results_none rfl _ _ _) rfl ?_
    have hot := fun k (hk : k < w0.heap.size) (hg : k ≠ c) => (show w1.heap[k]? = w0.heap[k]? from by rw [← hw1]; simp only [World.setChan]; rw [Array.getElem?_setIfInBounds_ne (Ne.symm hg)])
    obtain ⟨n1, n2, n3, n4, n5, n6⟩ := hne.out
    have hDD : D' = { D with Q := D.Q ++ [o] } := by rw [HD.out, Dv.add, if_pos hrm]
    subst hDD
    refine ⟨rfl, ⟨(hot d H0.out.ltd n2).trans H0.out.row, H0.out.st.at (hot gs H0.out.st.lt n3), ⟨s + 1, r, ?_⟩, ownsRow_at H0.out.vw (fun g hg => ?_), by simp; omega, H0.out.capb, H0.out.pages, fun o' ho' => ?_⟩, HK0.out.trans hk1⟩
    · rw [← hw1, heap_setChan _ _ _ _ _ _ _ _ H0.out.ltc]
      simp
    · obtain ⟨cs, hv⟩ := H0.out.vblock hg
      exact hot g (Array.getElem?_eq_some_iff.1 hv).1 (fun e => n6 (by rw [← e]; exact hg))
    · rcases List.mem_append.1 ho' with h | h
      · exact H0.out.okQ o' h
      · simp only [List.mem_singleton] at h; rw [h]; exact ho
  · obtain ⟨q, rq, hq⟩ : ∃ q rq, D.Q = q :: rq := by
      cases hQ : D.Q with
      | nil => rw [hQ] at hrm; exact absurd hcp hrm
      | cons q rq => exact ⟨q, rq, rfl⟩
    obtain ⟨s, r, hc⟩ := H0.out.ch
    refine wp_region_to ?_
    refine listTo_comm rfl (cases := #[scase c (opV o) (opV (0, 0, ⟨#[]⟩))]) (blocking := false) (shape := .select) (w1 := w0) (by simp [go_sem, execOp, scase, Act.eval, opV, opC]) (comms_sel_full hc (by simp; omega)) ?_
    simp only [Act.put, List.setIfInBounds_toArray, List.set_cons_zero, List.set_cons_succ]
    refine listTo_of ?_
    go_upto_region 4 with (fail)
    refine wp_region_to ?_
    refine listTo_wp (pre := [_, _, _, _, _]) (post := [_, _]) ?_
    go_wp2
    refine listTo_comm rfl (cases := #[rcase c (opV (0, 0, ⟨#[]⟩))]) (blocking := true) (shape := .recv false) (w1 := w0) (by simp [go_sem, execOp, rcase, Act.eval, opV, opC]) (comms_recv hc (by simp [hq])) ?_
    rw [show ((D.Q.map opV).toArray.getD 0 undef) = opV q from by rw [hq]; rfl]
    simp only [Act.put, List.setIfInBounds_toArray, List.set_cons_zero, List.set_cons_succ]
    refine listTo_of ?_
    generalize hw1 : w0.setChan _ _ _ _ _ _ _ = w1
    have hk1 : KeptQ (fun k => k = gs ∨ k = c) w0 w1 := by rw [← hw1]; exact KeptQ.setChan _ _ _ _ _ _ _ _ (Or.inr rfl)
    have hot := fun k (hk : k < w0.heap.size) (hg : k ≠ c) => (show w1.heap[k]? = w0.heap[k]? from by rw [← hw1]; simp only [World.setChan]; rw [Array.getElem?_setIfInBounds_ne (Ne.symm hg)])
    obtain ⟨n1, n2, n3, n4, n5, n6⟩ := hne.out
    have h1 : IsD w1 d gs c vv { D with Q := rq } := by
      refine ⟨(hot d H0.out.ltd n2).trans H0.out.row, H0.out.st.at (hot gs H0.out.st.lt n3), ⟨s, r + 1, ?_⟩, ownsRow_at H0.out.vw (fun g hg => ?_), ?_, H0.out.capb, H0.out.pages, fun o' ho' => H0.out.okQ o' (by rw [hq]; exact List.mem_cons_of_mem _ ho')⟩
      · rw [← hw1, heap_setChan _ _ _ _ _ _ _ _ H0.out.ltc, hq]
        simp [List.take_of_length_le]
      · obtain ⟨cs, hv⟩ := H0.out.vblock hg
        exact hot g (Array.getElem?_eq_some_iff.1 hv).1 (fun e => n6 (by rw [← e]; exact hg))
      · have := H0.out.room
        rw [hq] at this
        simp at this ⊢
        omega
    have HSE := hid (settle_any d gs c vv { D with Q := rq } q (H0.out.okQ q (by rw [hq]; simp)) w1 h1)
    have ha1 : w1.heap[w.heap.size]? = some (.cells #[.int .i64 (o.1 : Int), .int .i64 (o.2.1 : Int), .string o.2.2] 78 (0, 0)) := (hot _ (Array.getElem?_eq_some_iff.1 HA0.out).1 hwc).trans HA0.out
    have hok := H0.out.okQ
    have hrq : rq.length + 1 ≤ D.cap := by have := H0.out.room; rw [hq] at this; simpa using this
    have HK1 := hid (HK0.out.trans hk1)
    have HA1 := hid ha1
    clear hw1 hc hk1 ha1 hot h1 e0 e1 e2 c1 HK0 HA0 H0
    unfold opV opC at HSE ⊢
    go_wp2_with fail
    refine HSE.out.mono ?_
    rintro e w2 ⟨rfl, h2, hk2⟩
    have ha2 : w2.heap[w.heap.size]? = some (.cells #[.int .i64 (o.1 : Int), .int .i64 (o.2.1 : Int), .string o.2.2] 78 (0, 0)) := (hk2.block _ (Array.getElem?_eq_some_iff.1 HA1.out).1 hwg).trans HA1.out
    have H2 := hid h2
    have HK2 := hid (HK1.out.trans (hk2.mono fun k hk => Or.inl hk))
    obtain ⟨_, c1, _, _, _, _, _, _⟩ := dkC_cells h2.row
    have e0 : w2.cell? ⟨w.heap.size, 0, none⟩ = some (.int .i64 (o.1 : Int)) := by rw [cell_of_row _ _ _ _ _ _ ha2]; rfl
    have e1 : w2.cell? ⟨w.heap.size, 1, none⟩ = some (.int .i64 (o.2.1 : Int)) := by rw [cell_of_row _ _ _ _ _ _ ha2]; rfl
    have e2 : w2.cell? ⟨w.heap.size, 2, none⟩ = some (.string o.2.2) := by rw [cell_of_row _ _ _ _ _ _ ha2]; rfl
    clear h2 hk2 ha2 HSE HK1 HA1
    go_upto_region 5 with (fail)
    refine wp_region_draw_to 5 rfl (by kernel_rfl) (by kernel_rfl) (by kernel_rfl) (by kernel_rfl) ?_
    simp only [List.take_succ_cons, List.take_zero, List.drop_succ_cons, List.drop_zero]
    repeat (go_big_quiet_step (fail))
    refine wpQuiet_nil ?_
    intro m
    obtain ⟨s2, r2, hc2⟩ := H2.out.ch
    refine listTo_comm rfl (cases := #[scase c (opV o) (.tuple #[])]) (blocking := true) (shape := .send) (w1 := w2.drewN m) (by simp [go_sem, execOp, scase, Act.eval, opV, opC]) (comms_send (show (w2.drewN m).heap[c]? = _ from hc2) (by simp; omega)) ?_
    simp only [Act.put, List.setIfInBounds_toArray, List.set_cons_zero, List.set_cons_succ]
    refine listTo_nil ?_
    generalize hw3 : World.setChan _ _ _ _ _ _ _ _ = w3
    have hk3 : KeptQ (fun k => k = gs ∨ k = c) w2 w3 := by rw [← hw3]; exact (KeptQ.drewN w2 m).trans (KeptQ.setChan _ _ _ _ _ _ _ _ (Or.inr rfl))
    have hot3 := fun k (hk : k < w2.heap.size) (hg : k ≠ c) => (show w3.heap[k]? = w2.heap[k]? from by rw [← hw3]; simp only [World.setChan]; rw [Array.getElem?_setIfInBounds_ne (Ne.symm hg)]; rfl)
    have hltc : c < (w2.drewN m).heap.size := H2.out.ltc
    go_wp2
    refine bodyPost_end (results_none rfl _ _ _) rfl ?_
    have hDD : D' = { D with P := D.P.set q.2.1 q.2.2, Q := rq ++ [o] } := by rw [HD.out, Dv.add, if_neg hrm, hq]
    subst hDD
    refine ⟨rfl, ⟨(hot3 d H2.out.ltd n2).trans H2.out.row, H2.out.st.at (hot3 gs H2.out.st.lt n3), ⟨s2 + 1, r2, ?_⟩, ownsRow_at H2.out.vw (fun g hg => ?_), by simp; omega, H2.out.capb, H2.out.pages, fun o' ho' => ?_⟩, HK2.out.trans hk3⟩
    · rw [← hw3, heap_setChan _ _ _ _ _ _ _ _ hltc]
      simp
    · obtain ⟨cs, hv⟩ := H2.out.vblock hg
      exact hot3 g (Array.getElem?_eq_some_iff.1 hv).1 (fun e => n6 (by rw [← e]; exact hg))
    · rw [List.length_set]
      rcases List.mem_append.1 ho' with h | h
      · exact hok o' (by rw [hq]; exact List.mem_cons_of_mem _ h)
      · simp only [List.mem_singleton] at h; rw [h]; exact ho
end Go.Proofs.Ytkhkpcigjpibiaa
