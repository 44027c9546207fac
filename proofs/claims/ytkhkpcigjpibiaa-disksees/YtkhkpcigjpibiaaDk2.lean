/-
  Layer 9: the cache, drained.
-/
import Derived.Test.YtkhkpcigjpibiaaDk1
import Derived.Test.YtkhkpcigjpibiaaRf
namespace Go.Proofs.Ytkhkpcigjpibiaa
open Go.ChangeShapes Go.WideShapes Go.ChangeAt Go.RowKit Go.Shelf
open Go.Conc
open Go.Lib (hid)

attribute [local go_sem] Oper.semAt_some

/-- How much waits in a channel. -/
def chanLen (w : World) (c : Nat) : Nat := match w.heap[c]? with | some (.chan _ buf _ _ _ _) => buf.size | _ => 0
theorem IsD.len {w : World} {d gs c : Nat} {vv : Value} {D : Dv.D} (h : IsD w d gs c vv D) : chanLen w c = D.Q.length := by
  obtain ⟨s, r, hc⟩ := h.ch
  unfold chanLen
  rw [hc]
  simp

set_option maxHeartbeats 2000000 in
set_option maxRecDepth 100000 in
theorem drained_in {σ : Type} (m : Nat) (hm : 1 ≤ m) (d gs c : Nat) (vv : Value) (dk : σ → Dv.D) (E0 : σ → World → Prop) (f : σ → Dv.O → σ) (hf : ∀ s q r, (dk s).Q = q :: r → (dk (f s q)).Q = r)
    (hE0 : ∀ s W W', E0 s W → KeptQ (fun k => k = c) W W' → E0 s W') (s0 : σ) (l : Nat) (X : World → Prop) (W1 : World) (h : IsD W1 d gs c vv (dk s0) ∧ E0 s0 W1) (hX : X W1)
    (hXk : ∀ W W', X W → (∀ k, k < W.heap.size → k ≠ c → W'.heap[k]? = W.heap[k]?) → X W')
    (hY : ∀ s q W, (∃ r, (dk s).Q = q :: r ∧ q.2.1 < (dk s).P.length ∧ IsD W d gs c vv { dk s with Q := r } ∧ E0 s W) → X W → YieldAt Fence.wide (m - 1) Try.prog l #[opV q] W fun e W' => e = .returned (.bool true) ∧ (IsD W' d gs c vv (dk (f s q)) ∧ E0 (f s q) W') ∧ X W') :
    CallsIn Fence.wide m Try.prog 50 #[.pointer (some ⟨d, 0, none⟩), .func (.yield l) #[] #[]] W1 fun e W' => (∃ v, e = .returned v) ∧ (IsD W' d gs c vv (dk ((dk s0).Q.foldl f s0)) ∧ E0 ((dk s0).Q.foldl f s0) W') ∧ X W' := by
  refine callsIn_of_wp Try.func50 rfl trivial ?_ rfl
  simp only [Try.ntmps50, List.size_toArray, List.length_cons, List.length_nil, Nat.reduceAdd, Nat.reduceSub, Array.replicate_succ, Array.replicate_zero, List.push_toArray, List.append_toArray, List.nil_append, List.cons_append]
  obtain ⟨sE, hsE⟩ : ∃ sE, sE = (dk s0).Q.foldl f s0 := ⟨_, rfl⟩
  rw [← hsE]
  have HSE := hid hsE
  clear hsE
  gi_wp2
  gi_loopw [4] (fun _ wr => ∃ s, sE = (dk s).Q.foldl f s ∧ (IsD wr d gs c vv (dk s) ∧ E0 s wr) ∧ X wr)
    (fun _ w => chanLen w c)
  case atStart => exact ⟨s0, HSE.out, h, hX⟩
  case round =>
    obtain ⟨s, hs, ⟨hd, he⟩, hx⟩ := hrel
    have HD := hid hd
    have HE := hid he
    have HX := hid hx
    have HS := hid hs
    have hlen := hd.len
    obtain ⟨_, c1, _, _, _, _, _, _⟩ := dkC_cells hd.row
    obtain ⟨n1, n2, n3, n4, n5, n6⟩ := hd.ne
    obtain ⟨ss, rr, hc⟩ := hd.ch
    clear hd he hx hs h hX
    refine wpIn_block ?_
    refine wpIn_seq ?_
    refine wpIn_wide.2 ?_
    go_wp2
    refine wpIn_seq ?_
    refine wpIn_wide.2 ?_
    refine wp_region_to ?_
    cases hq : (dk s).Q with
    | nil =>
      rw [hq] at hc
      refine listTo_comm rfl (cases := #[rcase c (opV (0, 0, ⟨#[]⟩))]) (blocking := false) (shape := .select) (w1 := wr) (by simp [go_sem, execOp, rcase, Act.eval, opV, opC]) (comms_sel_none (by simpa using hc)) ?_
      simp only [Act.put, List.setIfInBounds_toArray, List.set_cons_zero, List.set_cons_succ]
      refine listTo_of ?_
      go_wp2
      gi_wp2
      refine bodyPost_ret (results_none rfl _ _ _) rfl ⟨⟨_, rfl⟩, ?_⟩
      have hs := HS.out
      rw [hq] at hs
      rw [show sE = s from hs]
      exact ⟨⟨HD.out, HE.out⟩, HX.out⟩
    | cons q r =>
      rw [hq] at hc
      refine listTo_comm rfl (cases := #[rcase c (opV (0, 0, ⟨#[]⟩))]) (blocking := false) (shape := .select) (w1 := wr) (by simp [go_sem, execOp, rcase, Act.eval, opV, opC]) (comms_sel_recv hc (by simp)) ?_
      rw [show (((q :: r).map opV).toArray.getD 0 undef) = opV q from rfl]
      simp only [Act.put, List.setIfInBounds_toArray, List.set_cons_zero, List.set_cons_succ]
      refine listTo_of ?_
      generalize hw1 : wr.setChan _ _ _ _ _ _ _ = w1
      have hot := fun k (_ : k < wr.heap.size) (hg : k ≠ c) => (show w1.heap[k]? = wr.heap[k]? from by rw [← hw1]; simp only [World.setChan]; rw [Array.getElem?_setIfInBounds_ne (Ne.symm hg)])
      have hsz : w1.heap.size = wr.heap.size := by rw [← hw1]; simp [World.setChan]
      have h1 : IsD w1 d gs c vv { dk s with Q := r } := by
        refine ⟨(hot d HD.out.ltd n2).trans HD.out.row, HD.out.st.at (hot gs HD.out.st.lt n3), ⟨ss, rr + 1, ?_⟩, ownsRow_at HD.out.vw (fun g hg => ?_), ?_, HD.out.capb, HD.out.pages, fun o' ho' => HD.out.okQ o' (by rw [hq]; exact List.mem_cons_of_mem _ ho')⟩
        · rw [← hw1, heap_setChan _ _ _ _ _ _ _ _ HD.out.ltc]
          simp [List.take_of_length_le]
        · obtain ⟨cs, hv⟩ := HD.out.vblock hg
          exact hot g (Array.getElem?_eq_some_iff.1 hv).1 (fun e => n6 (by rw [← e]; exact hg))
        · have := HD.out.room
          rw [hq] at this
          simp at this ⊢
          omega
      have hk1 : KeptQ (fun k => k = c) wr w1 := by rw [← hw1]; exact KeptQ.setChan _ _ _ _ _ _ _ _ rfl
      have HO1 := hid (hE0 s wr w1 HE.out hk1)
      have HX1 := hid (hXk wr w1 HX.out hot)
      have H1 := hid h1
      clear hw1 hc h1 c1
      have hb2 : Below w1.heap.size w1 (w1.alloc (.cells (opC q) 78)) := (Below.refl _ _).alloc (Nat.le_refl _) _
      obtain ⟨fn, tmps, assign, body, hy, hRR⟩ := hY s q (w1.alloc (.cells (opC q) 78)) ⟨r, hq, HD.out.okQ q (by rw [hq]; simp), H1.out.below hb2, hE0 _ _ _ HO1.out (KeptQ.of_below hb2)⟩ (hXk _ _ HX1.out (fun k hk _ => hb2.block k hk))
      unfold opV opC at hy
      unfold opC at hRR
      unfold opV opC
      go_wp2
      gi_wp2
      refine hRR.mono ?_
      rintro e W3 ⟨rfl, hd3, hx3⟩
      gi_wp2
      have hs3 : sE = (dk (f s q)).Q.foldl f (f s q) := by
        have hs := HS.out
        rw [hq] at hs
        rw [hf s q r hq]
        exact hs
      refine ⟨?_, ?_⟩
      · first
          | exact ⟨f s q, hs3, hd3, hx3⟩
          | (refine ⟨⟨f s q, hs3, hd3, hx3⟩, ?_⟩
             repeat apply Exists.intro
             rfl)
      · rw [hd3.1.len, hf s q r hq]; omega
end Go.Proofs.Ytkhkpcigjpibiaa
