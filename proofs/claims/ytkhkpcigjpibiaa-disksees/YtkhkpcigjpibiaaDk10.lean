/-
  Layer 9: the cache, looked through.
-/
import Derived.Test.YtkhkpcigjpibiaaDk9
namespace Go.Proofs.Ytkhkpcigjpibiaa
open Go.ChangeShapes Go.WideShapes Go.ChangeAt Go.RowKit Go.Shelf
open Go.Conc
open Go.Lib (hid)

attribute [local go_sem] Oper.semAt_some

theorem rot_all {σ : Type} (dk : σ → Dv.D) (f : σ → Dv.O → σ) (hf : ∀ s q r, (dk s).Q = q :: r → dk (f s q) = { dk s with Q := r ++ [q] }) :
    ∀ (l : List Dv.O) (s : σ) (t : List Dv.O), (dk s).Q = l ++ t → dk (l.foldl f s) = { dk s with Q := t ++ l }
  | [], s, t, h => by
    simp only [List.foldl_nil, List.append_nil]
    rw [List.nil_append] at h
    rw [← h]
  | q :: l, s, t, h => by
    have h1 := hf s q (l ++ t) h
    have h2 : (dk (f s q)).Q = l ++ (t ++ [q]) := by rw [h1]; simp
    rw [List.foldl_cons, rot_all dk f hf l (f s q) (t ++ [q]) h2, h1]
    simp

set_option maxHeartbeats 1000000 in
set_option maxRecDepth 100000 in
theorem waiting_in {σ : Type} (m : Nat) (hm : 1 ≤ m) (d gs c : Nat) (vv : Value) (dk : σ → Dv.D) (E0 : σ → World → Prop) (f : σ → Dv.O → σ) (hf : ∀ s q r, (dk s).Q = q :: r → dk (f s q) = { dk s with Q := r ++ [q] })
    (hE0 : ∀ s W W', E0 s W → KeptQ (fun k => k = c) W W' → E0 s W') (s0 : σ) (l : Nat) (X : World → Prop) (W1 : World) (h : IsD W1 d gs c vv (dk s0) ∧ E0 s0 W1) (hX : X W1)
    (hXk : ∀ W W', X W → (∀ k, k < W.heap.size → k ≠ c → W'.heap[k]? = W.heap[k]?) → X W')
    (hY : ∀ s q W, (∃ r, (dk s).Q = q :: r ∧ IsD W d gs c vv { dk s with Q := r ++ [q] } ∧ E0 s W) → X W → YieldAt Fence.wide (m - 1) Try.prog l #[opV q] W fun e W' => e = .returned (.bool true) ∧ (IsD W' d gs c vv (dk (f s q)) ∧ E0 (f s q) W') ∧ X W') :
    CallsIn Fence.wide m Try.prog 46 #[.pointer (some ⟨d, 0, none⟩), .func (.yield l) #[] #[]] W1 fun e W' => (∃ v, e = .returned v) ∧ (IsD W' d gs c vv (dk s0) ∧ E0 ((dk s0).Q.foldl f s0) W') ∧ X W' := by
  refine callsIn_of_wp Try.func46 rfl trivial ?_ rfl
  simp only [Try.ntmps46, List.size_toArray, List.length_cons, List.length_nil, Nat.reduceAdd, Nat.reduceSub, Array.replicate_succ, Array.replicate_zero, List.push_toArray, List.append_toArray, List.nil_append, List.cons_append]
  obtain ⟨sE, hsE⟩ : ∃ sE, sE = (dk s0).Q.foldl f s0 := ⟨_, rfl⟩
  have hdE : dk sE = dk s0 := by
    rw [hsE, rot_all dk f hf (dk s0).Q s0 [] (by simp)]
    rfl
  obtain ⟨n, hn⟩ : ∃ n, n = (dk s0).Q.length := ⟨_, rfl⟩
  have hn256 : (n : Int) ≤ 256 := by have := h.1.room; have := h.1.capb; omega
  rw [← hsE, ← hdE]
  have HSE := hid hsE
  have HDE := hid hdE
  obtain ⟨_, c1, _, _, _, _, _, _⟩ := dkC_cells h.1.row
  obtain ⟨ss0, rr0, hc0⟩ := h.1.ch
  have hl0 := run_len_chan (P := Try.prog) 63 3 Try.underlying63 hc0
  rw [show ((dk s0).Q.map opV).toArray.size = n from by simp [hn]] at hl0
  have HNN := hid hn
  clear hsE hdE hn
  gi_wp2
  gi_loopw [4, 11] (fun g i wr => g = .bool true ∧ ∃ s k t u, i = .int .i64 (k : Nat) ∧ sE = u.foldl f s ∧ (dk s).Q = u ++ t ∧ u.length + k = n ∧ (IsD wr d gs c vv (dk s) ∧ E0 s wr) ∧ X wr)
    (fun _ i _ => ((n : Int) - intOf i).toNat)
  case atStart => exact ⟨rfl, s0, 0, [], (dk s0).Q, rfl, HSE.out, by simp, by rw [HNN.out]; rfl, h, hX⟩
  case round =>
    obtain ⟨rfl, s, k, t, u, rfl, hs, hqq, hlen, ⟨hd, he⟩, hx⟩ := hrel
    have HD := hid hd
    have HE := hid he
    have HX := hid hx
    have HS := hid hs
    have hlq := hd.len
    obtain ⟨_, c1, _, _, _, _, _, _⟩ := dkC_cells hd.row
    obtain ⟨n1, n2, n3, n4, n5, n6⟩ := hd.ne
    obtain ⟨ss, rr, hc⟩ := hd.ch
    clear hd he hx hs h hX
    cases u with
    | nil =>
      have hkn : k = n := by simpa using hlen
      subst hkn
      gi_wp2
      have hs := HS.out
      rw [List.foldl_nil] at hs
      rw [hs]
      exact bodyPost_end (results_none rfl _ _ _) rfl ⟨⟨_, rfl⟩, ⟨HD.out, HE.out⟩, HX.out⟩
    | cons q u =>
      have hlt : (k : Int) < n := by simp at hlen; omega
      rw [List.cons_append] at hqq
      rw [hqq] at hc
      refine wpIn_seq ?_
      refine wpIn_wide.2 ?_
      go_wp2
      refine wpIn_seq ?_
      refine wpIn_wide.2 ?_
      go_wp2
      refine wpIn_seq ?_
      refine wpIn_block ?_
      refine wpIn_seq ?_
      refine wpIn_wide.2 ?_
      refine wp_region_to ?_
      refine listTo_wp (pre := [_, _, _, _]) (post := [_, _, _]) ?_
      go_wp2
      refine listTo_comm rfl (cases := #[rcase c (opV (0, 0, ⟨#[]⟩))]) (blocking := true) (shape := .recv false) (w1 := wr) (by simp [go_sem, execOp, rcase, Act.eval, opV, opC]) (comms_recv hc (by simp)) ?_
      rw [show (((q :: (u ++ t)).map opV).toArray.getD 0 undef) = opV q from rfl]
      simp only [Act.put, List.setIfInBounds_toArray, List.set_cons_zero, List.set_cons_succ]
      refine listTo_of ?_
      generalize hw1 : wr.setChan _ _ _ _ _ _ _ = w1
      have hot := fun k (_ : k < wr.heap.size) (hg : k ≠ c) => (show w1.heap[k]? = wr.heap[k]? from by rw [← hw1]; simp only [World.setChan]; rw [Array.getElem?_setIfInBounds_ne (Ne.symm hg)])
      have hsz : w1.heap.size = wr.heap.size := by rw [← hw1]; simp [World.setChan]
      have hc1 : w1.heap[c]? = some (.chan (dk s).cap ((u ++ t).map opV).toArray false ss (rr + 1) false) := by
        rw [← hw1, heap_setChan _ _ _ _ _ _ _ _ HD.out.ltc]
        simp [List.take_of_length_le]
      have hk1 : KeptQ (fun k => k = c) wr w1 := by rw [← hw1]; exact KeptQ.setChan _ _ _ _ _ _ _ _ rfl
      have hrow1 := (hot d HD.out.ltd n2).trans HD.out.row
      have hb2 : Below w1.heap.size w1 (w1.alloc (.cells (opC q) 78)) := (Below.refl _ _).alloc (Nat.le_refl _) _
      have hnw := heap_alloc_new w1 (.cells (opC q) 78)
      clear hw1 hc c1
      unfold opV opC
      go_wp2
      rw [hsz] at hnw hb2
      unfold opC at hnw hb2
      generalize w1.alloc (.cells #[.int .i64 (q.1 : Int), .int .i64 (q.2.1 : Int), .string q.2.2] 78) = w2 at *
      have hrow2 := (hb2.block d (by have := HD.out.ltd; omega)).trans hrow1
      have hc2 := (hb2.block c (by have := HD.out.ltc; omega)).trans hc1
      have hgn : wr.heap.size ≠ c := by have := HD.out.ltc; omega
      have hot2 := fun k (hk : k < wr.heap.size) (hg : k ≠ c) => (hb2.block k (by omega)).trans (hot k hk hg)
      have hsz2 : wr.heap.size ≤ w2.heap.size := by rw [← hsz]; exact hb2.size
      have hkk2 : KeptQ (fun k => k = c) wr w2 := hk1.trans (KeptQ.of_below (by rw [hsz]; exact hb2))
      obtain ⟨o0, o1, o2⟩ := opRow_cells (q := q) hnw
      obtain ⟨_, c1, _, _, _, _, _, _⟩ := dkC_cells hrow2
      refine wpIn_seq ?_
      refine wpIn_wide.2 ?_
      refine wp_region_draw_to 5 rfl (by kernel_rfl) (by kernel_rfl) (by kernel_rfl) (by kernel_rfl) ?_
      simp only [List.take_succ_cons, List.take_zero, List.drop_succ_cons, List.drop_zero]
      repeat (go_big_quiet_step (fail))
      refine wpQuiet_nil ?_
      intro mm
      refine listTo_comm rfl (cases := #[scase c (opV q) (.tuple #[])]) (blocking := true) (shape := .send) (w1 := w2.drewN mm) (by simp [go_sem, execOp, scase, Act.eval, opV, opC]) (comms_send (show (w2.drewN mm).heap[c]? = _ from hc2) (by have := HD.out.room; rw [hqq] at this; simp at this ⊢; omega)) ?_
      simp only [Act.put, List.setIfInBounds_toArray, List.set_cons_zero, List.set_cons_succ]
      refine listTo_nil ?_
      generalize hw3 : World.setChan _ _ _ _ _ _ _ _ = w3
      have hk3 : KeptQ (fun k => k = c) wr w3 := by rw [← hw3]; exact hkk2.trans ((KeptQ.drewN w2 mm).trans (KeptQ.setChan _ _ _ _ _ _ _ _ rfl))
      have hot3 := fun k (hk : k < wr.heap.size) (hg : k ≠ c) => (show w3.heap[k]? = wr.heap[k]? from by rw [← hw3]; simp only [World.setChan]; rw [Array.getElem?_setIfInBounds_ne (Ne.symm hg)]; exact hot2 k hk hg)
      have hltc : c < (w2.drewN mm).heap.size := by have := HD.out.ltc; show c < w2.heap.size; omega
      have hn3 : w3.heap[wr.heap.size]? = some (.cells (opC q) 78 (0, 0)) := by rw [← hw3]; simp only [World.setChan]; rw [Array.getElem?_setIfInBounds_ne (Ne.symm hgn)]; exact hnw
      have hsz3 : w3.heap.size = w2.heap.size := by rw [← hw3]; simp [World.setChan]
      have h3 : IsD w3 d gs c vv { dk s with Q := u ++ t ++ [q] } := by
        refine ⟨(hot3 d HD.out.ltd n2).trans HD.out.row, HD.out.st.at (hot3 gs HD.out.st.lt n3), ⟨ss + 1, rr + 1, ?_⟩, ownsRow_at HD.out.vw (fun g hg => ?_), ?_, HD.out.capb, HD.out.pages, fun o' ho' => HD.out.okQ o' ?_⟩
        · rw [← hw3, heap_setChan _ _ _ _ _ _ _ _ hltc]
          simp
        · obtain ⟨cs, hv⟩ := HD.out.vblock hg
          exact hot3 g (Array.getElem?_eq_some_iff.1 hv).1 (fun e => n6 (by rw [← e]; exact hg))
        · have := HD.out.room
          rw [hqq] at this
          simp at this ⊢
          omega
        · rw [hqq]
          simp at ho' ⊢
          rcases ho' with h | h | h
          · exact Or.inr (Or.inl h)
          · exact Or.inr (Or.inr h)
          · exact Or.inl h
      obtain ⟨o0, o1, o2⟩ := opRow_cells (q := q) hn3
      have H3 := hid h3
      have HE3 := hid (hE0 s wr w3 HE.out hk3)
      have HX3 := hid (hXk wr w3 HX.out hot3)
      clear hw3 hk3 hot3 hltc hn3 h3 hk1 hrow1 hrow2 hc1 hc2 hot hot2 hkk2 hsz hsz2 hb2 hnw
      obtain ⟨fn, tmps, assign, body, hy, hRR⟩ := hY s q w3 ⟨u ++ t, hqq, H3.out, HE3.out⟩ HX3.out
      unfold opV opC at hy
      gi_wp2
      refine hRR.mono ?_
      rintro e W3 ⟨rfl, hd3, hx3⟩
      have hf3 := hf s q (u ++ t) hqq
      have hs3 : sE = u.foldl f (f s q) := HS.out
      have hq3 : (dk (f s q)).Q = u ++ (t ++ [q]) := by rw [hf3]; simp
      gi_wp2
      refine ⟨⟨rfl, f s q, k + 1, t ++ [q], u, congrArg (Value.int .i64) (by omega), hs3, hq3, by simp at hlen; omega, hd3, hx3⟩, ?_⟩
      simp only [intOf]
      omega
end Go.Proofs.Ytkhkpcigjpibiaa
