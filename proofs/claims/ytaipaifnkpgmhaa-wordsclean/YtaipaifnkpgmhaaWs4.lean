/-
  Layer 15: the words of a text.
-/
import Derived.Test.YtaipaifnkpgmhaaWs3
namespace Go.Proofs.Ytaipaifnkpgmhaa
open Go.ChangeShapes Go.WideShapes Go.ChangeAt Go.RowKit Go.Shelf
open Go.Lib (hid)

attribute [local go_sem] Oper.semAt_some

theorem run_mkFw (P : Program) (fn : Fn) (first cap : Array Value) (w : World) : (Instr.makeFunc fn first cap).run P w = .ok (.func fn first cap) w := by simp [go_sem, Instr.makeFunc]
set_option maxRecDepth 100000 in
theorem sequences_any (T : List Nat) (w : World) : Calls Try.prog 20 #[.string (str T)] w fun e w' => e = .returned (.func (.func 29) #[] #[.pointer (some ⟨w.heap.size, 0, none⟩)]) ∧ w' = w.alloc (.cells #[.string (str T)] 9) := by
  have hmf := run_mkFw Try.prog
  go_enter Try.func20, Try.ntmps20
  go_wp2
  go_ret
  exact ⟨rfl, rfl⟩
structure Wo (w : World) (A tb B : Nat) (T : List Nat) (s : List (List Nat)) (W : World) : Prop where
  box : W.heap[tb]? = some (.cells #[.string (str T)] 9 (0, 0))
  out : ∃ v, W.heap[A]? = some (.cells #[v] 22 (0, 0)) ∧ OwnS W B v s
  sorted : Wd.Sorted s
  len : s.length ≤ 64
  small : ∀ l ∈ s, ∀ b ∈ l, b < 256
  below : Below w.heap.size w W
  big : B ≤ W.heap.size
theorem OwnS.at {w w' : World} {base : Nat} {v : Value} {L : List (List Nat)} (h : OwnS w base v L) (hk : ∀ g (cs : Array Value), base ≤ g → w.heap[g]? = some (.cells cs 9 (0, 0)) → w'.heap[g]? = w.heap[g]?) : OwnS w' base v L := by
  obtain ⟨hl, h | ⟨g, cap, cur, hv, hg, hh, rest⟩⟩ := h
  · exact ⟨hl, .inl h⟩
  · exact ⟨hl, .inr ⟨g, cap, cur, hv, hg, (hk g cur hg hh).trans hh, rest⟩⟩
theorem OwnS.mono {w : World} {base base' : Nat} {v : Value} {L : List (List Nat)} (h : OwnS w base v L) (hb : base' ≤ base) : OwnS w base' v L := by
  obtain ⟨hl, h | ⟨g, cap, cur, hv, hg, rest⟩⟩ := h
  · exact ⟨hl, .inl h⟩
  · exact ⟨hl, .inr ⟨g, cap, cur, hv, Nat.le_trans hb hg, rest⟩⟩
theorem book_cells {B k : Nat} {W W' : World} {cs : Array Value} {t : TypeId} {fr : Nat × Nat} (h : W.heap[k]? = some (.cells cs t fr)) (hb : BookAt B W W') : W'.heap[k]? = some (.cells cs t fr) := by
  rcases hb.block k (Array.getElem?_eq_some_iff.1 h).1 with e | ⟨_, o, ho, hc⟩
  · exact e.trans h
  · rw [h] at ho
    injection ho with ho
    subst ho
    cases hc
theorem below_book {B : Nat} {u W W' : World} (h : Below B u W) {B' : Nat} (hb : BookAt B' W W') (hB : B ≤ B') (hu : B ≤ u.heap.size) : Below B u W' :=
  ⟨hb.os.trans h.os, hb.tape.trans h.tape, hb.output.trans h.output, Nat.le_trans h.size hb.size, fun k hk => by
    rcases hb.block k (by have := h.size; omega) with e | ⟨h1, _⟩
    · exact e.trans (h.block k hk)
    · omega⟩
theorem Wo.book {w : World} {A tb B : Nat} {T : List Nat} {s : List (List Nat)} {W W' : World} (h : Wo w A tb B T s W) {B' : Nat} (hb : BookAt B' W W') (hB : w.heap.size ≤ B') : Wo w A tb B T s W' := by
  obtain ⟨v, h1, h2⟩ := h.out
  exact ⟨book_cells h.box hb, ⟨v, book_cells h1 hb, h2.at fun g cs _ hg => (book_cells hg hb).trans hg.symm⟩, h.sorted, h.len, h.small, below_book h.below hb hB (Nat.le_refl _), Nat.le_trans h.big hb.size⟩
theorem Wo.kept {w : World} {A tb B : Nat} {T : List Nat} {s : List (List Nat)} {W W' : World} (h : Wo w A tb B T s W) (hb : Below W.heap.size W W') : Wo w A tb B T s W' := by
  obtain ⟨v, h1, h2⟩ := h.out
  exact ⟨(hb.block _ (Array.getElem?_eq_some_iff.1 h.box).1).trans h.box, ⟨v, (hb.block _ (Array.getElem?_eq_some_iff.1 h1).1).trans h1, h2.below hb⟩, h.sorted, h.len, h.small, h.below.trans (hb.mono h.below.size), Nat.le_trans h.big hb.size⟩
theorem drewN_below (W : World) (m : Nat) : Below W.heap.size W (W.drewN m) := ⟨rfl, rfl, rfl, Nat.le_refl _, fun _ _ => rfl⟩
/-- A row's head. -/
theorem OwnS.take {w : World} {base g cap n : Nat} {L : List (List Nat)} (h : OwnS w base (.slice (some ⟨g, 0, none⟩) n cap) L) (k : Nat) (hk : k ≤ L.length) : OwnS w base (.slice (some ⟨g, 0, none⟩) k cap) (L.take k) := by
  obtain ⟨hl, ⟨h1, _⟩ | ⟨g', cap', cur, hv, hg, hh, hn, hc, hs, ht⟩⟩ := h
  · cases h1
  · simp only [Value.slice.injEq, Option.some.injEq, Addr.mk.injEq] at hv
    obtain ⟨⟨rfl, _⟩, _, rfl⟩ := hv
    have hkl : (L.take k).length = k := by rw [List.length_take]; omega
    refine ⟨by simp, .inr ⟨g, cap, cur, by rw [hkl], hg, hh, by omega, hc, hs, ?_⟩⟩
    rw [hkl, Nat.mul_one, List.map_take, ← ht, List.take_take]
    congr 1
    omega
set_option maxHeartbeats 4000000 in
set_option maxRecDepth 100000 in
theorem of_any (T : List Nat) (hT : ∀ x ∈ T, x < 256) (hTl : T.length ≤ 1000000) (w : World) :
    Calls Try.prog 11 #[.string (str T)] w fun e w' => ∃ v, e = .returned v ∧ OwnS w' w.heap.size v (Wd.words T) ∧ Below w.heap.size w w' := by
  refine (callsIn_wide (n := 9)).1 ?_
  refine callsIn_of_wp_marks Try.func11 rfl trivial ?_ rfl
  simp only [Try.ntmps11, List.size_toArray, List.length_cons, List.length_nil, Nat.reduceAdd, Nat.reduceSub, Array.replicate_succ, Array.replicate_zero, List.push_toArray, List.append_toArray, List.nil_append, List.cons_append]
  gi_wp2
  refine ⟨by first | trivial | decide | simp [Fence.wide], (callsIn_wide.2 (sequences_any T _)).mono ?_⟩
  rintro e w1 ⟨rfl, rfl⟩
  gi_wp2
  have hA : ((w.alloc (.cells #[.slice none 0 0] 22)).alloc (.cells #[.string (str T)] 9)).heap[w.heap.size]? = some (.cells #[.slice none 0 0] 22 (0, 0)) := heap_alloc2_old _ _ _
  have hTb : ((w.alloc (.cells #[.slice none 0 0] 22)).alloc (.cells #[.string (str T)] 9)).heap[w.heap.size + 1]? = some (.cells #[.string (str T)] 9 (0, 0)) := heap_alloc2_new _ _ _
  have hsz : ((w.alloc (.cells #[.slice none 0 0] 22)).alloc (.cells #[.string (str T)] 9)).heap.size = w.heap.size + 2 := by rw [World.size_alloc, World.size_alloc]
  have hbw : Below w.heap.size w ((w.alloc (.cells #[.slice none 0 0] 22)).alloc (.cells #[.string (str T)] 9)) := ((Below.refl _ _).alloc (Nat.le_refl _) _).alloc (by rw [World.size_alloc]; omega) _
  generalize (w.alloc (.cells #[.slice none 0 0] 22)).alloc (.cells #[.string (str T)] 9) = w2 at *
  have HW0 := hid (show Wo w w.heap.size (w.heap.size + 1) (w.heap.size + 2) T [] w2 from ⟨hTb, ⟨_, hA, OwnS.nil _ _⟩, List.Pairwise.nil, by simp, by simp, hbw, by omega⟩)
  clear hA hTb hbw
  refine wp_rangeAll (by decide) rfl (enters_of Try.func29 (by kernel_rfl) rfl) (fun q : List Nat => Value.string (str q))
    (fun (s : List (List Nat)) W => Wo w w.heap.size (w.heap.size + 1) (w.heap.size + 2) T s W) Wd.put [] (Wd.words T)
    (fun s q W => Wo w w.heap.size (w.heap.size + 1) (w.heap.size + 2) T s W ∧ Wd.IsW q)
    (fun s q a' W => (Wo w w.heap.size (w.heap.size + 1) (w.heap.size + 2) T s W ∧ Wd.IsW q) ∧ a' = { tmps := #[.string (str T), undef, .slice none 0 0, .pointer (some ⟨w.heap.size, 0, none⟩), .string (str q), undef, undef, .string (str T), .func (.func 29) #[] #[.pointer (some ⟨w.heap.size + 1, 0, none⟩)], .string (str q), undef, undef, undef, undef, undef, undef, undef, undef, undef, undef, undef, undef, undef, undef, undef, undef, undef, undef, undef], defers := [] })
    (fun _ => False) (fun k hk => hk.elim) HW0.out
    (fun s W W' he hb => he.book hb (by omega))
    (fun s q a' W W' he hb => ⟨⟨he.1.1.book hb (by omega), he.1.2⟩, he.2⟩)
    ?iter ?assign ?body ?done
  case iter =>
    intro l X W1 hl hE hX hXk hY
    have := seq_in (9 - 1) (by decide) (w.heap.size + 1) T hT hTl (fun (s : List (List Nat)) W => Wo w w.heap.size (w.heap.size + 1) (w.heap.size + 2) T s W) Wd.put (fun s W h => h.box)
      (fun s W W' he hb => by
        obtain ⟨v, h1, h2⟩ := he.out
        exact ⟨(hb.block _ (Array.getElem?_eq_some_iff.1 he.box).1).trans he.box, ⟨v, (hb.block _ (Array.getElem?_eq_some_iff.1 h1).1).trans h1, h2.below hb⟩, he.sorted, he.len, he.small, he.below.trans (hb.mono he.below.size), Nat.le_trans he.big hb.size⟩)
      [] l X W1 hE hX (fun W W' hx hk => hXk W W' hx (fun k h1 _ => hk k h1)) (fun s q W hq he hx => hY s q W ⟨he, hq⟩ hx)
    exact this
  case assign =>
    rintro l s q W hl hr
    gi_wp2
    exact ⟨Books.refl _ _, Nat.le_refl _, hr, by trivial⟩
  case body =>
    rintro l s q a' W hl ⟨⟨he, hq⟩, rfl⟩
    obtain ⟨v, h1, h2⟩ := he.out
    have hq256 : ∀ b ∈ q, b < 256 := fun b hb => by have := Wd.part_lt b (hq.2.2 b hb); omega
    have c0 : W.cell? ⟨w.heap.size, 0, none⟩ = some v := by rw [cell_of_row _ _ _ _ _ _ h1]; rfl
    have hbs := bs_any W _ v s h2 q he.sorted (by have := he.len; omega) he.small hq256
    have hput := Wd.ins_at s q he.sorted
    have hle := Wd.pos_le s q
    have HE := hid he
    have H1 := hid h1
    have H2 := hid h2
    have HLE := hid hle
    have HL := hid he.len
    clear he h1 h2 hle
    obtain ⟨kn, hkn⟩ : ∃ kn, kn = decide (Wd.pos s q < s.length ∧ s.getD (Wd.pos s q) [] = q) := ⟨_, rfl⟩
    rw [← hkn] at hbs
    have HKN := hid hkn
    have HPUT := hid hput
    have HBS := hid hbs
    clear hkn hput hbs
    generalize hps : Wd.pos s q = ps at *
    clear hps
    gi_wp2
    refine ⟨by first | trivial | decide | simp [Fence.wide, Fence.inRound], (CallsIn.inRound l (callsIn_wide.2 HBS.out)).mono ?_⟩
    rintro e Wq ⟨rfl, m, rfl⟩
    cases kn with
    | true =>
      have hk : Wd.put s q = s := by
        unfold Wd.put
        rw [HPUT.out, if_pos (of_decide_eq_true HKN.out.symm), List.take_of_length_le (by unfold Wd.most; exact HL.out)]
      have HK := hid hk
      clear hk HPUT HKN HBS
      gi_wp2
      rw [HK.out]
      exact ⟨fun k o _ ho _ => ho, HE.out.kept (drewN_below W m)⟩
    | false =>
      have hk : Wd.put s q = (s.take ps ++ [q] ++ s.drop ps).take 64 := by
        unfold Wd.put
        rw [HPUT.out, if_neg (of_decide_eq_false HKN.out.symm)]
        rfl
      have HK := hid hk
      clear hk HPUT HKN HBS
      gi_upto_region 6 with (fail)
      have hE1 := HE.out.kept (drewN_below W m)
      obtain ⟨v1, hv1, ho1⟩ : ∃ v1, v1 = v ∧ OwnS (W.drewN m) (w.heap.size + 2) v1 s := ⟨v, rfl, H2.out.below (drewN_below W m)⟩
      subst hv1
      have hA1 : (W.drewN m).heap[w.heap.size]? = some (.cells #[v1] 22 (0, 0)) := H1.out
      have c1 : (W.drewN m).cell? ⟨w.heap.size, 0, none⟩ = some v1 := by rw [cell_of_row _ _ _ _ _ _ hA1]; rfl
      have HBK := hid (show Books (w.heap.size + 2) W (W.drewN m) from fun k o _ ho _ => ho)
      generalize W.drewN m = W1 at *
      have hb2 : Below W1.heap.size W1 (W1.alloc (.cells #[.string (str q)] 9)) := (Below.refl _ _).alloc (Nat.le_refl _) _
      have hn2 := heap_alloc_new W1 (.cells #[.string (str q)] 9)
      have hown := ho1.below hb2
      have hlt : ∀ b, v1.ownBlock = some b → w.heap.size + 2 ≤ b ∧ b < W1.heap.size := fun b hb => World.ownsRow.lt ho1 b hb
      have HINS := hid (insert_any (W1.alloc (.cells #[.string (str q)] 9)) (w.heap.size + 2) v1 s hown (Nat.le_trans hE1.big hb2.size) ps HLE.out q W1.heap.size hn2 (fun e => by have := (hlt _ e.symm).2; omega) (by have := HL.out; omega))
      have HE1 := hid hE1
      have HB2 := hid hb2
      have HA1 := hid hA1
      have HLT := hid hlt
      clear hE1 hb2 hn2 hown ho1 hA1 hlt c0
      gi_wp2
      refine ⟨by first | trivial | decide | simp [Fence.wide, Fence.inRound], (CallsIn.inRound l (callsIn_wide.2 HINS.out)).mono ?_⟩
      rintro e W4 ⟨v4, rfl, ho4, hg4, hob4⟩
      obtain ⟨L2, hL2⟩ : ∃ L2, L2 = s.take ps ++ [q] ++ s.drop ps := ⟨_, rfl⟩
      rw [← hL2] at ho4 HK
      have hl2 : L2.length = s.length + 1 := by rw [hL2]; have := HLE.out; simp; omega
      have HO4 := hid ho4
      obtain ⟨g, cap, rfl, hgB, hnc, hcm, _, _⟩ := ho4.cell (by omega)
      have hA4 : W4.heap[w.heap.size]? = some (.cells #[v1] 22 (0, 0)) := (hg4.block _ (by have := HB2.out.size; have := (Array.getElem?_eq_some_iff.1 HA1.out).1; omega) (fun e => by have := (HLT.out _ e.symm).1; omega)).trans ((HB2.out.block _ (Array.getElem?_eq_some_iff.1 HA1.out).1).trans HA1.out)
      have hf4 := frozen_of_row _ _ 0 _ _ hA4
      have hc4 : W4.cell? ⟨w.heap.size, 0, none⟩ = some v1 := by rw [cell_of_row _ _ _ _ _ _ hA4]; rfl
      have HA4 := hid hA4
      have HG4 := hid hg4
      rw [hl2] at HO4
      obtain ⟨mm, hmm⟩ : ∃ mm, mm = min (s.length + 1) 64 := ⟨_, rfl⟩
      have hmn : min ((s.length : Int) + 1) 64 = (mm : Int) := by omega
      have hmc : (mm : Int) ≤ (cap : Int) := by omega
      have HMM := hid hmm
      have HL2 := hid hL2
      have HL22 := hid hl2
      rw [hl2] at hnc ⊢
      clear ho4 hg4 hob4 hA4 hmm hL2 HINS c1 hl2
      gi_upto_region 7 with (fail)
      have hA5 := heap_setCell_same _ _ 0 _ _ (.slice (some ⟨g, 0, none⟩) (s.length + 1) cap) HA4.out
      have k5 : ∀ k, k ≠ w.heap.size → (W4.setCell ⟨w.heap.size, 0, none⟩ (.slice (some ⟨g, 0, none⟩) (s.length + 1) cap)).heap[k]? = W4.heap[k]? := fun k hk => heap_setCell_other _ ⟨w.heap.size, 0, none⟩ k _ hk
      have s5 : (W4.setCell ⟨w.heap.size, 0, none⟩ (.slice (some ⟨g, 0, none⟩) (s.length + 1) cap)).heap.size = W4.heap.size := by simp [World.setCell]
      have hq5 : Below w.heap.size W4 (W4.setCell ⟨w.heap.size, 0, none⟩ (.slice (some ⟨g, 0, none⟩) (s.length + 1) cap)) := (Below.refl _ _).setCell (p := ⟨w.heap.size, 0, none⟩) (Nat.le_refl _) _
      generalize W4.setCell ⟨w.heap.size, 0, none⟩ (.slice (some ⟨g, 0, none⟩) (s.length + 1) cap) = W5 at *
      have c5 : W5.cell? ⟨w.heap.size, 0, none⟩ = some (.slice (some ⟨g, 0, none⟩) (s.length + 1) cap) := by rw [cell_of_row _ _ _ _ _ _ hA5]; rfl
      have f5 := frozen_of_row _ _ 0 _ _ hA5
      have HA5 := hid hA5
      have HK5 := hid k5
      have HS5 := hid s5
      have HQ5 := hid hq5
      clear hA5 k5 s5 hf4 hc4 hq5
      gi_wp2
      have hbw : Below w.heap.size w (W5.setCell ⟨w.heap.size, 0, none⟩ (.slice (some ⟨g, 0, none⟩) mm cap)) := by
        have h1 := HE1.out.below
        have h2 := h1.trans (HB2.out.mono h1.size)
        have h3 := h2.grown HG4.out (by have := h2.size; omega) (fun b hb => by have := (HLT.out _ hb).1; omega)
        exact (h3.trans HQ5.out).setCell (p := ⟨w.heap.size, 0, none⟩) (Nat.le_refl _) _
      have k6 : ∀ k, k ≠ w.heap.size → (W5.setCell ⟨w.heap.size, 0, none⟩ (.slice (some ⟨g, 0, none⟩) mm cap)).heap[k]? = W4.heap[k]? := fun k hk => (heap_setCell_other _ ⟨w.heap.size, 0, none⟩ k _ hk).trans (HK5.out k hk)
      have hA6 := heap_setCell_same _ _ 0 _ _ (.slice (some ⟨g, 0, none⟩) mm cap) HA5.out
      have s6 : (W5.setCell ⟨w.heap.size, 0, none⟩ (.slice (some ⟨g, 0, none⟩) mm cap)).heap.size = W4.heap.size := by rw [← HS5.out]; simp [World.setCell]
      generalize W5.setCell ⟨w.heap.size, 0, none⟩ (.slice (some ⟨g, 0, none⟩) mm cap) = W6 at *
      have hk4 : ∀ (k : Nat) (o : Obj), W1.heap[k]? = some o → some k ≠ v1.ownBlock → W4.heap[k]? = some o := fun k o ho hk => by
        have hkl := (Array.getElem?_eq_some_iff.1 ho).1
        exact (HG4.out.block k (by have := HB2.out.size; omega) hk).trans ((HB2.out.block k hkl).trans ho)
      have hpm : Wd.put s q = L2.take mm := by
        rw [HK.out, HMM.out, ← HL22.out, List.take_eq_take_iff]
        omega
      refine ⟨?_, ?_, ?_, ?_, ?_, ?_, hbw, ?_⟩
      · intro k o hkB ho hc
        rw [k6 k (by omega)]
        refine hk4 k o (HBK.out k o hkB ho hc) (fun e => ?_)
        obtain ⟨_, ⟨rfl, _⟩ | ⟨g1, cap1, cur1, rfl, _, hg1, _⟩⟩ := H2.out
        · cases e
        · simp only [Value.ownBlock, Option.some.injEq] at e
          subst e
          rw [hg1] at ho
          injection ho with ho
          subst ho
          cases hc
      · rw [k6 _ (by omega)]
        exact hk4 _ _ HE1.out.box (fun e => by have := (HLT.out _ e.symm).1; omega)
      · refine ⟨_, hA6, ?_⟩
        rw [hpm]
        exact (HO4.out.at fun g' cs' hg' hh' => k6 g' (by omega)).take mm (by rw [HL22.out, HMM.out]; omega)
      · exact Wd.sorted_take _ _ (Wd.sorted_ins _ _ HE.out.sorted)
      · exact Wd.put_length _ _
      · intro x hx b hb
        rcases (Wd.mem_ins s q x).1 (List.mem_of_mem_take hx) with rfl | hx
        · exact hq256 b hb
        · exact HE.out.small x hx b hb
      · rw [s6]
        exact Nat.le_trans (Nat.le_trans HE1.out.big HB2.out.size) HG4.out.size
  case done =>
    rintro W he hD
    obtain ⟨v, h1, h2⟩ := he.out
    have c0 : W.cell? ⟨w.heap.size, 0, none⟩ = some v := by rw [cell_of_row _ _ _ _ _ _ h1]; rfl
    gi_wp2
    refine ⟨by simp, .inl ⟨_, _, rfl, run_takeDeferred hD, ?_⟩⟩
    have hbk : BookAt w2.heap.size W (W.putObj w2.heap.size (.deferred none)) := bookAt_put (Nat.le_refl _) hD rfl
    have he2 := he.book hbk (by omega)
    refine ⟨_, results_tmp rfl _ _ _, v, rfl, ?_, he2.below⟩
    exact (h2.at fun g cs _ hg => (book_cells hg hbk).trans hg.symm).mono (by omega)
end Go.Proofs.Ytaipaifnkpgmhaa
