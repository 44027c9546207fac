/-
  Layer 15: words that are asked for: the library's Values, Collect, Sorted; Clean.
-/
import Derived.Test.YtaipaifnkpgmhaaWs8
import Derived.Sort.Row
namespace Go.Proofs.Ytaipaifnkpgmhaa
open Go.ChangeShapes Go.WideShapes Go.ChangeAt Go.RowKit Go.Shelf
open Go.Lib (hid)

attribute [local go_sem] Oper.semAt_some

set_option maxRecDepth 100000 in
theorem values_any (v : Value) (ao : Option Addr) (n cap : Nat) (hv : v = .slice ao n cap) (w : World) : Calls Try.prog 28 #[v] w fun e w' => e = .returned (.func (.func 39) #[] #[.pointer (some ⟨w.heap.size, 0, none⟩)]) ∧ w' = w.alloc (.cells #[v] 22) := by
  subst hv
  have hmf := run_mkFw Try.prog
  go_enter Try.func28, Try.ntmps28
  go_wp2
  go_ret
  exact ⟨rfl, rfl⟩
set_option maxHeartbeats 1000000 in
set_option maxRecDepth 100000 in
theorem values_in {σ : Type} (m : Nat) (hm : 1 ≤ m) (tb : Nat) (ao : Option Addr) (L : List (List Nat)) (cap : Nat) (hL : L.length ≤ 1000) (E0 : σ → World → Prop) (f : σ → List Nat → σ)
    (hbox : ∀ s W, E0 s W → W.heap[tb]? = some (.cells #[.slice ao L.length cap] 22 (0, 0)) ∧ Strs W ao L) (s0 : σ) (l : Nat) (X : World → Prop) (W1 : World) (h : E0 s0 W1) (hX : X W1)
    (hY : ∀ k W, k < L.length → E0 ((L.take k).foldl f s0) W → X W → YieldAt Fence.wide (m - 1) Try.prog l #[.string (str (L.getD k []))] W fun e W' => e = .returned (.bool true) ∧ E0 (f ((L.take k).foldl f s0) (L.getD k [])) W' ∧ X W') :
    CallsIn Fence.wide m Try.prog 39 #[.func (.yield l) #[] #[], .pointer (some ⟨tb, 0, none⟩)] W1 fun e W' => (∃ v, e = .returned v) ∧ E0 (L.foldl f s0) W' ∧ X W' := by
  refine callsIn_of_wp Try.func39 rfl trivial ?_ rfl
  simp only [Try.ntmps39, List.size_toArray, List.length_cons, List.length_nil, Nat.reduceAdd, Nat.reduceSub, Array.replicate_succ, Array.replicate_zero, List.push_toArray, List.append_toArray, List.nil_append, List.cons_append]
  have HB := hid hbox
  have c0 : W1.cell? ⟨tb, 0, none⟩ = some (.slice ao L.length cap) := by rw [cell_of_row _ _ _ _ _ _ (hbox s0 W1 h).1]; rfl
  clear hbox
  gi_wp2
  gi_loopw [7] (fun i wr => ∃ (k : Nat), i = .int .i64 (k : Nat) ∧ k ≤ L.length ∧ E0 ((L.take k).foldl f s0) wr ∧ X wr)
    (fun i _ => L.length - (intOf i).toNat)
  case atStart => exact ⟨0, rfl, by omega, h, hX⟩
  case round =>
    obtain ⟨k, rfl, hk, he, hx⟩ := hrel
    have HE := hid he
    have HX := hid hx
    clear he hx h hX c0
    by_cases hkl : k < L.length
    · have g1 : (k : Int) < L.length := by omega
      obtain ⟨sb, so, rfl, hc⟩ := (HB.out _ _ HE.out).2 k hkl
      have hnext : (L.take (k + 1)).foldl f s0 = f ((L.take k).foldl f s0) (L.getD k []) := by
        rw [List.take_succ_eq_append_getElem hkl, List.foldl_append, List.getD_eq_getElem?_getD, List.getElem?_eq_getElem hkl]
        rfl
      obtain ⟨fn, tmps, assign, body, hy, hRR⟩ := hY k wr hkl HE.out HX.out
      have HN := hid hnext
      generalize L.getD k [] = q at *
      clear hnext
      gi_wp2
      refine hRR.mono ?_
      rintro e' W3 ⟨rfl, he3, hx3⟩
      have HE3 := hid he3
      have HX3 := hid hx3
      clear he3 hx3 hRR hy HX HE hc
      gi_wp2
      have hkk : (k : Int) + 1 = ((k + 1 : Nat) : Int) := by omega
      refine ⟨?_, ?_⟩
      · skip
        first
          | exact ⟨k + 1, congrArg (Value.int .i64) hkk, by omega, by rw [HN.out]; exact HE3.out, HX3.out⟩
          | ((repeat apply Exists.intro); refine ⟨?_, rfl⟩; exact ⟨k + 1, congrArg (Value.int .i64) hkk, by omega, by rw [HN.out]; exact HE3.out, HX3.out⟩)
      · simp [intOf]
        omega
    · obtain rfl : k = L.length := by omega
      have he := HE.out
      rw [List.take_length] at he
      have HE2 := hid he
      clear he HE
      gi_wp2
      exact bodyPost_end (results_none rfl _ _ _) rfl ⟨⟨_, rfl⟩, HE2.out, HX.out⟩
theorem ownsRow_sl {w : World} {base : Nat} {e : TypeId} {size n : Nat} {v : Value} {xs : List Value} (h : w.ownsRow base e size v n xs) : ∃ ao cap, v = .slice ao n cap := by
  obtain ⟨_, ⟨h1, h2⟩ | ⟨g, cap, cur, hv, _⟩⟩ := h
  · subst h2; exact ⟨_, _, h1⟩
  · exact ⟨_, _, hv⟩
theorem foldl_snoc (L : List (List Nat)) : L.foldl (fun s q => s ++ [q]) ([] : List (List Nat)) = L := by
  have : ∀ (L s : List (List Nat)), L.foldl (fun s q => s ++ [q]) s = s ++ L := by
    intro L
    induction L with
    | nil => intro s; simp
    | cons x L ih => intro s; rw [List.foldl_cons, ih, List.append_assoc]; rfl
  simpa using this L []
structure Wv (w : World) (A B : Nat) (s : List (List Nat)) (W : World) : Prop where
  out : ∃ v, W.heap[A]? = some (.cells #[v] 22 (0, 0)) ∧ OwnS W B v s
  below : Below w.heap.size w W
  big : B ≤ W.heap.size
theorem Wv.book {w : World} {A B : Nat} {s : List (List Nat)} {W W' : World} (h : Wv w A B s W) {B' : Nat} (hb : BookAt B' W W') (hB : w.heap.size ≤ B') : Wv w A B s W' := by
  obtain ⟨v, h1, h2⟩ := h.out
  exact ⟨⟨v, book_cells h1 hb, h2.at fun g cs _ hg => (book_cells hg hb).trans hg.symm⟩, below_book h.below hb hB (Nat.le_refl _), Nat.le_trans h.big hb.size⟩
set_option maxHeartbeats 4000000 in
set_option maxRecDepth 100000 in
theorem appendSeq_any (tb : Nat) (ao : Option Addr) (L : List (List Nat)) (cap : Nat) (hL : L.length ≤ 1000) (w : World) (hbx : w.heap[tb]? = some (.cells #[.slice ao L.length cap] 22 (0, 0))) (hst : Strs w ao L) :
    Calls Try.prog 42 #[.slice none 0 0, .func (.func 39) #[] #[.pointer (some ⟨tb, 0, none⟩)]] w fun e w' => ∃ v, e = .returned v ∧ OwnS w' w.heap.size v L ∧ Below w.heap.size w w' := by
  have HST := hid hst
  have HBX := hid hbx
  have htl := (Array.getElem?_eq_some_iff.1 hbx).1
  clear hst hbx
  refine (callsIn_wide (n := 9)).1 ?_
  refine callsIn_of_wp_marks Try.func42 rfl trivial ?_ rfl
  simp only [Try.ntmps42, List.size_toArray, List.length_cons, List.length_nil, Nat.reduceAdd, Nat.reduceSub, Array.replicate_succ, Array.replicate_zero, List.push_toArray, List.append_toArray, List.nil_append, List.cons_append]
  gi_wp2
  have hA := heap_alloc_new w (.cells #[.slice none 0 0] 22)
  have hsz : (w.alloc (.cells #[.slice none 0 0] 22)).heap.size = w.heap.size + 1 := World.size_alloc _ _
  have hbw : Below w.heap.size w (w.alloc (.cells #[.slice none 0 0] 22)) := (Below.refl _ _).alloc (Nat.le_refl _) _
  generalize w.alloc (.cells #[.slice none 0 0] 22) = w2 at *
  have HW0 := hid (show Wv w w.heap.size (w.heap.size + 1) [] w2 from ⟨⟨_, hA, OwnS.nil _ _⟩, hbw, by omega⟩)
  clear hA hbw
  refine wp_rangeAll (by decide) rfl (enters_of Try.func39 (by kernel_rfl) rfl) (fun q : List Nat => Value.string (str q))
    (fun (s : List (List Nat)) W => Wv w w.heap.size (w.heap.size + 1) s W) (fun s q => s ++ [q]) [] L
    (fun s q W => Wv w w.heap.size (w.heap.size + 1) s W ∧ s.length ≤ 1000)
    (fun s q a' W => (Wv w w.heap.size (w.heap.size + 1) s W ∧ s.length ≤ 1000) ∧ a' = { tmps := #[.slice none 0 0, .func (.func 39) #[] #[.pointer (some ⟨tb, 0, none⟩)], .pointer (some ⟨w.heap.size, 0, none⟩), undef, .slice none 0 0, .string (str q), .func (.func 39) #[] #[.pointer (some ⟨tb, 0, none⟩)], .string (str q), undef, undef, undef, undef, undef], defers := [] })
    (fun _ => False) (fun k hk => hk.elim) HW0.out
    (fun s W W' he hb => he.book hb (by omega))
    (fun s q a' W W' he hb => ⟨⟨he.1.1.book hb (by omega), he.1.2⟩, he.2⟩)
    ?iter ?assign ?body ?done
  case iter =>
    intro l X W1 hl hE hX hXk hY
    have := values_in (9 - 1) (by decide) tb ao L cap hL (fun (s : List (List Nat)) W => Wv w w.heap.size (w.heap.size + 1) s W) (fun s q => s ++ [q])
      (fun s W h => ⟨(h.below.block tb htl).trans HBX.out, HST.out.below h.below⟩) [] l X W1 hE hX
      (fun k W hk he hx => hY _ _ W ⟨he, by rw [foldl_snoc, List.length_take]; omega⟩ hx)
    rw [foldl_snoc] at this
    exact this
  case assign =>
    rintro l s q W hl hr
    gi_wp2
    exact ⟨Books.refl _ _, Nat.le_refl _, hr, by trivial⟩
  case body =>
    rintro l s q a' W hl ⟨⟨he, hsl⟩, rfl⟩
    obtain ⟨v, h1, h2⟩ := he.out
    obtain ⟨a0, c0', hv0⟩ := ownsRow_sl h2
    have c0 : W.cell? ⟨w.heap.size, 0, none⟩ = some v := by rw [cell_of_row _ _ _ _ _ _ h1]; rfl
    have hb2 : Below W.heap.size W (W.alloc (.cells #[.string (str q)] 9)) := (Below.refl _ _).alloc (Nat.le_refl _) _
    have hn2 := heap_alloc_new W (.cells #[.string (str q)] 9)
    have hown := h2.below hb2
    have hlt : ∀ b, v.ownBlock = some b → w.heap.size + 1 ≤ b ∧ b < W.heap.size := fun b hb => World.ownsRow.lt h2 b hb
    have hA2 := (hb2.block _ (Array.getElem?_eq_some_iff.1 h1).1).trans h1
    obtain ⟨i, hi, hz0, hz1, hz2⟩ := info_parts info9
    have HE := hid he
    have HLT := hid hlt
    have HB2 := hid hb2
    have H2 := hid h2
    clear he hlt h2
    subst hv0
    have hnc : ∀ (j : Nat) (u : Value), ([Value.string (str q)])[j]? = some u → (W.alloc (.cells #[.string (str q)] 9)).cell? ((⟨W.heap.size, 0, none⟩ : Addr).add j) = some u := fun j u hj => by
      have hj1 : j < 1 := (List.getElem?_eq_some_iff.1 hj).1
      obtain rfl : j = 0 := by omega
      rw [Addr.add_mid, cell_of_row _ _ _ _ _ _ hn2, ← Array.getElem?_toList]
      exact hj
    have hno : ∀ u ∈ [Value.string (str q)], u.oneCell' = true := fun u hu => by simp only [List.mem_singleton] at hu; subst hu; rfl
    have hbs : w.heap.size + 1 ≤ (W.alloc (.cells #[.string (str q)] 9)).heap.size := Nat.le_trans HE.out.big HB2.out.size
    have HAPP := hid (fun (F : Fence) (n : Nat) (ops : Array Oper) (rest : List Oper) (o : Oper) (aa : Act) (Q : Exit → Act → World → Prop) (hg : o.guard = none) (ss x : Operand) (hop : o.op = Op.call { callee := Callee.builtin Builtin.append, args := #[ss, x], argTypes := #[22, 22] }) (hs : aa.eval ss = .slice a0 s.length c0') (hx : aa.eval x = .slice (some ⟨W.heap.size, 0, none⟩) 1 1) (hK : _) =>
      wpListIn_append_own (F := F) (n := n) (ops := ops) (rest := rest) (o := o) (a := aa) (Q := Q) _ hg ss x 22 hop (w.heap.size + 1) 9 i _ 1 16 Try.underlying22 hi hz0 hz1 hz2 rfl (by decide) _ s.length (s.map fun l => Value.string (str l)) hs hown ⟨W.heap.size, 0, none⟩ 1 1 [.string (str q)] hx rfl hnc hno (by unfold maxLen; omega) (by omega) hbs hK)
    gi_wp2_with (gi_at_builtin; refine HAPP.out _ _ _ _ _ _ _ rfl _ _ rfl rfl rfl ?_; intro v' w4 ho4 hg4 _; obtain ⟨a4, c4, hv4⟩ := ownsRow_sl ho4; subst hv4; have hA4 := (hg4.block _ (by have := HB2.out.size; have := (Array.getElem?_eq_some_iff.1 h1).1; omega) (fun e => by have := (HLT.out _ e.symm).1; omega)).trans hA2; have hf4 := frozen_of_row _ _ 0 _ _ hA4; have hc4 : w4.cell? ⟨w.heap.size, 0, none⟩ = some (.slice a0 s.length c0') := by (rw [cell_of_row _ _ _ _ _ _ hA4]; rfl))
    have k6 : ∀ k, k ≠ w.heap.size → (w4.setCell ⟨w.heap.size, 0, none⟩ (.slice a4 (s.length + 1) c4)).heap[k]? = w4.heap[k]? := fun k hk => heap_setCell_other _ ⟨w.heap.size, 0, none⟩ k _ hk
    have hA6 := heap_setCell_same _ _ 0 _ _ (.slice a4 (s.length + 1) c4) hA4
    have s6 : (w4.setCell ⟨w.heap.size, 0, none⟩ (.slice a4 (s.length + 1) c4)).heap.size = w4.heap.size := by simp [World.setCell]
    have hbw : Below w.heap.size w (w4.setCell ⟨w.heap.size, 0, none⟩ (.slice a4 (s.length + 1) c4)) := by
      have p1 := HE.out.below
      have p2 := p1.trans (HB2.out.mono p1.size)
      have p3 := p2.grown hg4 (by have := p2.size; omega) (fun b hb => by have := (HLT.out _ hb).1; omega)
      exact p3.setCell (p := ⟨w.heap.size, 0, none⟩) (Nat.le_refl _) _
    generalize w4.setCell ⟨w.heap.size, 0, none⟩ (.slice a4 (s.length + 1) c4) = W6 at *
    have hk4 : ∀ (k : Nat) (o : Obj), W.heap[k]? = some o → some k ≠ (Value.slice a0 s.length c0').ownBlock → w4.heap[k]? = some o := fun k o ho hk => by
      have hkl := (Array.getElem?_eq_some_iff.1 ho).1
      exact (hg4.block k (by have := HB2.out.size; omega) hk).trans ((HB2.out.block k hkl).trans ho)
    refine ⟨?_, ⟨_, hA6, ?_⟩, hbw, ?_⟩
    · intro k o hkB ho hc
      rw [k6 k (by omega)]
      refine hk4 k o ho (fun e => ?_)
      obtain ⟨_, ⟨hv, _⟩ | ⟨g1, cap1, cur1, hv, _, hg1, _⟩⟩ := H2.out
      · rw [hv] at e; cases e
      · rw [hv] at e
        simp only [Value.ownBlock, Option.some.injEq] at e
        subst e
        rw [hg1] at ho
        injection ho with ho
        subst ho
        cases hc
    · have ho5 : OwnS w4 (w.heap.size + 1) (.slice a4 (s.length + 1) c4) (s ++ [q]) := by
        unfold OwnS
        rw [List.length_append, List.map_append]
        exact ho4
      exact ho5.at fun g' cs' hg' hh' => (k6 g' (by omega)).trans rfl
    · rw [s6]
      exact Nat.le_trans (Nat.le_trans HE.out.big HB2.out.size) hg4.size
  case done =>
    rintro W he hD
    obtain ⟨v, h1, h2⟩ := he.out
    have c0 : W.cell? ⟨w.heap.size, 0, none⟩ = some v := by rw [cell_of_row _ _ _ _ _ _ h1]; rfl
    gi_wp2
    refine ⟨by simp, .inl ⟨_, _, rfl, run_takeDeferred hD, ?_⟩⟩
    have hbk : BookAt w2.heap.size W (W.putObj w2.heap.size (.deferred none)) := bookAt_put (Nat.le_refl _) hD rfl
    have he2 := he.book hbk (by omega)
    refine ⟨_, results_tmp rfl _ _ _, v, rfl, ?_, he2.below⟩
    exact (h2.at fun g cs _ hg => (book_cells hg hbk).trans hg.symm).mono (by omega)
theorem heap_putRow {α : Type} [Inhabited α] (enc : α → Value) (w : World) (b off : Nat) (d : Array α) (cs : Array Value) (t : TypeId) (h : w.heap[b]? = some (.cells cs t (0, 0))) :
    (Sort.putRow enc w b off d).heap[b]? = some (.cells (Sort.putCells enc off d cs) t (0, 0)) := by
  unfold Sort.putRow Sort.mapBlock
  simp only [Array.getElem?_modify, if_true, h, Option.map_some]
  rfl
theorem heap_putRow_other {α : Type} [Inhabited α] (enc : α → Value) (w : World) (b off : Nat) (d : Array α) (k : Nat) (hk : k ≠ b) : (Sort.putRow enc w b off d).heap[k]? = w.heap[k]? := by
  unfold Sort.putRow Sort.mapBlock
  simp only [Array.getElem?_modify]
  rw [if_neg (fun e => hk e.symm)]
end Go.Proofs.Ytaipaifnkpgmhaa
