/-
  Layer 7: what tree.bottom returns.
-/
import Derived.Test.YtnhecallffkedabDoorBase
import Derived.Test.YtnhecallffkedabDoorTree3
import Derived.Great.BuildSlice
import Derived.Test.YtnhecallffkedabDoorRl
namespace Go.Proofs.YtnhecallffkedabDoor
open Go.RowKit
open Go.Lib (hid)

namespace Tx
/-- The sums of a text, and of two neighbours. -/
def hl (t : List Nat) : List Nat := Sx.digest (leaf t)
def hn (a b : List Nat) : List Nat := Sx.digest (node a b)
theorem hl_length (t : List Nat) : (hl t).length = 32 := digest_length _
theorem hn_length (a b : List Nat) : (hn a b).length = 32 := digest_length _
theorem hl_lt (t : List Nat) : ∀ x ∈ hl t, x < 256 := digest_lt _
theorem hn_lt (a b : List Nat) : ∀ x ∈ hn a b, x < 256 := digest_lt _
end Tx
theorem take_map_succ (M : List (List Nat)) (g : List Nat → List Nat) (k : Nat) (h : k < M.length) : (M.take k).map g ++ [g (M.getD k [])] = (M.take (k + 1)).map g := by
  rw [List.take_succ_eq_append_getElem h, List.map_append, List.map_cons, List.map_nil, List.getD_eq_getElem?_getD, List.getElem?_eq_getElem h]
  rfl
theorem Strs.take {w : World} {ao : Option Addr} {L : List (List Nat)} (h : Strs w ao L) (n : Nat) : Strs w ao (L.take n) := by
  intro i hi
  have hi' : i < L.length := by simp at hi; omega
  obtain ⟨b, o, h1, h2⟩ := h i hi'
  refine ⟨b, o, h1, ?_⟩
  rw [h2]
  congr 3
  simp only [List.getD_eq_getElem?_getD]
  rw [List.getElem?_take_of_lt (by simp at hi; omega)]

/-- A composite literal. -/
theorem wpList_build {P : Program} {w : World} {ops : Array Oper} {rest : List Oper} {o : Oper} {a : Act} {Q : Exit → Act → World → Prop} (hgd : o.guard = none) (ty : TypeId) (parts : Array (Nat × Operand)) (ho : o.op = .build ty parts)
    (vals : Array (Nat × Value)) (hv : (parts.map fun (i, x) => (i, a.eval x)) = vals) (cs : Array Value) (hc : (Instr.build ty vals).run P w = .ok (.agg cs) w)
    (h : wpList P ops Q rest (a.put o.dst (.agg cs)) w) : wpList P ops Q (o :: rest) a w := by
  refine wpList_plain hgd fun K hK => ?_
  unfold Oper.wp execOp
  simp only [ho, hv, Sem.run_bind, Sem.run_pure, Result.andThen_ok, hc]
  exact hK _ _ h
theorem list32 (l : List Nat) (h : l.length = 32) : ∃ a0 a1 a2 a3 a4 a5 a6 a7 a8 a9 a10 a11 a12 a13 a14 a15 a16 a17 a18 a19 a20 a21 a22 a23 a24 a25 a26 a27 a28 a29 a30 a31, l = [a0, a1, a2, a3, a4, a5, a6, a7, a8, a9, a10, a11, a12, a13, a14, a15, a16, a17, a18, a19, a20, a21, a22, a23, a24, a25, a26, a27, a28, a29, a30, a31] := by
  match l, h with
  | [a0, a1, a2, a3, a4, a5, a6, a7, a8, a9, a10, a11, a12, a13, a14, a15, a16, a17, a18, a19, a20, a21, a22, a23, a24, a25, a26, a27, a28, a29, a30, a31], _ => exact ⟨a0, a1, a2, a3, a4, a5, a6, a7, a8, a9, a10, a11, a12, a13, a14, a15, a16, a17, a18, a19, a20, a21, a22, a23, a24, a25, a26, a27, a28, a29, a30, a31, rfl⟩
theorem run_lv (w : World) (r : List Nat) (hr : r.length = 32) : (Instr.build 53 #[(1, .agg (ints .u8 r))]).run Tryd.prog w = .ok (.agg (lvC (.slice none 0 0) r)) w := by
  obtain ⟨a0, a1, a2, a3, a4, a5, a6, a7, a8, a9, a10, a11, a12, a13, a14, a15, a16, a17, a18, a19, a20, a21, a22, a23, a24, a25, a26, a27, a28, a29, a30, a31, rfl⟩ := list32 r hr
  exact run_build w _ _ _ (by kernel_rfl)
theorem fill_sum (f : List Nat) (hf : f.length = 32) : Instr.fill (fun i => some (i * 32, 32)) ((Array.range (1 * 32)).map ((Value.agg (ints .u8 (List.replicate 32 0))).cells[· % (Value.agg (ints .u8 (List.replicate 32 0))).cells.size]!)) [(0, .agg (ints .u8 f))] = some (ints .u8 f) := by
  obtain ⟨a0, a1, a2, a3, a4, a5, a6, a7, a8, a9, a10, a11, a12, a13, a14, a15, a16, a17, a18, a19, a20, a21, a22, a23, a24, a25, a26, a27, a28, a29, a30, a31, rfl⟩ := list32 f hf
  kernel_rfl
/-- A slice literal of one sum: at the operation itself. -/
theorem wp_mkU {w : World} {o : Oper} {a : Act} {K : Act → World → Prop} {Q : Exit → Act → World → Prop} (x : Operand) (ho : o.op = .buildSlice 34 1 #[(0, x)]) (f : List Nat) (hf : f.length = 32) (hx : a.eval x = .agg (ints .u8 f))
    (h : K (a.put o.dst (.slice (some ⟨w.heap.size, 0, none⟩) 1 1)) (w.alloc (.cells (ints .u8 f) 27))) : o.wp Tryd.prog a w K Q := by
  obtain ⟨i, hi, hz0, hz1, hz2⟩ := info_parts info27z
  refine wp_buildSlice 34 27 1 _ ho (ints .u8 f) i _ Tryd.underlying34 hi hz0 (by rw [hz1]; decide) (by rw [hz1]; decide) ?_ h
  rw [hz1]
  simp only [List.map_toArray, List.map_cons, List.map_nil, hx]
  exact fill_sum f hf
theorem wpList_mkU {w : World} {ops : Array Oper} {rest : List Oper} {o : Oper} {a : Act} {Q : Exit → Act → World → Prop} (hgd : o.guard = none) (x : Operand) (ho : o.op = .buildSlice 34 1 #[(0, x)]) (f : List Nat) (hf : f.length = 32) (hx : a.eval x = .agg (ints .u8 f))
    (h : wpList Tryd.prog ops Q rest (a.put o.dst (.slice (some ⟨w.heap.size, 0, none⟩) 1 1)) (w.alloc (.cells (ints .u8 f) 27))) : wpList Tryd.prog ops Q (o :: rest) a w :=
  wpList_plain hgd fun _ hK => wp_mkU x ho f hf hx (hK _ _ h)
theorem wpList_appU {w : World} {ops : Array Oper} {rest : List Oper} {o : Oper} {a : Act} {Q : Exit → Act → World → Prop} (hgd : o.guard = none) (s x : Operand)
    (ho : o.op = .call { callee := .builtin .append, args := #[s, x], argTypes := #[34, 34] })
    (base : Nat) (v : Value) (F : List (List Nat)) (hs : a.eval s = v) (w0 : World) (f : List Nat) (hw : w = w0.alloc (.cells (ints .u8 f) 27)) (hown : OwnU w base v F) (hf : f.length = 32) (hx : a.eval x = .slice (some ⟨w0.heap.size, 0, none⟩) 1 1)
    (hlen : F.length ≤ 1000000) (hbase : base ≤ w.heap.size)
    (h : ∀ v' w', OwnU w' base v' (F ++ [f]) → Below base w w' → wpList Tryd.prog ops Q rest (a.put o.dst v') w') : wpList Tryd.prog ops Q (o :: rest) a w := by
  subst hw
  refine wpList_plain hgd fun _ hK => wp_appU s x ho base v F hs hown ⟨w0.heap.size, 0, none⟩ 1 f hf hx (fun j u hj => ?_) hlen hbase (fun v' w' h1 h2 _ => hK _ _ (h v' w' h1 h2))
  rw [Addr.add_mid, Nat.zero_add, cell_of_row _ _ _ _ _ _ (heap_alloc_new _ _)]
  simpa using hj
theorem info51 : (Tryd.prog.info? 53).map (·.size) = some 33 := by kernel_rfl
theorem lvC_one (v : Value) (hv : v.oneCell' = true) (r : List Nat) : (lvC v r).all (·.oneCell') = true := by
  simp only [lvC, Array.all_append]
  rw [ints_one]
  simp [hv]

/-- While the sums of texts are made: the level at q, and where the result goes. -/
structure Bs (w : World) (q : Nat) (R : List Nat) (v : Value) (u : World) : Prop where
  lv : u.heap[q]? = some (.cells (lvC v R) 53 (0, 0))
  res : ∃ cs : Array Value, cs.size = 33 ∧ u.heap[w.heap.size]? = some (.cells cs 53 (0, 0))
  bel : Below w.heap.size w u
  tab : Tabs u
  sz : q < u.heap.size
theorem Bs.keep {w : World} {q : Nat} {R : List Nat} {v : Value} {u u' : World} (h : Bs w q R v u) (hb : Below u.heap.size u u') : Bs w q R v u' := by
  obtain ⟨cs, hc, hr⟩ := h.res
  exact ⟨by rw [hb.block q h.sz]; exact h.lv, ⟨cs, hc, by rw [hb.block _ (Array.getElem?_eq_some_iff.1 hr).1]; exact hr⟩, h.bel.trans (hb.mono h.bel.size), h.tab.below hb (Nat.le_refl _), Nat.lt_of_lt_of_le h.sz hb.size⟩
theorem Bs.grown {w : World} {q : Nat} {R : List Nat} {v : Value} {u u' : World} (h : Bs w q R v u) (hT : Tabs w) (hwq : w.heap.size < q) (hb : Below (q + 1) u u') : Bs w q R v u' := by
  obtain ⟨cs, hc, hr⟩ := h.res
  have hb' : Below w.heap.size w u' := h.bel.trans (hb.mono (by omega))
  exact ⟨by rw [hb.block q (by omega)]; exact h.lv, ⟨cs, hc, by rw [hb.block _ (by omega)]; exact hr⟩, hb', hT.below hb' (Nat.le_refl _), Nat.lt_of_lt_of_le h.sz hb.size⟩
/-- The level's sums are others. -/
theorem Bs.put {w : World} {q : Nat} {R : List Nat} {v : Value} {u : World} (h : Bs w q R v u) (hT : Tabs w) (hwq : w.heap.size < q) (v' : Value) : Bs w q R v' (u.setCell ⟨q, 0, none⟩ v') := by
  obtain ⟨cs, hc, hr⟩ := h.res
  have hb' := h.bel.setCell (p := ⟨q, 0, none⟩) (show w.heap.size ≤ q by omega) v'
  refine ⟨?_, ⟨cs, hc, by rw [heap_setCell_other _ _ _ _ (by show w.heap.size ≠ q; omega)]; exact hr⟩, hb', hT.below hb' (Nat.le_refl _), by simpa using h.sz⟩
  rw [heap_setCell_same u q 0 _ _ _ h.lv, show (lvC v R).setIfInBounds 0 v' = lvC v' R from by unfold lvC; rw [Array.setIfInBounds_append_left (by simp)]; rfl]

theorem cell_lt {w : World} {b o : Nat} {v : Value} (h : w.cell? ⟨b, o, none⟩ = some v) : b < w.heap.size := by
  rcases Nat.lt_or_ge b w.heap.size with h' | h'
  · exact h'
  · simp [World.cell?, Array.getElem?_eq_none h'] at h

set_option maxHeartbeats 2000000 in
set_option maxRecDepth 100000 in
theorem bottom_any (d : Nat) (hd : d ≤ 16) (ao : Option Addr) (L : List (List Nat)) (cap : Nat) (hcap : L.length ≤ cap) (hao : ao = none → cap = 0) (hL : L.length ≤ 1000) (hb : ∀ x ∈ L.flatten, x < 256) (hlen : ∀ t ∈ L, t.length ≤ 1000000) (w : World) (hT : Tabs w) (hA : Strs w ao L) :
    Calls Tryd.prog 16 #[.int .i64 (d : Int), .slice ao L.length cap] w fun e w' => ∃ v, e = .returned (.agg (lvC v (Tx.hl []))) ∧ OwnU w' w.heap.size v ((L.take (2 ^ d)).map Tx.hl) ∧ Below w.heap.size w w' := by
  have hp := wrap_pow d hd
  have HA := hid hA
  have HT := hid hT
  have HB := hid hb
  have HLN := hid hlen
  clear hT hA hb hlen
  generalize 2 ^ d = q at *
  have HLE := hid (fun wx => leaf_any [] (by simp) wx)
  rw [show str [] = ⟨#[]⟩ from rfl] at HLE
  go_enter Tryd.func16, Tryd.ntmps16
  go_wp2_with fail
  case inl h =>
    obtain ⟨M, hM⟩ : ∃ M, M = L.take q := ⟨_, rfl⟩
    obtain rfl : q = M.length := by rw [hM]; simp; omega
    have HMQ := hid hM.symm
    have HAM := hid (show Strs w ao M from by rw [hM]; exact HA.out.take _)
    have HBM := hid (show (∀ t ∈ M, t ∈ L) from fun t ht => by rw [hM] at ht; exact List.mem_of_mem_take ht)
    have hML : M.length ≤ 1000 := by omega
    clear hM
    refine (HLE.out _).mono ?_
    rintro e w1 ⟨rfl, hw1⟩
    subst hw1
    generalize hw1 : w.alloc _ = w1
    have HZ := hid (show w1.heap[w.heap.size]? = some (.cells (lvC (.slice none 0 0) (List.replicate 32 0)) 53 (0, 0)) from by rw [← hw1, heap_alloc_new]; rfl)
    have HB1 := hid (show Below w.heap.size w w1 from by rw [← hw1]; exact (Below.refl _ _).alloc (Nat.le_refl _) _)
    clear hw1
    go_wp2_with fail
    refine (of_one (Tx.leaf []) (Tx.leaf_lt [] (by simp)) (by simp [Tx.leaf]) _ (HT.out.below HB1.out (Nat.le_refl _)) _).mono ?_
    rintro e w2 ⟨rfl, hb2⟩
    rw [show Sx.digest (Tx.leaf []) = Tx.hl [] from rfl]
    have HB2 := hid hb2
    have hrl := Tx.hl_length []
    generalize hRE : Tx.hl [] = R at *
    have HRE := hid hRE
    clear hRE
    clear hb2
    have HRL := hid (run_lv · R hrl)
    have hls := lvC_size (.slice none 0 0) R hrl
    go_upto_region 4 with (first
      | (refine wpList_build rfl _ _ rfl #[(1, .agg (ints .u8 R))] (by simp only [List.map_toArray, List.map_cons, List.map_nil]; rfl) (lvC (.slice none 0 0) R) (HRL.out _) ?_)
      | (refine wpList_store_row rfl _ _ _ rfl w2.heap.size _ rfl rfl _ _ (heap_alloc_new _ _) (by rw [hls]; exact info51) (by rw [hls]; rfl) (lvC_one _ rfl _) ?_))
    generalize hw3 : (w2.alloc _).setRow _ _ = w3
    have hwq : w.heap.size < w2.heap.size := Nat.lt_of_lt_of_le (Array.getElem?_eq_some_iff.1 HZ.out).1 HB2.out.size
    have HS3 := hid (show Bs w w2.heap.size R (.slice none 0 0) w3 from by
      have hb3 : Below w2.heap.size w2 w3 := by rw [← hw3]; exact below_setRow ((Below.refl _ _).alloc (Nat.le_refl _) _) (Nat.le_refl _) _
      have hbw : Below w.heap.size w w2 := HB1.out.trans (HB2.out.mono HB1.out.size)
      have hbz := hbw.trans (hb3.mono hbw.size)
      refine ⟨?_, ?_, hbz, HT.out.below hbz (Nat.le_refl _), ?_⟩
      · rw [← hw3]; exact setRow_heap _ _ _ _ _ _ (heap_alloc_new _ _)
      · exact ⟨_, lvC_size (.slice none 0 0) (List.replicate 32 0) (by simp), by rw [hb3.block _ hwq, HB2.out.block _ (Array.getElem?_eq_some_iff.1 HZ.out).1]; exact HZ.out⟩
      · exact Nat.lt_of_lt_of_le (Nat.lt_succ_self _) (by rw [← hw3]; simp))
    clear hw3 HZ HB1 HB2 HRL hls
    generalize w2.heap.size = qb at *
    go_loopw [7, 21] (fun _ i wr => ∃ k : Nat, k ≤ M.length ∧ i = .int .i64 k ∧ ∃ v, Bs w qb R v wr ∧ OwnU wr (qb + 1) v ((M.take k).map Tx.hl))
      (fun _ i _ => M.length - (intOf i).toNat)
    case atStart => exact ⟨0, by omega, rfl, _, HS3.out, OwnU.nil _ _⟩
    case round =>
      clear HS3
      obtain ⟨k, hk, rfl, v, hS, hO⟩ := hrel
      have HO := hid hO
      clear hO
      by_cases hlt : k < M.length
      · obtain ⟨sb, so, rfl, hc⟩ := HAM.out k hlt
        have hcell : wr.cell? ⟨sb, so + k, none⟩ = some (.string (str (M.getD k []))) := by
          have hlt' := cell_lt hc
          simp only [World.cell?] at hc ⊢
          rw [hS.bel.block sb hlt']
          exact hc
        have hmem : M.getD k [] ∈ L := HBM.out _ (by simp [List.getD_eq_getElem?_getD, hlt])
        have htb : ∀ x ∈ M.getD k [], x < 256 := fun x hx => HB.out x (List.mem_flatten.2 ⟨_, hmem, hx⟩)
        have htl : (M.getD k []).length ≤ 1000000 := HLN.out _ hmem
        have HLF := hid (fun wx => leaf_any (M.getD k []) (by omega) wx)
        have HOF := hid (fun wx hx => of_one (Tx.leaf (M.getD k [])) (Tx.leaf_lt _ htb) (by rw [Tx.leaf, List.length_cons]; omega) wx hx 9)
        rw [show Sx.digest (Tx.leaf (M.getD k [])) = Tx.hl (M.getD k []) from rfl] at HOF
        have HTS := hid (show (M.take k).map Tx.hl ++ [Tx.hl (M.getD k [])] = (M.take (k + 1)).map Tx.hl from take_map_succ M Tx.hl k hlt)
        have hfl := Tx.hl_length (M.getD k [])
        generalize Tx.hl (M.getD k []) = f at *
        generalize str (Tx.leaf (M.getD k [])) = SL at *
        generalize str (M.getD k []) = ST at *
        have HS := hid hS
        clear hS hc hmem htb htl
        have g1 : (k : Int) < M.length := by omega
        go_upto_region 6 with (fail)
        have hS1 : Bs w qb R v wr.drew := HS.out.keep ((Below.refl _ _).drew)
        refine wp_region_noPanic ?_
        refine wp_region_L 9 (Bs w qb R v) (by kernel_rfl) 10 rfl (fun hcl0 => ?_)
        refine wpAnyL_take (i := 0) (oi := ?oi2) (v := .pointer (some ⟨qb, 0, none⟩)) ?hi2 (by kernel_rfl) (by kernel_rfl) (by kernel_rfl) (by kernel_rfl) hcl0 (fun _ _ _ h => h) ?hy2 hS1 (fun hcl1 => ?_)
        case hi2 => simp only [List.getElem?_toArray, List.getElem?_cons_zero]; rfl
        case hy2 => exact Or.inl ⟨rfl, fun _ hSw => rfl⟩
        simp only [Act.put, List.setIfInBounds_toArray, List.set_cons_zero, List.set_cons_succ]
        refine wpAnyL_take (i := 1) (oi := ?oi3) (v := v) ?hi3 (by kernel_rfl) (by kernel_rfl) (by kernel_rfl) (by kernel_rfl) hcl1 (fun _ _ _ h => h) ?hy3 hS1 (fun hcl2 => ?_)
        case hi3 => simp only [List.getElem?_toArray, List.getElem?_cons_succ, List.getElem?_cons_zero]; rfl
        case hy3 => exact Or.inl ⟨rfl, fun _ hSw => by have hc := lvC_first hSw.lv; go_simp⟩
        simp only [Act.put, List.setIfInBounds_toArray, List.set_cons_zero, List.set_cons_succ]
        refine wpAnyL_take (i := 2) (oi := ?oi4) (v := .string ST) ?hi4 (by kernel_rfl) (by kernel_rfl) (by kernel_rfl) (by kernel_rfl) hcl2 (fun _ _ _ h => h) ?hy4 hS1 (fun hcl3 => ?_)
        case hi4 => simp only [List.getElem?_toArray, List.getElem?_cons_succ, List.getElem?_cons_zero]; rfl
        case hy4 => exact Or.inl ⟨rfl, fun _ hSw => rfl⟩
        simp only [Act.put, List.setIfInBounds_toArray, List.set_cons_zero, List.set_cons_succ]
        clear hcl0 hcl1 hcl2 hcl3
        refine wpAnyL_one (i := 3) (o := ?oi5) (by kernel_rfl) ?hi5 ?hw5 ?step5
        case hi5 => simp only [List.getElem?_toArray, List.getElem?_cons_succ, List.getElem?_cons_zero]; rfl
        case hw5 => rfl
        intro K hK
        go_simp
        refine (HLF.out _).mono ?_
        rintro e w4 ⟨rfl, hw4⟩
        subst hw4
        refine hK.out _ _ (fun _ => hS1) ?_
        clear hK K
        try simp only [Act.put, List.setIfInBounds_toArray, List.set_cons_zero, List.set_cons_succ]
        refine wpAnyL_one (i := 4) (o := ?oi6) (by kernel_rfl) ?hi6 ?hw6 ?step6
        case hi6 => simp only [List.getElem?_toArray, List.getElem?_cons_succ, List.getElem?_cons_zero]; rfl
        case hw6 => rfl
        intro K hK
        go_simp
        refine hK.out _ _ (fun _ => hS1.keep ((Below.refl _ _).alloc (Nat.le_refl _) _)) ?_
        clear hK K
        try simp only [Act.put, List.setIfInBounds_toArray, List.set_cons_zero, List.set_cons_succ]
        refine wpAnyL_one (i := 5) (o := ?oi7) (by kernel_rfl) ?hi7 ?hw7 ?step7
        case hi7 => simp only [List.getElem?_toArray, List.getElem?_cons_succ, List.getElem?_cons_zero]; rfl
        case hw7 => rfl
        intro K hK
        go_simp
        refine (HOF.out wr.drew hS1.tab).mono ?_
        rintro e w5 ⟨rfl, hb5⟩
        have hS5 := hS1.keep hb5
        refine hK.out _ _ (fun _ => hS5) ?_
        clear hK K
        try simp only [Act.put, List.setIfInBounds_toArray, List.set_cons_zero, List.set_cons_succ]
        refine wpAnyL_one (i := 6) (o := ?oi8) (by kernel_rfl) ?hi8 ?hw8 ?step8
        case hi8 => simp only [List.getElem?_toArray, List.getElem?_cons_succ, List.getElem?_cons_zero]; rfl
        case hw8 => rfl
        intro K hK
        refine wp_mkU _ rfl f hfl rfl ?_
        have hS6 := hS5.keep ((Below.refl w5.heap.size w5).alloc (Nat.le_refl _) (.cells (ints .u8 f) 27))
        refine hK.out _ _ (fun _ => hS6) ?_
        clear hK K
        try simp only [Act.put, List.setIfInBounds_toArray, List.set_cons_zero, List.set_cons_succ]
        refine wpAnyL_one (i := 7) (o := ?oi9) (by kernel_rfl) ?hi9 ?hw9 ?step9
        case hi9 => simp only [List.getElem?_toArray, List.getElem?_cons_succ, List.getElem?_cons_zero]; rfl
        case hw9 => rfl
        intro K hK
        have hbx : Below wr.heap.size wr (w5.alloc (.cells (ints .u8 f) 27)) := ((Below.refl _ _).drew.trans hb5).alloc hb5.size _
        refine wp_appU _ _ rfl (qb + 1) v _ rfl (HO.out.below hbx) ⟨w5.heap.size, 0, none⟩ 1 f hfl rfl (fun j u hj => ?_) (by simp; omega) (Nat.le_trans HS.out.sz hbx.size) ?_
        · rw [Addr.add_mid, Nat.zero_add, cell_of_row _ _ _ _ _ _ (heap_alloc_new _ _)]; simpa using hj
        intro v' w6 ho6 hb6 _
        rw [HTS.out] at ho6
        have hS7 := hS6.grown HT.out hwq hb6
        refine hK.out _ _ (fun _ => hS7) ?_
        clear hK K
        try simp only [Act.put, List.setIfInBounds_toArray, List.set_cons_zero, List.set_cons_succ]
        refine wpAnyL_one (i := 8) (o := ?oi10) (by kernel_rfl) ?hi10 ?hw10 ?step10
        case hi10 => simp only [List.getElem?_toArray, List.getElem?_cons_succ, List.getElem?_cons_zero]; rfl
        case hw10 => rfl
        intro K hK
        go_simp
        refine hK.out _ _ (fun _ => hS7) ?_
        clear hK K
        try simp only [Act.put, List.setIfInBounds_toArray, List.set_cons_zero, List.set_cons_succ]
        obtain ⟨ao6, c6, hv6, _⟩ := ho6.sums
        generalize ((M.take (k + 1)).map Tx.hl).length = n6 at hv6
        subst hv6
        refine wpAnyL_one (i := 9) (o := ?oi11) (by kernel_rfl) ?hi11 ?hw11 ?step11
        case hi11 => simp only [List.getElem?_toArray, List.getElem?_cons_succ, List.getElem?_cons_zero]; rfl
        case hw11 => rfl
        intro K hK
        have hfz := frozen_of_row w6 qb 0 _ _ hS7.lv
        have hcz := lvC_first hS7.lv
        go_simp
        refine hK.out _ _ (fun h => absurd rfl h) ?_
        clear hK K
        refine wpAnyL_done (by kernel_rfl) ?_ _
        refine NoPanic.normal ?_
        have HP := hid (hS7.put HT.out hwq (.slice ao6 n6 c6))
        have HOX := hid (show OwnU (w6.setCell ⟨qb, 0, none⟩ (.slice ao6 n6 c6)) (qb + 1) (.slice ao6 n6 c6) ((M.take (k + 1)).map Tx.hl) from by
          obtain ⟨o1, o2, o3 | ⟨g, c, cur, hv, hg, hh, r⟩⟩ := ho6
          · exact ⟨o1, o2, Or.inl o3⟩
          · exact ⟨o1, o2, Or.inr ⟨g, c, cur, hv, hg, by rw [heap_setCell_other _ _ _ _ (by show g ≠ qb; omega)]; exact hh, r⟩⟩)
        clear hS1 hS5 hS6 hS7 ho6 hb6 hb5 hbx hfz hcz
        go_wp2
        exact ⟨⟨k + 1, by omega, congrArg (Value.int .i64) (by omega), _, HP.out, HOX.out⟩, by simp only [intOf]; omega⟩
      · obtain rfl : k = M.length := by omega
        rw [List.take_length] at HO
        have HS := hid hS
        have hls : (lvC v R).size = 33 := lvC_size v R hrl
        have hone : v.oneCell' = true := by obtain ⟨a1, c1, h1, _⟩ := HO.out.sums; rw [h1]; rfl
        obtain ⟨cs, hcs, hres⟩ := hS.res
        have HR := hid hres
        clear hS hres
        go_wp2_with (first
          | (refine wpList_load_row rfl _ _ rfl qb rfl _ _ _ _ HS.out.lv Tryd.underlying53 rfl (by rw [hls]; exact info51) ?_)
          | (refine wpList_store_row rfl _ _ _ rfl w.heap.size _ rfl rfl _ _ HR.out (by rw [hls]; exact info51) (by rw [hls, hcs]) (lvC_one _ hone _) ?_))
        refine bodyPost_ret (v := .agg (lvC v R))
          (results_cell_row Tryd.results16 _ _ w.heap.size _ _ _ _ rfl (setRow_heap wr w.heap.size _ _ _ _ HR.out) Tryd.underlying53 rfl (by rw [hls]; exact info51))
          rfl ?_
        refine ⟨v, by rw [HRE.out], ?_, below_setRow HS.out.bel (Nat.le_refl _) _⟩
        rw [HMQ.out]
        obtain ⟨o1, o2, o3 | ⟨g, c, cur, hv, hg, hh, r⟩⟩ := HO.out
        · exact ⟨o1, o2, Or.inl o3⟩
        · exact ⟨o1, o2, Or.inr ⟨g, c, cur, hv, by omega, by rw [setRow_other _ _ _ _ (by omega)]; exact hh, r⟩⟩
  case inr h =>
    obtain ⟨M, hM⟩ : ∃ M, M = L := ⟨_, rfl⟩
    have HMQ := hid (show L.take q = M from by rw [hM]; exact List.take_of_length_le (by omega))
    have HAM := hid (show Strs w ao M from by rw [hM]; exact HA.out)
    have HBM := hid (show (∀ t ∈ M, t ∈ L) from fun t ht => by rw [hM] at ht; exact ht)
    rw [← hM]
    have hML : M.length ≤ 1000 := by rw [hM]; exact hL
    clear hM
    refine (HLE.out _).mono ?_
    rintro e w1 ⟨rfl, hw1⟩
    subst hw1
    generalize hw1 : w.alloc _ = w1
    have HZ := hid (show w1.heap[w.heap.size]? = some (.cells (lvC (.slice none 0 0) (List.replicate 32 0)) 53 (0, 0)) from by rw [← hw1, heap_alloc_new]; rfl)
    have HB1 := hid (show Below w.heap.size w w1 from by rw [← hw1]; exact (Below.refl _ _).alloc (Nat.le_refl _) _)
    clear hw1
    go_wp2_with fail
    refine (of_one (Tx.leaf []) (Tx.leaf_lt [] (by simp)) (by simp [Tx.leaf]) _ (HT.out.below HB1.out (Nat.le_refl _)) _).mono ?_
    rintro e w2 ⟨rfl, hb2⟩
    rw [show Sx.digest (Tx.leaf []) = Tx.hl [] from rfl]
    have HB2 := hid hb2
    have hrl := Tx.hl_length []
    generalize hRE : Tx.hl [] = R at *
    have HRE := hid hRE
    clear hRE
    clear hb2
    have HRL := hid (run_lv · R hrl)
    have hls := lvC_size (.slice none 0 0) R hrl
    go_upto_region 4 with (first
      | (refine wpList_build rfl _ _ rfl #[(1, .agg (ints .u8 R))] (by simp only [List.map_toArray, List.map_cons, List.map_nil]; rfl) (lvC (.slice none 0 0) R) (HRL.out _) ?_)
      | (refine wpList_store_row rfl _ _ _ rfl w2.heap.size _ rfl rfl _ _ (heap_alloc_new _ _) (by rw [hls]; exact info51) (by rw [hls]; rfl) (lvC_one _ rfl _) ?_))
    generalize hw3 : (w2.alloc _).setRow _ _ = w3
    have hwq : w.heap.size < w2.heap.size := Nat.lt_of_lt_of_le (Array.getElem?_eq_some_iff.1 HZ.out).1 HB2.out.size
    have HS3 := hid (show Bs w w2.heap.size R (.slice none 0 0) w3 from by
      have hb3 : Below w2.heap.size w2 w3 := by rw [← hw3]; exact below_setRow ((Below.refl _ _).alloc (Nat.le_refl _) _) (Nat.le_refl _) _
      have hbw : Below w.heap.size w w2 := HB1.out.trans (HB2.out.mono HB1.out.size)
      have hbz := hbw.trans (hb3.mono hbw.size)
      refine ⟨?_, ?_, hbz, HT.out.below hbz (Nat.le_refl _), ?_⟩
      · rw [← hw3]; exact setRow_heap _ _ _ _ _ _ (heap_alloc_new _ _)
      · exact ⟨_, lvC_size (.slice none 0 0) (List.replicate 32 0) (by simp), by rw [hb3.block _ hwq, HB2.out.block _ (Array.getElem?_eq_some_iff.1 HZ.out).1]; exact HZ.out⟩
      · exact Nat.lt_of_lt_of_le (Nat.lt_succ_self _) (by rw [← hw3]; simp))
    clear hw3 HZ HB1 HB2 HRL hls
    generalize w2.heap.size = qb at *
    go_loopw [7, 21] (fun _ i wr => ∃ k : Nat, k ≤ M.length ∧ i = .int .i64 k ∧ ∃ v, Bs w qb R v wr ∧ OwnU wr (qb + 1) v ((M.take k).map Tx.hl))
      (fun _ i _ => M.length - (intOf i).toNat)
    case atStart => exact ⟨0, by omega, rfl, _, HS3.out, OwnU.nil _ _⟩
    case round =>
      clear HS3
      obtain ⟨k, hk, rfl, v, hS, hO⟩ := hrel
      have HO := hid hO
      clear hO
      by_cases hlt : k < M.length
      · obtain ⟨sb, so, rfl, hc⟩ := HAM.out k hlt
        have hcell : wr.cell? ⟨sb, so + k, none⟩ = some (.string (str (M.getD k []))) := by
          have hlt' := cell_lt hc
          simp only [World.cell?] at hc ⊢
          rw [hS.bel.block sb hlt']
          exact hc
        have hmem : M.getD k [] ∈ L := HBM.out _ (by simp [List.getD_eq_getElem?_getD, hlt])
        have htb : ∀ x ∈ M.getD k [], x < 256 := fun x hx => HB.out x (List.mem_flatten.2 ⟨_, hmem, hx⟩)
        have htl : (M.getD k []).length ≤ 1000000 := HLN.out _ hmem
        have HLF := hid (fun wx => leaf_any (M.getD k []) (by omega) wx)
        have HOF := hid (fun wx hx => of_one (Tx.leaf (M.getD k [])) (Tx.leaf_lt _ htb) (by rw [Tx.leaf, List.length_cons]; omega) wx hx 9)
        rw [show Sx.digest (Tx.leaf (M.getD k [])) = Tx.hl (M.getD k []) from rfl] at HOF
        have HTS := hid (show (M.take k).map Tx.hl ++ [Tx.hl (M.getD k [])] = (M.take (k + 1)).map Tx.hl from take_map_succ M Tx.hl k hlt)
        have hfl := Tx.hl_length (M.getD k [])
        generalize Tx.hl (M.getD k []) = f at *
        generalize str (Tx.leaf (M.getD k [])) = SL at *
        generalize str (M.getD k []) = ST at *
        have HS := hid hS
        clear hS hc hmem htb htl
        have g1 : (k : Int) < M.length := by omega
        go_upto_region 6 with (fail)
        have hS1 : Bs w qb R v wr.drew := HS.out.keep ((Below.refl _ _).drew)
        refine wp_region_noPanic ?_
        refine wp_region_L 9 (Bs w qb R v) (by kernel_rfl) 10 rfl (fun hcl0 => ?_)
        refine wpAnyL_take (i := 0) (oi := ?oi13) (v := .pointer (some ⟨qb, 0, none⟩)) ?hi13 (by kernel_rfl) (by kernel_rfl) (by kernel_rfl) (by kernel_rfl) hcl0 (fun _ _ _ h => h) ?hy13 hS1 (fun hcl1 => ?_)
        case hi13 => simp only [List.getElem?_toArray, List.getElem?_cons_zero]; rfl
        case hy13 => exact Or.inl ⟨rfl, fun _ hSw => rfl⟩
        simp only [Act.put, List.setIfInBounds_toArray, List.set_cons_zero, List.set_cons_succ]
        refine wpAnyL_take (i := 1) (oi := ?oi14) (v := v) ?hi14 (by kernel_rfl) (by kernel_rfl) (by kernel_rfl) (by kernel_rfl) hcl1 (fun _ _ _ h => h) ?hy14 hS1 (fun hcl2 => ?_)
        case hi14 => simp only [List.getElem?_toArray, List.getElem?_cons_succ, List.getElem?_cons_zero]; rfl
        case hy14 => exact Or.inl ⟨rfl, fun _ hSw => by have hc := lvC_first hSw.lv; go_simp⟩
        simp only [Act.put, List.setIfInBounds_toArray, List.set_cons_zero, List.set_cons_succ]
        refine wpAnyL_take (i := 2) (oi := ?oi15) (v := .string ST) ?hi15 (by kernel_rfl) (by kernel_rfl) (by kernel_rfl) (by kernel_rfl) hcl2 (fun _ _ _ h => h) ?hy15 hS1 (fun hcl3 => ?_)
        case hi15 => simp only [List.getElem?_toArray, List.getElem?_cons_succ, List.getElem?_cons_zero]; rfl
        case hy15 => exact Or.inl ⟨rfl, fun _ hSw => rfl⟩
        simp only [Act.put, List.setIfInBounds_toArray, List.set_cons_zero, List.set_cons_succ]
        clear hcl0 hcl1 hcl2 hcl3
        refine wpAnyL_one (i := 3) (o := ?oi16) (by kernel_rfl) ?hi16 ?hw16 ?step16
        case hi16 => simp only [List.getElem?_toArray, List.getElem?_cons_succ, List.getElem?_cons_zero]; rfl
        case hw16 => rfl
        intro K hK
        go_simp
        refine (HLF.out _).mono ?_
        rintro e w4 ⟨rfl, hw4⟩
        subst hw4
        refine hK.out _ _ (fun _ => hS1) ?_
        clear hK K
        try simp only [Act.put, List.setIfInBounds_toArray, List.set_cons_zero, List.set_cons_succ]
        refine wpAnyL_one (i := 4) (o := ?oi17) (by kernel_rfl) ?hi17 ?hw17 ?step17
        case hi17 => simp only [List.getElem?_toArray, List.getElem?_cons_succ, List.getElem?_cons_zero]; rfl
        case hw17 => rfl
        intro K hK
        go_simp
        refine hK.out _ _ (fun _ => hS1.keep ((Below.refl _ _).alloc (Nat.le_refl _) _)) ?_
        clear hK K
        try simp only [Act.put, List.setIfInBounds_toArray, List.set_cons_zero, List.set_cons_succ]
        refine wpAnyL_one (i := 5) (o := ?oi18) (by kernel_rfl) ?hi18 ?hw18 ?step18
        case hi18 => simp only [List.getElem?_toArray, List.getElem?_cons_succ, List.getElem?_cons_zero]; rfl
        case hw18 => rfl
        intro K hK
        go_simp
        refine (HOF.out wr.drew hS1.tab).mono ?_
        rintro e w5 ⟨rfl, hb5⟩
        have hS5 := hS1.keep hb5
        refine hK.out _ _ (fun _ => hS5) ?_
        clear hK K
        try simp only [Act.put, List.setIfInBounds_toArray, List.set_cons_zero, List.set_cons_succ]
        refine wpAnyL_one (i := 6) (o := ?oi19) (by kernel_rfl) ?hi19 ?hw19 ?step19
        case hi19 => simp only [List.getElem?_toArray, List.getElem?_cons_succ, List.getElem?_cons_zero]; rfl
        case hw19 => rfl
        intro K hK
        refine wp_mkU _ rfl f hfl rfl ?_
        have hS6 := hS5.keep ((Below.refl w5.heap.size w5).alloc (Nat.le_refl _) (.cells (ints .u8 f) 27))
        refine hK.out _ _ (fun _ => hS6) ?_
        clear hK K
        try simp only [Act.put, List.setIfInBounds_toArray, List.set_cons_zero, List.set_cons_succ]
        refine wpAnyL_one (i := 7) (o := ?oi20) (by kernel_rfl) ?hi20 ?hw20 ?step20
        case hi20 => simp only [List.getElem?_toArray, List.getElem?_cons_succ, List.getElem?_cons_zero]; rfl
        case hw20 => rfl
        intro K hK
        have hbx : Below wr.heap.size wr (w5.alloc (.cells (ints .u8 f) 27)) := ((Below.refl _ _).drew.trans hb5).alloc hb5.size _
        refine wp_appU _ _ rfl (qb + 1) v _ rfl (HO.out.below hbx) ⟨w5.heap.size, 0, none⟩ 1 f hfl rfl (fun j u hj => ?_) (by simp; omega) (Nat.le_trans HS.out.sz hbx.size) ?_
        · rw [Addr.add_mid, Nat.zero_add, cell_of_row _ _ _ _ _ _ (heap_alloc_new _ _)]; simpa using hj
        intro v' w6 ho6 hb6 _
        rw [HTS.out] at ho6
        have hS7 := hS6.grown HT.out hwq hb6
        refine hK.out _ _ (fun _ => hS7) ?_
        clear hK K
        try simp only [Act.put, List.setIfInBounds_toArray, List.set_cons_zero, List.set_cons_succ]
        refine wpAnyL_one (i := 8) (o := ?oi21) (by kernel_rfl) ?hi21 ?hw21 ?step21
        case hi21 => simp only [List.getElem?_toArray, List.getElem?_cons_succ, List.getElem?_cons_zero]; rfl
        case hw21 => rfl
        intro K hK
        go_simp
        refine hK.out _ _ (fun _ => hS7) ?_
        clear hK K
        try simp only [Act.put, List.setIfInBounds_toArray, List.set_cons_zero, List.set_cons_succ]
        obtain ⟨ao6, c6, hv6, _⟩ := ho6.sums
        generalize ((M.take (k + 1)).map Tx.hl).length = n6 at hv6
        subst hv6
        refine wpAnyL_one (i := 9) (o := ?oi22) (by kernel_rfl) ?hi22 ?hw22 ?step22
        case hi22 => simp only [List.getElem?_toArray, List.getElem?_cons_succ, List.getElem?_cons_zero]; rfl
        case hw22 => rfl
        intro K hK
        have hfz := frozen_of_row w6 qb 0 _ _ hS7.lv
        have hcz := lvC_first hS7.lv
        go_simp
        refine hK.out _ _ (fun h => absurd rfl h) ?_
        clear hK K
        refine wpAnyL_done (by kernel_rfl) ?_ _
        refine NoPanic.normal ?_
        have HP := hid (hS7.put HT.out hwq (.slice ao6 n6 c6))
        have HOX := hid (show OwnU (w6.setCell ⟨qb, 0, none⟩ (.slice ao6 n6 c6)) (qb + 1) (.slice ao6 n6 c6) ((M.take (k + 1)).map Tx.hl) from by
          obtain ⟨o1, o2, o3 | ⟨g, c, cur, hv, hg, hh, r⟩⟩ := ho6
          · exact ⟨o1, o2, Or.inl o3⟩
          · exact ⟨o1, o2, Or.inr ⟨g, c, cur, hv, hg, by rw [heap_setCell_other _ _ _ _ (by show g ≠ qb; omega)]; exact hh, r⟩⟩)
        clear hS1 hS5 hS6 hS7 ho6 hb6 hb5 hbx hfz hcz
        go_wp2
        exact ⟨⟨k + 1, by omega, congrArg (Value.int .i64) (by omega), _, HP.out, HOX.out⟩, by simp only [intOf]; omega⟩
      · obtain rfl : k = M.length := by omega
        rw [List.take_length] at HO
        have HS := hid hS
        have hls : (lvC v R).size = 33 := lvC_size v R hrl
        have hone : v.oneCell' = true := by obtain ⟨a1, c1, h1, _⟩ := HO.out.sums; rw [h1]; rfl
        obtain ⟨cs, hcs, hres⟩ := hS.res
        have HR := hid hres
        clear hS hres
        go_wp2_with (first
          | (refine wpList_load_row rfl _ _ rfl qb rfl _ _ _ _ HS.out.lv Tryd.underlying53 rfl (by rw [hls]; exact info51) ?_)
          | (refine wpList_store_row rfl _ _ _ rfl w.heap.size _ rfl rfl _ _ HR.out (by rw [hls]; exact info51) (by rw [hls, hcs]) (lvC_one _ hone _) ?_))
        refine bodyPost_ret (v := .agg (lvC v R))
          (results_cell_row Tryd.results16 _ _ w.heap.size _ _ _ _ rfl (setRow_heap wr w.heap.size _ _ _ _ HR.out) Tryd.underlying53 rfl (by rw [hls]; exact info51))
          rfl ?_
        refine ⟨v, by rw [HRE.out], ?_, below_setRow HS.out.bel (Nat.le_refl _) _⟩
        rw [HMQ.out]
        obtain ⟨o1, o2, o3 | ⟨g, c, cur, hv, hg, hh, r⟩⟩ := HO.out
        · exact ⟨o1, o2, Or.inl o3⟩
        · exact ⟨o1, o2, Or.inr ⟨g, c, cur, hv, by omega, by rw [setRow_other _ _ _ _ (by omega)]; exact hh, r⟩⟩
end Go.Proofs.YtnhecallffkedabDoor
