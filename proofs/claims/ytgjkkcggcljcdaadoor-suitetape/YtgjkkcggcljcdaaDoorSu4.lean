/-
  Layer 8: the eight bytes of a number; labels of an ideal suite.
-/
import Derived.Test.YtgjkkcggcljcdaaDoorSuA
import Derived.Test.YtgjkkcggcljcdaaDoorWireA
import Derived.Test.YtgjkkcggcljcdaaDoorRg3
namespace Go.Proofs.YtgjkkcggcljcdaaDoor
open Go.ChangeShapes Go.WideShapes Go.ChangeAt Go.RowKit
open Go.Lib (hid)

theorem Iv.nums8_one (n : Nat) : Wx.nums8 [(n : Int)] = Wx.num8 n := by simp [Wx.nums8]
theorem su_ints_one (w : World) (n : Int) (t : TypeId) : IntsB (w.alloc (.cells #[.int .i64 n] t)) (some ⟨w.heap.size, 0, none⟩) [n] := by
  intro i hi
  obtain rfl : i = 0 := by simpa using hi
  exact ⟨_, _, rfl, cell_of_row _ _ _ _ _ _ (heap_alloc_new _ _)⟩

set_option maxHeartbeats 1000000 in
set_option maxRecDepth 100000 in
theorem snumber_any (n : Nat) (hn : n < 9223372036854775808) (w : World) :
    Calls Tryd.prog 40 #[.int .i64 (n : Int)] w fun e w' => e = .returned (.string (str (Wx.num8 n))) ∧ Below w.heap.size w w' := by
  have HNU := hid (fun wx (hx : OutAt wx w.heap.size []) (hA : IntsB wx (some ⟨w.heap.size + 1, 0, none⟩) [(n : Int)]) => onum_any w.heap.size [] (some ⟨w.heap.size + 1, 0, none⟩) 1 [(n : Int)] wx hx hA (by simp) (by intro m hm; simp at hm; omega) (by simp))
  have HBY := hid (fun wx (hx : OutAt wx w.heap.size (Wx.num8 n)) => obytes_any w.heap.size (Wx.num8 n) wx hx (Wx.num8_lt n) (by rw [Wx.num8_length]; omega))
  rw [show [(n : Int)].length = 1 from rfl, Iv.nums8_one, List.nil_append] at HNU
  have HO := hid (OutAt.zero w)
  have HB0 := hid (show Below w.heap.size w (w.alloc (.cells #[.pointer none, .int .i64 0] 76)) from (Below.refl _ _).alloc (Nat.le_refl _) _)
  go_enter Tryd.func40, Tryd.ntmps40
  go_wp2_with fail
  refine (HNU.out _ (HO.out.below ((Below.refl _ _).alloc (Nat.le_refl _) _)) (by have h := su_ints_one (w.alloc (.cells #[.pointer none, .int .i64 0] 76)) n 3; rwa [World.size_alloc] at h)).mono ?_
  rintro e w1 ⟨rfl, ho1, hk1⟩
  go_wp2_with fail
  refine (HBY.out _ ho1).mono ?_
  rintro e w2 ⟨rfl, hb2⟩
  have hb1 : Below w.heap.size w w1 := (HB0.out.alloc HB0.out.size _).trans (hk1.below (Nat.le_refl _) (HB0.out.alloc HB0.out.size _).size)
  go_wp2
  go_ret
  exact ⟨rfl, hb1.trans (hb2.mono hb1.size)⟩

namespace Iv
/-- Eight bytes of a number, and n of the tape. -/
def fresh (v : V) (n k : Nat) : List Nat := Wx.num8 k ++ take v.T v.d n
theorem fresh_length (v : V) (n k : Nat) : (fresh v n k).length = n + 8 := by unfold fresh; rw [List.length_append, Wx.num8_length, take_length]; omega
theorem fresh_lt (v : V) (n k : Nat) (hT : ∀ x ∈ v.T, x < 256) : ∀ x ∈ fresh v n k, x < 256 := by
  intro x hx
  rcases List.mem_append.1 hx with h | h
  · exact Wx.num8_lt _ x h
  · exact take_lt _ hT _ _ x h
/-- A label: the old one, or a new one. -/
def labelOf (v : V) (x : ByteArray × Nat × Nat) : List Nat × V :=
  match Mp.get v.L x with
  | some l => (l, v)
  | none => (fresh v 8 v.L.length, { v with d := v.d + 8, L := Mp.put v.L x (fresh v 8 v.L.length) })
end Iv
theorem store_fresh (w0 : World) (c : Array Value) (t : TypeId) (l : List Nat) (hc : c.size = l.length) (g : Nat) (hg : w0.heap.size = g) :
    (storeCells ⟨g, 0, none⟩ (ints .u8 l).toList).run Tryd.prog (w0.alloc (.cells c t)).drew = .ok () (w0.alloc (.cells (ints .u8 l) t)).drew := by
  subst hg
  have hz : (ints .u8 l).toList.length = l.length := by simp [ints]
  have hzc : c.toList.length = l.length := by simpa using hc
  rw [run_storeCells_at _ _ _ t (ints .u8 l).toList 0 c (w0.alloc (.cells c t)).drew (heap_alloc_new w0 _) (by rw [hz]; omega) (fun v hv => (Array.all_eq_true_iff_forall_mem.1 (ints_one .u8 l)) v (by simpa using hv))]
  have e : (c.toList.take (0 + 0) ++ (ints .u8 l).toList ++ c.toList.drop (0 + 0 + (ints .u8 l).toList.length)).toArray = ints .u8 l := by
    rw [hz, List.drop_of_length_le (by omega)]
    simp
  rw [e]
  have := World.setRow_alloc_new w0 c (ints .u8 l) t
  show Result.ok () ((w0.alloc (.cells c t)).setRow w0.heap.size (ints .u8 l)).drew = _
  rw [this]
/-- A row of this many numbers is stored whole. -/
theorem wpList_store_ints {w : World} {ops : Array Oper} {rest : List Oper} {o : Oper} {a : Act} {Q : Exit → Act → World → Prop} (hgd : o.guard = none) (ty : TypeId) (x y : Operand) (ho : o.op = .store ty x y) (l : List Nat) (hi : (Tryd.prog.info? ty).map (·.size) = some l.length)
    (g : Nat) (hx : a.eval x = .pointer (some ⟨g, 0, none⟩)) (hy : a.eval y = .agg (ints .u8 l)) (cur : Array Value) (t : TypeId) (hg : w.heap[g]? = some (.cells cur t (0, 0))) (hc : cur.size = l.length)
    (h : ∀ w', w'.heap[g]? = some (.cells (ints .u8 l) t (0, 0)) → KeptB g w w' → wpList Tryd.prog ops Q rest (a.put o.dst undef) w') : wpList Tryd.prog ops Q (o :: rest) a w := by
  refine wpList_store_in hgd ty x y ho g 0 (ints .u8 l) hx hy cur t hg (by rw [ints_size]; omega) (by rw [ints_size]; exact hi) (ints_one _ _) ?_
  have e : (cur.toList.take 0 ++ ((ints .u8 l).toList ++ cur.toList.drop (0 + (ints .u8 l).size))).toArray = ints .u8 l := by
    rw [ints_size, List.drop_of_length_le (by simp; omega)]
    simp
  rw [e]
  exact h _ (setRow_heap w g cur _ t _ hg) ((KeptB.refl g w).setRow _)
/-- copy(arr[:], text): all of it. -/
theorem wpList_copy_whole {w : World} {ops : Array Oper} {rest : List Oper} {o : Oper} {a : Act} {Q : Exit → Act → World → Prop} (hgd : o.guard = none) (d s : Operand)
    (ho : o.op = .call { callee := .builtin .copy, args := #[d, s], argTypes := #[46, 9] }) (g n : Nat) (X : List Nat) (hX : ∀ x ∈ X, x < 256) (hn : X.length = n)
    (hd : a.eval d = .slice (some ⟨g, 0, none⟩) n n) (hs : a.eval s = .string (str X)) (cur : Array Value) (t : TypeId) (hg : w.heap[g]? = some (.cells cur t (0, 0))) (hc : cur.size = n)
    (h : ∀ w', w'.heap[g]? = some (.cells (ints .u8 X) t (0, 0)) → KeptB g w w' → wpList Tryd.prog ops Q rest (a.put o.dst (goInt (n : Nat))) w') : wpList Tryd.prog ops Q (o :: rest) a w := by
  have hz : (str X).size = n := by rw [str_size, hn]
  refine wpList_copy_str hgd d s _ _ ho 5 Tryd.underlying46 info5' g 0 n n (str X) hd hs cur t hg (by omega) ?_
  have e : (cur.toList.take 0 ++ ((ints .u8 ((nums (str X)).take (min (str X).size n))).toList ++ cur.toList.drop (0 + min (str X).size n))).toArray = ints .u8 X := by
    have e1 : X.take n = X := List.take_of_length_le (by omega)
    have e2 : cur.toList.drop (0 + n) = [] := List.drop_of_length_le (by simp; omega)
    rw [hz, nums_str X hX, Nat.min_self, e1, e2]
    simp
  rw [e, hz, Nat.min_self]
  exact h _ (setRow_heap w g cur _ t _ hg) ((KeptB.refl g w).setRow _)
/-- The load of a whole row, quiet. -/
theorem wpQuiet_load_whole {P : Program} {ops : Array Oper} {C : World → Prop} {Q : Act → Prop} {rest : List Oper} {o : Oper} {a : Act} (hgd : Region.wanted o (yielded ops a.tmps) = true) (ty : TypeId) (x : Operand) (ho : o.op = .load ty x)
    (b : Nat) (hx : a.eval x = .pointer (some ⟨b, 0, none⟩)) (cs : Array Value) (t : TypeId) (fr : Nat × Nat) (d : TypeDesc) (hc : ∀ w, C w → w.heap[b]? = some (.cells cs t fr))
    (hu : P.underlying ty = some d) (hd : d.isRow = true) (hi : (P.info? ty).map (·.size) = some cs.toList.length)
    (h : wpQuiet P ops C Q rest (a.put o.dst (.agg cs))) : wpQuiet P ops C Q (o :: rest) a := by
  refine wpQuiet_step (fun K hK => ?_)
  rw [if_pos hgd]
  refine ⟨.agg cs, fun w hw => ?_, hK _ h⟩
  have hr : w.rangeAt b 0 cs.toList := by
    intro j v hj
    rw [cell_of_row w b (0 + j) _ _ _ (hc w hw)]
    simpa using hj
  have hrun := run_loadVar_mid w b 0 ty cs.toList d hr hu hd hi
  rw [Array.toArray_toList] at hrun
  unfold Oper.quietAt execOp
  simp only [ho, hx, Instr.loadAt, Instr.sureAddr, Sem.run_bind, Sem.run_pure, Result.andThen_ok, hrun]
  exact ⟨rfl, rfl⟩
theorem info_label : (Tryd.prog.info? 69).map (·.size) = some 16 := by kernel_rfl
set_option maxRecDepth 100000 in
theorem zero_label (w : World) : (zeroValue 69).run Tryd.prog w = .ok (.agg (ints .u8 (List.replicate 16 0))) w := by
  kernel_rfl

set_option maxHeartbeats 1000000 in
set_option maxRecDepth 100000 in
theorem labelOf_any (b b1 b2 b3 : Nat) (v : Iv.V) (hT : ∀ x ∈ v.T, x < 256) (hT0 : 0 < v.T.length) (hTl : v.T.length ≤ 1000000) (hd : v.d ≤ 4000000000000000000) (hL : v.L.length ≤ 1000000000) (hL16 : ∀ p ∈ v.L, p.2.length = 16)
    (x : ByteArray × Nat × Nat) (hx : x.1.size ≤ maxLen ∧ x.2.1 < 9223372036854775808 ∧ x.2.2 < 9223372036854775808) (w : World) (h : IsI w b b1 b2 b3 v) :
    Calls Tryd.prog 29 #[.pointer (some ⟨b, 0, none⟩), namedV x] w fun e w' => e = .returned (.agg (ints .u8 (Iv.labelOf v x).1)) ∧
      IsI w' b b1 b2 b3 (Iv.labelOf v x).2 ∧ KeptP (fun k => k = b ∨ k = b2) w w' := by
  have HH := hid h
  have hbl := (Array.getElem?_eq_some_iff.1 h.row).1
  obtain ⟨r, hr⟩ : ∃ r, r = Iv.labelOf v x := ⟨_, rfl⟩
  rw [← hr]
  have HR := hid hr
  have HP := hid (show wayL.ok x from hx)
  clear h hr
  unfold namedV
  go_enter Tryd.func29, Tryd.ntmps29
  go_upto_region 1 with (fail)
  have HA0 := hid (show (w.alloc (.cells #[.string x.1, .int .i64 (x.2.1 : Int), .int .i64 (x.2.2 : Int)] 72)).heap[w.heap.size]? = _ from heap_alloc_new _ _)
  have HB0 := hid (show Below w.heap.size w (w.alloc (.cells #[.string x.1, .int .i64 (x.2.1 : Int), .int .i64 (x.2.2 : Int)] 72)) from (Below.refl _ _).alloc (Nat.le_refl _) _)
  have hz0 : (w.alloc (.cells #[.string x.1, .int .i64 (x.2.1 : Int), .int .i64 (x.2.2 : Int)] 72)).heap.size = w.heap.size + 1 := World.size_alloc _ _
  generalize w.alloc _ = w00 at *
  have HA1 := hid (show (w00.alloc (.cells #[.int .u8 0, .int .u8 0, .int .u8 0, .int .u8 0, .int .u8 0, .int .u8 0, .int .u8 0, .int .u8 0, .int .u8 0, .int .u8 0, .int .u8 0, .int .u8 0, .int .u8 0, .int .u8 0, .int .u8 0, .int .u8 0] 69)).heap[w.heap.size]? = _ from (Below.heap_alloc w00 _ _ (by omega)).trans HA0.out)
  have HC1 := hid (show (w00.alloc (.cells #[.int .u8 0, .int .u8 0, .int .u8 0, .int .u8 0, .int .u8 0, .int .u8 0, .int .u8 0, .int .u8 0, .int .u8 0, .int .u8 0, .int .u8 0, .int .u8 0, .int .u8 0, .int .u8 0, .int .u8 0, .int .u8 0] 69)).heap[w.heap.size + 1]? = some (.cells #[.int .u8 0, .int .u8 0, .int .u8 0, .int .u8 0, .int .u8 0, .int .u8 0, .int .u8 0, .int .u8 0, .int .u8 0, .int .u8 0, .int .u8 0, .int .u8 0, .int .u8 0, .int .u8 0, .int .u8 0, .int .u8 0] 69 (0, 0)) from hz0 ▸ heap_alloc_new _ _)
  have HB1 := hid (HB0.out.alloc HB0.out.size (.cells #[.int .u8 0, .int .u8 0, .int .u8 0, .int .u8 0, .int .u8 0, .int .u8 0, .int .u8 0, .int .u8 0, .int .u8 0, .int .u8 0, .int .u8 0, .int .u8 0, .int .u8 0, .int .u8 0, .int .u8 0, .int .u8 0] 69))
  have hz1 : (w00.alloc (.cells #[.int .u8 0, .int .u8 0, .int .u8 0, .int .u8 0, .int .u8 0, .int .u8 0, .int .u8 0, .int .u8 0, .int .u8 0, .int .u8 0, .int .u8 0, .int .u8 0, .int .u8 0, .int .u8 0, .int .u8 0, .int .u8 0] 69)).heap.size = w.heap.size + 2 := by rw [World.size_alloc, hz0]
  clear HA0 HB0
  generalize w00.alloc _ = w0 at *
  have H0 := hid (HH.out.below HB1.out)
  obtain ⟨_, _, _, c3, _, _⟩ := suC_cells H0.out.row
  have e0 : w0.cell? ⟨w.heap.size, 0, none⟩ = some (.string x.1) := by rw [cell_of_row _ _ _ _ _ _ HA1.out]; rfl
  have e1 : w0.cell? ⟨w.heap.size, 1, none⟩ = some (.int .i64 (x.2.1 : Int)) := by rw [cell_of_row _ _ _ _ _ _ HA1.out]; rfl
  have e2 : w0.cell? ⟨w.heap.size, 2, none⟩ = some (.int .i64 (x.2.2 : Int)) := by rw [cell_of_row _ _ _ _ _ _ HA1.out]; rfl
  generalize hZ : (Obj.cells #[.int .u8 0, .int .u8 0, .int .u8 0, .int .u8 0, .int .u8 0, .int .u8 0, .int .u8 0, .int .u8 0, .int .u8 0, .int .u8 0, .int .u8 0, .int .u8 0, .int .u8 0, .int .u8 0, .int .u8 0, .int .u8 0] 69 (0, 0)) = Z
  have hbz := fun k (hk : k < w0.heap.size) => Below.heap_alloc w0 Z k hk
  have hb0 := (Array.getElem?_eq_some_iff.1 H0.out.row).1
  have c3' : (w0.alloc Z).cell? ⟨b, 3, none⟩ = some (.map (some b2)) := (suC_cells ((hbz b hb0).trans H0.out.row)).2.2.2.1
  have e0' : (w0.alloc Z).cell? ⟨w.heap.size, 0, none⟩ = some (.string x.1) := by rw [cell_of_row _ _ _ _ _ _ ((hbz _ (by omega)).trans HA1.out)]; rfl
  have e1' : (w0.alloc Z).cell? ⟨w.heap.size, 1, none⟩ = some (.int .i64 (x.2.1 : Int)) := by rw [cell_of_row _ _ _ _ _ _ ((hbz _ (by omega)).trans HA1.out)]; rfl
  have e2' : (w0.alloc Z).cell? ⟨w.heap.size, 2, none⟩ = some (.int .i64 (x.2.2 : Int)) := by rw [cell_of_row _ _ _ _ _ _ ((hbz _ (by omega)).trans HA1.out)]; rfl
  clear hbz
  subst hZ
  cases hg : Mp.get v.L x with
  | none =>
    have l1 := MapM.look_none (w := w0.drew) (H0.out.m2.at rfl) law_named Tryd.underlying50 (zero_label _) HP.out hg true
    have l2 := MapM.look_none (w := (w0.alloc (.cells #[.int .u8 0, .int .u8 0, .int .u8 0, .int .u8 0, .int .u8 0, .int .u8 0, .int .u8 0, .int .u8 0, .int .u8 0, .int .u8 0, .int .u8 0, .int .u8 0, .int .u8 0, .int .u8 0, .int .u8 0, .int .u8 0] 69)).drew) ((H0.out.m2.alloc _).at rfl) law_named Tryd.underlying50 (zero_label _) HP.out hg true
    rw [if_pos rfl] at l1 l2
    simp only [wayL, namedV] at l1 l2
    have hsz : (ints .u8 (List.replicate 16 0)).size = 16 := rfl
    have hst := store_fresh w0 #[.int .u8 0, .int .u8 0, .int .u8 0, .int .u8 0, .int .u8 0, .int .u8 0, .int .u8 0, .int .u8 0, .int .u8 0, .int .u8 0, .int .u8 0, .int .u8 0, .int .u8 0, .int .u8 0, .int .u8 0, .int .u8 0] 69 (List.replicate 16 0) rfl (w.heap.size + 2) hz1
    generalize (List.replicate 16 0 : List Nat) = zz at l1 l2 hsz hst
    have HRR := hid (show r = (Iv.fresh v 8 v.L.length, { v with d := v.d + 8, L := Mp.put v.L x (Iv.fresh v 8 v.L.length) }) from by rw [HR.out, Iv.labelOf, hg])
    go_region
    generalize hW : World.drew _ = w4
    have HB4 := hid (show Below w.heap.size w w4 from by rw [← hW]; exact (HB1.out.alloc (by omega) _).drew)
    have HX4 := hid (show w4.heap[w.heap.size]? = some (.cells #[.string x.1, .int .i64 (x.2.1 : Int), .int .i64 (x.2.2 : Int)] 72 (0, 0)) from by rw [← hW]; exact (Below.heap_alloc w0 _ _ (by omega)).trans HA1.out)
    have HC4 := hid (show w4.heap[w.heap.size + 1]? = some (.cells #[.int .u8 0, .int .u8 0, .int .u8 0, .int .u8 0, .int .u8 0, .int .u8 0, .int .u8 0, .int .u8 0, .int .u8 0, .int .u8 0, .int .u8 0, .int .u8 0, .int .u8 0, .int .u8 0, .int .u8 0, .int .u8 0] 69 (0, 0)) from by rw [← hW]; exact (Below.heap_alloc w0 _ _ (by omega)).trans HC1.out)
    have hz4 : w4.heap.size = w.heap.size + 3 := by rw [← hW]; show (w0.alloc _).heap.size = _; rw [World.size_alloc, hz1]
    clear hW l1 l2 hst c3 c3' e0 e0' e1 e1' e2 e2' HA1 HC1
    go_upto_region 5 with (fail)
    have HB6 := hid (HB4.out.alloc HB4.out.size (.cells #[.int .u8 0, .int .u8 0, .int .u8 0, .int .u8 0, .int .u8 0, .int .u8 0, .int .u8 0, .int .u8 0, .int .u8 0, .int .u8 0, .int .u8 0, .int .u8 0, .int .u8 0, .int .u8 0, .int .u8 0, .int .u8 0] 69))
    have HX6 := hid (show (w4.alloc (.cells #[.int .u8 0, .int .u8 0, .int .u8 0, .int .u8 0, .int .u8 0, .int .u8 0, .int .u8 0, .int .u8 0, .int .u8 0, .int .u8 0, .int .u8 0, .int .u8 0, .int .u8 0, .int .u8 0, .int .u8 0, .int .u8 0] 69)).heap[w.heap.size]? = some (.cells #[.string x.1, .int .i64 (x.2.1 : Int), .int .i64 (x.2.2 : Int)] 72 (0, 0)) from (Below.heap_alloc w4 _ _ (by omega)).trans HX4.out)
    have HC6 := hid (show (w4.alloc (.cells #[.int .u8 0, .int .u8 0, .int .u8 0, .int .u8 0, .int .u8 0, .int .u8 0, .int .u8 0, .int .u8 0, .int .u8 0, .int .u8 0, .int .u8 0, .int .u8 0, .int .u8 0, .int .u8 0, .int .u8 0, .int .u8 0] 69)).heap[w.heap.size + 1]? = some (.cells #[.int .u8 0, .int .u8 0, .int .u8 0, .int .u8 0, .int .u8 0, .int .u8 0, .int .u8 0, .int .u8 0, .int .u8 0, .int .u8 0, .int .u8 0, .int .u8 0, .int .u8 0, .int .u8 0, .int .u8 0, .int .u8 0] 69 (0, 0)) from (Below.heap_alloc w4 _ _ (by omega)).trans HC4.out)
    have HF6 := hid (show (w4.alloc (.cells #[.int .u8 0, .int .u8 0, .int .u8 0, .int .u8 0, .int .u8 0, .int .u8 0, .int .u8 0, .int .u8 0, .int .u8 0, .int .u8 0, .int .u8 0, .int .u8 0, .int .u8 0, .int .u8 0, .int .u8 0, .int .u8 0] 69)).heap[w.heap.size + 3]? = some (.cells #[.int .u8 0, .int .u8 0, .int .u8 0, .int .u8 0, .int .u8 0, .int .u8 0, .int .u8 0, .int .u8 0, .int .u8 0, .int .u8 0, .int .u8 0, .int .u8 0, .int .u8 0, .int .u8 0, .int .u8 0, .int .u8 0] 69 (0, 0)) from hz4 ▸ heap_alloc_new _ _)
    have hz6 : (w4.alloc (.cells #[.int .u8 0, .int .u8 0, .int .u8 0, .int .u8 0, .int .u8 0, .int .u8 0, .int .u8 0, .int .u8 0, .int .u8 0, .int .u8 0, .int .u8 0, .int .u8 0, .int .u8 0, .int .u8 0, .int .u8 0, .int .u8 0] 69)).heap.size = w.heap.size + 4 := by rw [World.size_alloc, hz4]
    clear HB4 HX4 HC4 hz4
    generalize w4.alloc _ = w6 at *
    have H6 := hid (HH.out.below HB6.out)
    obtain ⟨_, _, _, c3, _, _⟩ := suC_cells H6.out.row
    have hlen := fun m => (H6.out.m2.at (w' := w6.drewN m) rfl).len Tryd.underlying50 3
    have hsl := fun wx => slice_all wx 69 5 16 (w.heap.size + 3) Tryd.underlying69 (by decide) info5'
    have HNU := hid (fun wx => snumber_any v.L.length (by omega) wx)
    have HDR := hid (fun wx hx => draw_any b v.T v.d b1 b2 b3 8 hT hT0 hTl hd (by omega) 57 wx hx)
    have HXB := hid (Iv.fresh_lt v 8 v.L.length hT)
    clear hT hT0 hTl hd hx hL16
    refine wp_region_noPanic ?_
    refine wp_region_fht [0, 7] [1, 2, 3, 4, 5] [6, 8, 9, 10] (by kernel_rfl) (by kernel_rfl) (fun _ _ _ _ _ h => h) (by simp only [List.filterMap_cons, List.filterMap_nil, List.getElem?_cons_succ, List.getElem?_cons_zero]; rfl) (by simp only [List.filterMap_cons, List.filterMap_nil, List.getElem?_cons_succ, List.getElem?_cons_zero]; rfl) (by simp only [List.filterMap_cons, List.filterMap_nil, List.getElem?_cons_succ, List.getElem?_cons_zero]; rfl) (fun hne => ?_)
    show wpQuiet _ _ _ _ [_, _] _
    go_big_quiet_step (fail)
    go_big_quiet_step (fail)
    refine wpQuiet_nil ?_
    show wpQuiet _ _ _ _ [_, _, _, _, _] _
    go_big_quiet_step (fail)
    go_big_quiet_step (fail)
    go_big_quiet_step (fail)
    go_big_quiet_step (fail)
    go_big_quiet_step (fail)
    refine wpQuiet_nil ?_
    intro m
    show wpList _ _ _ [_, _, _, _] _ _
    clear hlen hsl hne c3
    have H6m : IsI (w6.drewN m) b b1 b2 b3 v := H6.out.kept (p := fun _ => False) ⟨rfl, rfl, rfl, Nat.le_refl _, fun _ _ _ => rfl⟩ id id id id
    have hk6 : KeptP (fun k => k = b) w6 (w6.drewN m) := ⟨rfl, rfl, rfl, Nat.le_refl _, fun _ _ _ => rfl⟩
    generalize hw7 : w6.drewN m = w7 at *
    go_wp2_with fail
    refine (HNU.out _).mono ?_
    rintro e w8 ⟨rfl, hb8⟩
    go_wp2_with fail
    refine (HDR.out _ (H6m.below hb8).row).mono ?_
    rintro e w9 ⟨rfl, hr9, hk9⟩
    have hs1 : (str (Wx.num8 v.L.length)).size = 8 := by rw [str_size, Wx.num8_length]
    have hs2 : (str (Iv.take v.T v.d 8)).size = 8 := by rw [str_size, Iv.take_length]
    have hap : str (Wx.num8 v.L.length) ++ str (Iv.take v.T v.d 8) = str (Iv.fresh v 8 v.L.length) := str_append _ _
    have hXl : (Iv.fresh v 8 v.L.length).length = 16 := Iv.fresh_length _ _ _
    have hk79 : KeptB b w7 w9 := (KeptB.of_below hb8).trans hk9
    have hk69 : KeptP (fun k => k = b) w6 w9 := hk6.trans (KeptP.of_keptB hk79 rfl)
    have hF9 : w9.heap[w.heap.size + 3]? = _ := (hk69.block _ (by omega) (by omega)).trans HF6.out
    go_wp2_with (refine wpList_copy_whole rfl _ _ rfl (w.heap.size + 3) 16 _ HXB.out hXl rfl (congrArg Value.string hap) _ _ hF9 rfl ?_; intro w10 hr10 hk10)
    refine NoPanic.normal ?_
    have hk910 : KeptP (fun k => k = w.heap.size + 3) w9 w10 := KeptP.of_keptB hk10 rfl
    have l2 := HH.out.m2.lt
    have l1 := HH.out.m1.lt
    have l3 := HH.out.m3.lt
    have hB6 := HB6.out.size
    have hs69 := hk69.size
    have hs910 := hk910.size
    have hkA : ∀ k, k < w.heap.size + 3 → k ≠ b → w10.heap[k]? = w6.heap[k]? := fun k h1 h2 => (hk910.block k (by omega) (by omega)).trans (hk69.block k (by omega) h2)
    have HR10 := hid (show w10.heap[b]? = some (.cells (suC v.T (v.d + 8) b1 b2 b3) 57 (0, 0)) from (hk910.block b (by omega) (by omega)).trans hr9)
    have hne := H6.out.ne
    have M1 := hid (H6.out.m1.at (hkA b1 (by omega) hne.1))
    have M2 := hid (H6.out.m2.at (hkA b2 (by omega) hne.2.1))
    have M3 := hid (H6.out.m3.at (hkA b3 (by omega) hne.2.2))
    have HX10 := hid ((hkA w.heap.size (by omega) (by omega)).trans HX6.out)
    have HC10 := hid ((hkA (w.heap.size + 1) (by omega) (by omega)).trans HC6.out)
    have HL10 := hid hr10
    have HK10 := hid (show KeptP (fun k => k = b) w w10 from by
      refine ⟨hk910.os.trans (hk69.os.trans HB6.out.os), hk910.tape.trans (hk69.tape.trans HB6.out.tape), hk910.output.trans (hk69.output.trans HB6.out.output), by omega, fun k h1 h2 => ?_⟩
      rw [hkA k (by omega) h2, HB6.out.block k h1])
    have hneH := hid (show b1 ≠ b ∧ b2 ≠ b ∧ b3 ≠ b from hne)
    have hs10 : w.heap.size + 4 ≤ w10.heap.size := by omega
    clear HX6 HC6 HF6 H6 HNU HDR H6m hk6 hb8 hr9 hk9 hs1 hs2 hap hk79 hk69 hF9 hr10 hk10 hk910 hkA hB6 hs69 hs910 hw7 hz6 HB6
    obtain ⟨_, _, _, c3, _, _⟩ := suC_cells HR10.out
    have e0 : w10.cell? ⟨w.heap.size, 0, none⟩ = some (.string x.1) := by rw [cell_of_row _ _ _ _ _ _ HX10.out]; rfl
    have e1 : w10.cell? ⟨w.heap.size, 1, none⟩ = some (.int .i64 (x.2.1 : Int)) := by rw [cell_of_row _ _ _ _ _ _ HX10.out]; rfl
    have e2 : w10.cell? ⟨w.heap.size, 2, none⟩ = some (.int .i64 (x.2.2 : Int)) := by rw [cell_of_row _ _ _ _ _ _ HX10.out]; rfl
    have hszX : (ints .u8 (Iv.fresh v 8 v.L.length)).size = 16 := by rw [ints_size, hXl]
    have HXV := hid (show ∃ X, X = Iv.fresh v 8 v.L.length from ⟨_, rfl⟩)
    clear HXV
    generalize Iv.fresh v 8 v.L.length = X at *
    go_upto_region 6 with (fail)
    refine wp_region_noPanic ?_
    refine wp_region_hd1 6 1 rfl (by kernel_rfl) (by kernel_rfl) (fun _ _ _ _ _ h => h) ?_
    simp only [List.take_succ_cons, List.take_zero, List.drop_succ_cons, List.drop_zero]
    repeat (go_big_quiet_step (fail))
    refine wpQuiet_load_whole rfl _ _ rfl (w.heap.size + 3) rfl _ _ _ _ (fun u ⟨m, hm⟩ => by rw [hm]; exact HL10.out) Tryd.underlying69 rfl (by rw [ints_llen, hXl]; exact info_label) ?_
    simp only [Act.put, List.setIfInBounds_toArray, List.set_cons_zero, List.set_cons_succ]
    refine wpQuiet_nil ?_
    intro m2
    have M2m : MapM wayL (w10.drewN m2) b2 v.L := M2.out.at rfl
    go_wp2_with (refine wpList_put _ rfl _ _ _ _ rfl wayL 69 law_named Tryd.underlying50 b2 v.L rfl M2m x rfl HP.out X rfl ?_; intro w11 hm11 hk11)
    refine NoPanic.normal ?_
    have hk11' : KeptB b2 w10 w11 := (show KeptB b2 w10 (w10.drewN m2) from ⟨rfl, rfl, rfl, Nat.le_refl _, fun _ _ _ => rfl⟩).trans hk11
    have HL11 := hid ((hk11'.block (w.heap.size + 3) (by omega) (by omega)).trans HL10.out)
    have HC11 := hid ((hk11'.block (w.heap.size + 1) (by omega) (by omega)).trans HC10.out)
    have HM11 := hid hm11
    have HK11 := hid hk11'
    clear hm11 hk11 hk11' M2m e0 e1 e2 c3
    go_wp2_with (first
      | (refine wpList_load_row_g rfl _ _ rfl (w.heap.size + 3) rfl _ _ _ _ HL11.out Tryd.underlying69 rfl (by rw [hszX]; exact info_label) ?_)
      | (refine wpList_store_ints rfl _ _ _ rfl X (by rw [hXl]; exact info_label) (w.heap.size + 1) rfl rfl _ _ HC11.out (by rw [hXl]; rfl) ?_; intro w12 hr12 hk12))
    refine bodyPost_ret (v := .agg _) (results_cell_row Tryd.results29 _ _ (w.heap.size + 1) _ _ _ _ rfl hr12 Tryd.underlying69 rfl (by rw [hszX]; kernel_rfl)) rfl ?_
    have hK := HK11.out
    have hs11 := hK.size
    have hnn := hneH.out
    have hnm := HH.out
    have hk : ∀ k, k < w.heap.size → k ≠ b → k ≠ b2 → w12.heap[k]? = w.heap[k]? := fun k h1 h2 h3 =>
      (hk12.block k (by omega) (by omega)).trans ((hK.block k (by omega) h3).trans (HK10.out.block k h1 h2))
    have hq : ∀ k, k < w.heap.size + 1 → k ≠ b2 → w12.heap[k]? = w10.heap[k]? := fun k h1 h3 => (hk12.block k (by omega) (by omega)).trans (hK.block k (by omega) h3)
    rw [HRR.out]
    refine ⟨rfl, ⟨(hq b (by omega) (Ne.symm hnn.2.1)).trans HR10.out, M1.out.at (hq b1 (by omega) hnm.n12), HM11.out.at (hk12.block b2 (by omega) (by omega)), M3.out.at (hq b3 (by omega) (Ne.symm hnm.n23)), hnm.n12, hnm.n13, hnm.n23⟩, ?_⟩
    exact ⟨hk12.os.trans (hK.os.trans HK10.out.os), hk12.tape.trans (hK.tape.trans HK10.out.tape), hk12.output.trans (hK.output.trans HK10.out.output), by have := hk12.size; omega, fun k h1 h2 => hk k h1 (fun e => h2 (Or.inl e)) (fun e => h2 (Or.inr e))⟩
  | some l =>
    have l1 := MapM.look_some (w := w0.drew) (H0.out.m2.at rfl) law_named Tryd.underlying50 HP.out hg true
    have l2 := MapM.look_some (w := (w0.alloc (.cells #[.int .u8 0, .int .u8 0, .int .u8 0, .int .u8 0, .int .u8 0, .int .u8 0, .int .u8 0, .int .u8 0, .int .u8 0, .int .u8 0, .int .u8 0, .int .u8 0, .int .u8 0, .int .u8 0, .int .u8 0, .int .u8 0] 69)).drew) ((H0.out.m2.alloc _).at rfl) law_named Tryd.underlying50 HP.out hg true
    rw [if_pos rfl] at l1 l2
    simp only [wayL, namedV] at l1 l2
    have HRR := hid (show r = (l, v) from by rw [HR.out, Iv.labelOf, hg])
    have hl16 : l.length = 16 := hL16 _ (Mp.get_mem hg)
    have hsz : (ints .u8 l).size = 16 := by rw [ints_size, hl16]
    have hst := store_fresh w0 #[.int .u8 0, .int .u8 0, .int .u8 0, .int .u8 0, .int .u8 0, .int .u8 0, .int .u8 0, .int .u8 0, .int .u8 0, .int .u8 0, .int .u8 0, .int .u8 0, .int .u8 0, .int .u8 0, .int .u8 0, .int .u8 0] 69 l (by rw [hl16]; rfl) (w.heap.size + 2) hz1
    go_region
    generalize hW : World.drew _ = w4
    have HB4 := hid (show Below w.heap.size w w4 from by rw [← hW]; exact (HB1.out.alloc (by omega) _).drew)
    have HL4 : Row w4 (w.heap.size + 2) .u8 69 l := by rw [← hW, ← hz1]; exact heap_alloc_new _ _
    have HC4 := hid (show w4.heap[w.heap.size + 1]? = some (.cells #[.int .u8 0, .int .u8 0, .int .u8 0, .int .u8 0, .int .u8 0, .int .u8 0, .int .u8 0, .int .u8 0, .int .u8 0, .int .u8 0, .int .u8 0, .int .u8 0, .int .u8 0, .int .u8 0, .int .u8 0, .int .u8 0] 69 (0, 0)) from by rw [← hW]; exact (Below.heap_alloc w0 _ _ (by omega)).trans HC1.out)
    clear hW l1 l2 hst c3 c3' e0 e0' e1 e1' e2 e2' HA1 HC1
    go_wp2_with (first
      | (refine wpList_load_row_g rfl _ _ rfl (w.heap.size + 2) rfl _ _ _ _ HL4 Tryd.underlying69 rfl (by rw [hsz]; exact info_label) ?_)
      | (refine wpList_store_ints rfl _ _ _ rfl l (by rw [hl16]; exact info_label) (w.heap.size + 1) rfl rfl _ _ HC4.out (by rw [hl16]; rfl) ?_; intro w5 hr5 hk5))
    refine bodyPost_ret (v := .agg _) (results_cell_row Tryd.results29 _ _ (w.heap.size + 1) _ _ _ _ rfl hr5 Tryd.underlying69 rfl (by rw [hsz]; kernel_rfl)) rfl ?_
    have hb5 : Below w.heap.size w w5 := HB4.out.trans (hk5.below (by omega) HB4.out.size)
    rw [HRR.out]
    exact ⟨rfl, HH.out.below hb5, KeptP.of_below hb5⟩
end Go.Proofs.YtgjkkcggcljcdaaDoor
