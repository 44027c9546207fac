/-
  Layer 4: what poly.start returns.
-/
import Derived.Test.YtiolflofkoeffaaDoorPoly10
import Derived.Laws.CopyRow
import Derived.Laws.Tables
namespace Go.Proofs.YtiolflofkoeffaaDoor
open Go.RowKit
open Go.Lib (hid)

namespace Px
def kept : List Nat := [255, 255, 255, 15, 252, 255, 255, 15, 252, 255, 255, 15, 252, 255, 255, 15]
/-- The first k bytes keep the bits that aren't cleared. -/
def kpN (l : List Nat) : Nat → List Nat
  | 0 => l
  | k + 1 => (kpN l k).set k ((kpN l k).getD k 0 &&& kept.getD k 0)
theorem kpN_length (l : List Nat) (k : Nat) : (kpN l k).length = l.length := by
  induction k with
  | zero => rfl
  | succ k ih => rw [kpN, List.length_set, ih]
theorem kept_lt (k : Nat) : kept.getD k 0 < 256 := getD_lt (by omega) (by decide) k
theorem kpN_lt (l : List Nat) (h : ∀ x ∈ l, x < 256) (k : Nat) : ∀ x ∈ kpN l k, x < 256 := by
  induction k with
  | zero => exact h
  | succ k ih =>
    intro u hu
    rcases List.mem_or_eq_of_mem_set hu with h' | rfl
    · exact ih u h'
    · exact Nat.lt_of_le_of_lt Nat.and_le_right (kept_lt k)
def rOf (key : List Nat) : List Nat := numberOf (kpN (key.take 16 ++ [0]) 16)
def sOf (key : List Nat) : List Nat := numberOf (key.drop 16 ++ [0])
end Px
/-- The table of the bits that are kept. -/
def TabK (w : World) : Prop := w.rangeAt 1 0 (ints .u8 Px.kept).toList
theorem TabK.below {w w' : World} {B : Nat} (h : TabK w) (hb : Below B w w') (hB : w.heap.size ≤ B) : TabK w' := by
  intro j v hj
  have := h j v hj
  rw [hb.cell (Nat.lt_of_lt_of_le (block_lt_of_cell this) hB)]
  exact this
theorem and8 (a b : Nat) (ha : a < 256) (hb : b < 256) : bits .and .u8 (a : Int) (b : Int) = ((a &&& b : Nat) : Int) :=
  (bits_nat .u8 8 (by decide) wraps_u8 a b ha hb).1
theorem info47 : (Tryd.prog.info? 36).map (·.size) = some 16 := by kernel_rfl
theorem info84 : (Tryd.prog.info? 70).map (·.size) = some 33 := by kernel_rfl
theorem slice_klo (w : World) (b : Nat) : (Instr.sliceAt 22 (.pointer (some ⟨b, 0, none⟩)) none (some (.int .i64 16)) none).run Tryd.prog w = .ok (.slice (some ⟨b, 0, none⟩) 16 32) w := by
  obtain ⟨f, hf, hf1⟩ := Option.map_eq_some_iff.1 info5'
  have h4 : (⟨b, 0, none⟩ : Addr).add 0 = ⟨b, 0, none⟩ := Addr.add_mid b 0 0
  simp [Instr.sliceAt, Instr.sureAddr, run_underlying Tryd.underlying22, Instr.sliceBounds, run_sliceBound, sizeOf, typeInfo, hf, hf1, h4]
theorem slice_khi (w : World) (b : Nat) : (Instr.sliceAt 22 (.pointer (some ⟨b, 0, none⟩)) (some (.int .i64 16)) none none).run Tryd.prog w = .ok (.slice (some ⟨b, 16, none⟩) 16 16) w := by
  obtain ⟨f, hf, hf1⟩ := Option.map_eq_some_iff.1 info5'
  have h4 : (⟨b, 0, none⟩ : Addr).add 16 = ⟨b, 16, none⟩ := by rw [Addr.add_mid]
  simp [Instr.sliceAt, Instr.sureAddr, run_underlying Tryd.underlying22, Instr.sliceBounds, run_sliceBound, sizeOf, typeInfo, hf, hf1, h4]
theorem slice_blk (w : World) (b : Nat) : (Instr.sliceAt 68 (.pointer (some ⟨b, 0, none⟩)) none none none).run Tryd.prog w = .ok (.slice (some ⟨b, 0, none⟩) 17 17) w :=
  slice_all w 68 5 17 b Tryd.underlying68 (by omega) info5'
/-- copy of bytes that lie in memory, to the first cells of a row. -/
theorem wpList_copy_row {w : World} {ops : Array Oper} {rest : List Oper} {o : Oper} {a : Act} {Q : Exit → Act → World → Prop} (hgd : o.guard = none) (d s : Operand)
    (ho : o.op = .call { callee := .builtin .copy, args := #[d, s], argTypes := #[44, 44] })
    (g dLen dCap : Nat) (t : TypeId) (old : List Nat) (sb so sCap : Nat) (y : List Nat) (hd : a.eval d = .slice (some ⟨g, 0, none⟩) dLen dCap) (hs : a.eval s = .slice (some ⟨sb, so, none⟩) y.length sCap)
    (hrow : Row w g .u8 t old) (hsrc : w.rangeAt sb so (ints .u8 y).toList) (hl : y.length ≤ dLen) (ho2 : dLen ≤ old.length)
    (h : wpList Tryd.prog ops Q rest (a.put o.dst (goInt (y.length : Int))) (w.setRow g (ints .u8 (y ++ old.drop y.length)))) : wpList Tryd.prog ops Q (o :: rest) a w := by
  refine wpList_plain hgd fun K hK => ?_
  have hyl : (ints .u8 y).toList.length = y.length := ints_llen _ _
  have hrun := run_copy_row (P := Tryd.prog) w 44 44 o.type 5 g 0 dLen dCap ⟨sb, so, none⟩ y.length sCap (ints .u8 old) t (ints .u8 y).toList Tryd.underlying44 info5' hrow
    (by rw [hyl]; exact (Nat.min_eq_left hl).symm) (fun j v hv => by rw [Addr.add_mid]; exact hsrc j v hv) (by rw [hyl, ints_size]; omega) (fun v hv => (Array.all_eq_true_iff_forall_mem.1 (ints_one .u8 y)) v (by simpa using hv))
  have e : ((ints .u8 old).toList.take 0 ++ (ints .u8 y).toList ++ (ints .u8 old).toList.drop (0 + (ints .u8 y).toList.length)).toArray = ints .u8 (y ++ old.drop y.length) := by
    apply Array.toList_inj.1
    rw [hyl]
    simp [ints, List.map_drop]
  rw [e, hyl] at hrun
  unfold Oper.wp
  simp [execOp, ho, resolve, invoke, builtin, hd, hs, hrun, Result.andThen]
  exact hK _ _ h
theorem list5 (l : List Nat) (h : l.length = 5) : ∃ a0 a1 a2 a3 a4, l = [a0, a1, a2, a3, a4] := by
  match l, h with
  | [a0, a1, a2, a3, a4], _ => exact ⟨a0, a1, a2, a3, a4, rfl⟩
theorem run_bst (R S : List Nat) (hR : R.length = 5) (hS : S.length = 5) (w : World) : (Instr.build 70 #[(0, .agg (ints .u64 R)), (1, .agg (ints .u64 S))]).run Tryd.prog w = .ok (.agg (pC R S (List.replicate 5 0) (List.replicate 17 0) 0)) w := by
  obtain ⟨a0, a1, a2, a3, a4, rfl⟩ := list5 R hR
  obtain ⟨b0, b1, b2, b3, b4, rfl⟩ := list5 S hS
  exact run_build w _ _ _ (by kernel_rfl)

/-- What stays while a state is made. -/
def BgS (w : World) (br bs bz : Nat) (R S : List Nat) (u : World) : Prop :=
  Row u br .u8 68 R ∧ Row u bs .u8 68 S ∧ (∃ cs : Array Value, cs.size = 33 ∧ u.heap[bz]? = some (.cells cs 70 (0, 0))) ∧ Below w.heap.size w u
theorem BgS.keep {w : World} {br bs bz : Nat} {R S : List Nat} {u u' : World} (h : BgS w br bs bz R S u) (hw : w.heap.size ≤ u.heap.size) (hb : Below u.heap.size u u') : BgS w br bs bz R S u' := by
  obtain ⟨h1, h2, ⟨cs, hc, h3⟩, h4⟩ := h
  exact ⟨h1.below hb h1.lt, h2.below hb h2.lt, ⟨cs, hc, by rw [hb.block bz (Array.getElem?_eq_some_iff.1 h3).1]; exact h3⟩, h4.trans (hb.mono hw)⟩

theorem wpQuiet_build {P : Program} {ops : Array Oper} {C : World → Prop} {Q : Act → Prop} {rest : List Oper} {o : Oper} {a : Act} (hgd : Region.wanted o (yielded ops a.tmps) = true) (ty : TypeId) (parts : Array (Nat × Operand)) (ho : o.op = .build ty parts)
    (vals : Array (Nat × Value)) (hv : (parts.map fun (i, x) => (i, a.eval x)) = vals) (cs : Array Value) (hc : ∀ w, C w → (Instr.build ty vals).run P w = .ok (.agg cs) w)
    (h : wpQuiet P ops C Q rest (a.put o.dst (.agg cs))) : wpQuiet P ops C Q (o :: rest) a := by
  refine wpQuiet_step (fun K hK => ?_)
  rw [if_pos hgd]
  refine ⟨.agg cs, fun w hw => ?_, hK _ h⟩
  have hrun := hc w hw
  unfold Oper.quietAt execOp
  simp only [ho, hv, Sem.run_bind, Sem.run_pure, Result.andThen_ok, hrun]
  exact ⟨rfl, rfl⟩
theorem row_range0 {w : World} {b : Nat} {k : IntKind} {t : TypeId} {l : List Nat} (h : Row w b k t l) : w.rangeAt b 0 (ints k l).toList :=
  range_mid h (show (ints k l).toList = [] ++ ((ints k l).toList ++ []) from by simp) rfl
theorem pC_one (r s m q : List Nat) (c : Nat) : (pC r s m q c).all (·.oneCell') = true := by
  simp [pC, ints, Value.oneCell']

set_option maxHeartbeats 2000000 in
set_option maxRecDepth 100000 in
theorem pstart_any (key : List Nat) (hk : ∀ x ∈ key, x < 256) (hl : key.length = 32) (w : World) (hT : TabK w) :
    Calls Tryd.prog 34 #[.agg (ints .u8 key)] w fun e w' => e = .returned (.agg (pC (Px.rOf key) (Px.sOf key) (List.replicate 5 0) (List.replicate 17 0) 0)) ∧ Below w.heap.size w w' := by
  have hsz : (ints .u8 key).size = 32 := by rw [ints_size, hl]
  have HK := hid hk
  have HT := hid hT
  clear hk hT
  go_enter Tryd.func34, Tryd.ntmps34
  go_upto_region 2 with (fail)
  obtain ⟨y1, hy1⟩ : ∃ y1, y1 = key.take 16 := ⟨_, rfl⟩
  obtain ⟨y2, hy2⟩ : ∃ y2, y2 = key.drop 16 := ⟨_, rfl⟩
  have hl1 : y1.length = 16 := by rw [hy1, List.length_take]; omega
  have hl2 : y2.length = 16 := by rw [hy2, List.length_drop]; omega
  have HR0 := hid (show y1 ++ [0] = key.take 16 ++ [0] from by rw [hy1])
  have HS0 := hid (show y2 ++ [0] = key.drop 16 ++ [0] from by rw [hy2])
  have HRB := hid (show ∀ x ∈ key.take 16 ++ [0], x < 256 from by
    intro x hx
    rcases List.mem_append.1 hx with h | h
    · exact HK.out x (List.mem_of_mem_take h)
    · simp at h; omega)
  have HSB := hid (show ∀ x ∈ key.drop 16 ++ [0], x < 256 from by
    intro x hx
    rcases List.mem_append.1 hx with h | h
    · exact HK.out x (List.mem_of_mem_drop h)
    · simp at h; omega)
  have hrl : (key.take 16 ++ [0]).length = 17 := by rw [List.length_append, List.length_take, hl]; rfl
  have hsl : (key.drop 16 ++ [0]).length = 17 := by rw [List.length_append, List.length_drop, hl]; rfl
  have HRO : Hid (∀ _ : Nat, Px.rOf key = Px.numberOf (Px.kpN (key.take 16 ++ [0]) 16)) := fun _ => rfl
  have HSO : Hid (∀ _ : Nat, Px.sOf key = Px.numberOf (key.drop 16 ++ [0])) := fun _ => rfl
  have hro := Px.numberOf_length (Px.kpN (key.take 16 ++ [0]) 16)
  have hso := Px.numberOf_length (key.drop 16 ++ [0])
  rw [← HRO.out 0] at hro
  rw [← HSO.out 0] at hso
  generalize hR : key.take 16 ++ [0] = R0 at *
  generalize hS : key.drop 16 ++ [0] = S0 at *
  generalize hRe : Px.rOf key = R at *
  generalize hSe : Px.sOf key = S at *
  have HRe := hid (fun _ : Nat => hRe)
  have HSe := hid (fun _ : Nat => hSe)
  clear hRe hSe
  generalize hw0 : (((w.alloc _).alloc _).alloc _) = w00
  generalize hw1 : w00.alloc _ = w0
  have s00 : w00.heap.size = w.heap.size + 1 + 1 + 1 := by rw [← hw0]; simp
  have rk : Row w0 w.heap.size .u8 22 key := by rw [← hw1]; refine Row.alloc ?_ _; rw [← hw0]; unfold Row; rw [heap_alloc3_0]
  have rz : ∃ cs : Array Value, cs.size = 33 ∧ w0.heap[w.heap.size + 1]? = some (.cells cs 70 (0, 0)) := by
    refine ⟨_, ?_, by rw [← hw1, Below.heap_alloc _ _ _ (by omega), ← hw0, heap_alloc3_1]⟩
    rfl
  have rr : Row w0 (w.heap.size + 1 + 1) .u8 68 (List.replicate 17 0) := by rw [← hw1]; refine Row.alloc ?_ _; rw [← hw0]; unfold Row; rw [heap_alloc3_2]; rfl
  have rs : Row w0 (w.heap.size + 1 + 1 + 1) .u8 68 (List.replicate 17 0) := by rw [← hw1, ← s00]; exact heap_alloc_new _ _
  have hb0 : Below w.heap.size w w0 := by
    have h : Below w.heap.size w w00 := by rw [← hw0]; exact (((Below.refl _ _).alloc (Nat.le_refl _) _).alloc (by simp) _).alloc (by simp; omega) _
    rw [← hw1]; exact h.alloc h.size _
  have srcs : w0.rangeAt w.heap.size 0 (ints .u8 y1).toList ∧ w0.rangeAt w.heap.size 16 (ints .u8 y2).toList := by
    have e : (ints .u8 key).toList = [] ++ ((ints .u8 y1).toList ++ (ints .u8 y2).toList) := by
      rw [hy1, hy2, List.nil_append]
      simp only [ints]
      rw [← List.map_append, List.take_append_drop]
    have e2 : (ints .u8 key).toList = (ints .u8 y1).toList ++ ((ints .u8 y2).toList ++ []) := by rw [e]; simp
    exact ⟨range_mid rk e rfl, range_mid rk e2 (by rw [ints_llen, hl1])⟩
  clear hw0 hw1 s00 hy1 hy2 hR hS rk
  obtain ⟨src1, src2⟩ := srcs
  have HSR1 := hid src1
  have HSR2 := hid src2
  have HRZ := hid rz
  have HRR := hid rr
  have HRS := hid rs
  have HB0 := hid hb0
  clear src1 src2 rz rr rs hb0
  have s1 := fun d => slice_blk (w0.drewN d) (w.heap.size + 1 + 1)
  have s2 := fun d => slice_klo (w0.drewN d) w.heap.size
  refine wp_region_noPanic ?_
  refine wp_region_hd1 2 1 rfl (by kernel_rfl) (by kernel_rfl) (fun _ _ _ _ _ h => h) ?_
  simp only [List.take_succ_cons, List.take_zero, List.drop_succ_cons, List.drop_zero]
  repeat (go_big_quiet_step (fail))
  refine wpQuiet_nil ?_
  intro d
  go_wp2_with (refine wpList_copy_row rfl _ _ rfl (w.heap.size + 1 + 1) 17 17 _ (List.replicate 17 0) w.heap.size 0 32 y1 rfl (by rw [hl1]; rfl) HRR.out HSR1.out (by omega) (by simp) ?_)
  rw [HR0.out]
  refine NoPanic.normal ?_
  have HRR1 := hid (show Row ((w0.drewN d).setRow (w.heap.size + 1 + 1) (ints .u8 R0)) (w.heap.size + 1 + 1) .u8 68 R0 from setRow_heap (w0.drewN d) _ _ _ _ _ HRR.out)
  have HRS1 := hid (show Row ((w0.drewN d).setRow (w.heap.size + 1 + 1) (ints .u8 R0)) (w.heap.size + 1 + 1 + 1) .u8 68 (List.replicate 17 0) from by
    unfold Row; rw [setRow_other _ _ _ _ (by omega)]; exact HRS.out)
  have HRZ1 := hid (show ∃ cs : Array Value, cs.size = 33 ∧ ((w0.drewN d).setRow (w.heap.size + 1 + 1) (ints .u8 R0)).heap[w.heap.size + 1]? = some (.cells cs 70 (0, 0)) from by
    obtain ⟨cs, h1, h2⟩ := HRZ.out
    exact ⟨cs, h1, by rw [setRow_other _ _ _ _ (by omega)]; exact h2⟩)
  have HSR3 := hid (show ((w0.drewN d).setRow (w.heap.size + 1 + 1) (ints .u8 R0)).rangeAt w.heap.size 16 (ints .u8 y2).toList from by
    intro j v hj
    rw [← HSR2.out j v hj]
    simp only [World.cell?, setRow_other _ _ _ _ (show w.heap.size ≠ w.heap.size + 1 + 1 by omega)]
    rfl)
  have HB1 := hid (below_setRow (show Below w.heap.size w (w0.drewN d) from HB0.out.trans ⟨rfl, rfl, rfl, Nat.le_refl _, fun _ _ => rfl⟩) (show w.heap.size ≤ w.heap.size + 1 + 1 by omega) (ints .u8 R0))
  clear HRR HRS HRZ HSR1 HSR2 HB0 s1 s2
  generalize (w0.drewN d).setRow _ _ = w1 at *
  have s1 := fun d => slice_blk (w1.drewN d) (w.heap.size + 1 + 1 + 1)
  have s2 := fun d => slice_khi (w1.drewN d) w.heap.size
  go_upto_region 3 with (fail)
  refine wp_region_noPanic ?_
  refine wp_region_hd1 2 1 rfl (by kernel_rfl) (by kernel_rfl) (fun _ _ _ _ _ h => h) ?_
  simp only [List.take_succ_cons, List.take_zero, List.drop_succ_cons, List.drop_zero]
  repeat (go_big_quiet_step (fail))
  refine wpQuiet_nil ?_
  intro d2
  go_wp2_with (refine wpList_copy_row rfl _ _ rfl (w.heap.size + 1 + 1 + 1) 17 17 _ (List.replicate 17 0) w.heap.size 16 16 y2 rfl (by rw [hl2]; rfl) HRS1.out HSR3.out (by omega) (by simp) ?_)
  rw [HS0.out]
  refine NoPanic.normal ?_
  have HRR2 := hid (show Row ((w1.drewN d2).setRow (w.heap.size + 1 + 1 + 1) (ints .u8 S0)) (w.heap.size + 1 + 1) .u8 68 (Px.kpN R0 0) from by
    unfold Row; rw [setRow_other _ _ _ _ (by omega)]; exact HRR1.out)
  have HRS2 := hid (show Row ((w1.drewN d2).setRow (w.heap.size + 1 + 1 + 1) (ints .u8 S0)) (w.heap.size + 1 + 1 + 1) .u8 68 S0 from setRow_heap (w1.drewN d2) _ _ _ _ _ HRS1.out)
  have HRZ2 := hid (show ∃ cs : Array Value, cs.size = 33 ∧ ((w1.drewN d2).setRow (w.heap.size + 1 + 1 + 1) (ints .u8 S0)).heap[w.heap.size + 1]? = some (.cells cs 70 (0, 0)) from by
    obtain ⟨cs, h1, h2⟩ := HRZ1.out
    exact ⟨cs, h1, by rw [setRow_other _ _ _ _ (by omega)]; exact h2⟩)
  have HB2 := hid (below_setRow (show Below w.heap.size w (w1.drewN d2) from HB1.out.trans ⟨rfl, rfl, rfl, Nat.le_refl _, fun _ _ => rfl⟩) (show w.heap.size ≤ w.heap.size + 1 + 1 + 1 by omega) (ints .u8 S0))
  clear HRR1 HRS1 HRZ1 HSR3 HB1 s1 s2 HR0 HS0
  generalize (w1.drewN d2).setRow _ _ = w2 at *
  have HTK := hid (HT.out.below HB2.out (Nat.le_refl _))
  have IK := hid (show (Tryd.prog.info? 36).map (·.size) = some (ints .u8 Px.kept).toList.length from by rw [ints_llen]; exact info47)
  have HKL := hid (show Px.kept.length = 16 from rfl)
  have hkl : ∀ k, Px.kept.getD k 0 < 256 := Px.kept_lt
  have HKX := hid hkl
  clear hkl
  have hck : (ints .u8 Px.kept).toList.toArray = ints .u8 Px.kept := Array.toArray_toList
  go_upto_region 5 with (refine wpList_load_mid rfl _ _ rfl 1 0 rfl _ _ HTK.out Tryd.underlying36 rfl IK.out ?_; rw [hck])
  clear hck HTK IK
  go_loopw [14] (fun i wr => ∃ k : Nat, k ≤ 16 ∧ i = .int .i64 k ∧ BgS w (w.heap.size + 1 + 1) (w.heap.size + 1 + 1 + 1) (w.heap.size + 1) (Px.kpN R0 k) S0 wr)
    (fun i _ => 16 - (intOf i).toNat)
  case atStart => exact ⟨0, by omega, rfl, HRR2.out, HRS2.out, HRZ2.out, HB2.out⟩
  case round =>
    clear HRR2 HRS2 HRZ2 HB2
    obtain ⟨k, hk, rfl, rr, rs, rz, hbel⟩ := hrel
    by_cases hlt : k < 16
    · have hi := fun wx => run_index_ints (P := Tryd.prog) wx 36 5 16 .u8 Px.kept Tryd.underlying36 Tryd.underlying5 (by kernel_rfl) HKL.out k hlt
      have HST : Hid (∀ n : Nat, Px.kpN R0 (k + 1) = (Px.kpN R0 k).set k ((Px.kpN R0 k).getD k 0 &&& Px.kept.getD k 0)) := fun _ => rfl
      have hll : (Px.kpN R0 k).length = 17 := by rw [Px.kpN_length, hrl]
      have hxl := getD_lt (by omega) (Px.kpN_lt R0 HRB.out k) k
      have hkx := HKX.out k
      generalize Px.kpN R0 k = y at *
      have c0 := rr.cell k (by omega)
      have f0 := rr.free k
      have hand := and8 (y.getD k 0) (Px.kept.getD k 0) hxl hkx
      have r1 := rr.set k (y.getD k 0 &&& Px.kept.getD k 0)
      rw [← HST.out 0] at r1
      have s1 := rs.set_other ⟨w.heap.size + 1 + 1, k, none⟩ (.int .u8 (y.getD k 0 &&& Px.kept.getD k 0 : Nat)) (by simp)
      have z1 : ∃ cs : Array Value, cs.size = 33 ∧ (wr.setCell ⟨w.heap.size + 1 + 1, k, none⟩ (.int .u8 (y.getD k 0 &&& Px.kept.getD k 0 : Nat))).heap[w.heap.size + 1]? = some (.cells cs 70 (0, 0)) := by
        obtain ⟨cs, h1, h2⟩ := rz
        exact ⟨cs, h1, by rw [heap_setCell_other _ _ _ _ (by simp)]; exact h2⟩
      have b1 := hbel.setCell (p := ⟨w.heap.size + 1 + 1, k, none⟩) (by show w.heap.size ≤ w.heap.size + 1 + 1; omega) (.int .u8 (y.getD k 0 &&& Px.kept.getD k 0 : Nat))
      have HSS := hid (show BgS w (w.heap.size + 1 + 1) (w.heap.size + 1 + 1 + 1) (w.heap.size + 1) (Px.kpN R0 (k + 1)) S0 _ from ⟨r1, s1, z1, b1⟩)
      clear r1 s1 z1 b1 rr rs rz hbel HST hll hxl hkx
      generalize (y.getD k 0 &&& Px.kept.getD k 0) = v at *
      generalize y.getD k 0 = x0 at *
      generalize Px.kept.getD k 0 = x1 at *
      go_wp2
      go_roundw
      case rel =>
        first
          | exact ⟨k + 1, by omega, by go_num, HSS.out⟩
          | ((repeat apply Exists.intro); refine ⟨?_, rfl⟩; exact ⟨k + 1, by omega, by go_num, HSS.out⟩)
      case measure => simp [intOf]; omega
    · obtain rfl : k = 16 := by omega
      have hkl2 : (Px.kpN R0 16).length = 17 := by rw [Px.kpN_length, hrl]
      have HN1 := hid (fun wx => numberOf_any (Px.kpN R0 16) hkl2 (Px.kpN_lt R0 HRB.out 16) wx)
      have HN2 := hid (fun wx => numberOf_any S0 hsl HSB.out wx)
      rw [← HRO.out 0] at HN1
      rw [← HSO.out 0] at HN2
      have HS1 := hid (show BgS w (w.heap.size + 1 + 1) (w.heap.size + 1 + 1 + 1) (w.heap.size + 1) (Px.kpN R0 16) S0 wr ∧ w.heap.size ≤ wr.heap.size from ⟨⟨rr, rs, rz, hbel⟩, hbel.size⟩)
      clear rr rs rz hbel HRO HSO HRB HSB HKX HKL
      generalize Px.kpN R0 16 = R1 at *
      rw [show ((16 : Nat) : Int) = 16 from rfl]
      go_upto_region 9 with (fail)
      refine wp_region_noPanic ?_
      refine wp_region_hd (fun u => BgS w (w.heap.size + 1 + 1) (w.heap.size + 1 + 1 + 1) (w.heap.size + 1) R1 S0 u ∧ w.heap.size ≤ u.heap.size) 5 1 rfl (by kernel_rfl) (by kernel_rfl) ⟨HS1.out.1.keep HS1.out.2 ((Below.refl _ _).drew), HS1.out.2⟩ (fun _ _ _ _ _ h => h) ?_
      intro Z φ hne hSφ hφ
      have HSZ := hid hSφ
      have HM := hid (show ∀ u : World, (∃ z, u = φ z) → u.rangeAt (w.heap.size + 1 + 1) 0 (ints .u8 R1).toList from fun u ⟨z, hz⟩ => by rw [hz]; exact row_range0 (hSφ z).1.1)
      have HSS := hid (show ∀ u : World, (∃ z, u = φ z) → u.rangeAt (w.heap.size + 1 + 1 + 1) 0 (ints .u8 S0).toList from fun u ⟨z, hz⟩ => by rw [hz]; exact row_range0 (hSφ z).1.2.1)
      have IM := hid (show (Tryd.prog.info? 68).map (·.size) = some (ints .u8 R1).toList.length from by rw [ints_llen, hkl2]; exact info82)
      have IS := hid (show (Tryd.prog.info? 68).map (·.size) = some (ints .u8 S0).toList.length from by rw [ints_llen, hsl]; exact info82)
      have C1 := hid (fun z => calls_class hφ ((HN1.out (φ z)).mono fun e w' h => ⟨h.1, (hSφ z).1.keep (hSφ z).2 h.2, Nat.le_trans (hSφ z).2 h.2.size⟩))
      have C2 := hid (fun z => calls_class hφ ((HN2.out (φ z)).mono fun e w' h => ⟨h.1, (hSφ z).1.keep (hSφ z).2 h.2, Nat.le_trans (hSφ z).2 h.2.size⟩))
      have hbd := fun z => run_bst R S hro hso (φ z)
      have hps : (pC R S (List.replicate 5 0) (List.replicate 17 0) 0).size = 33 := by
        rw [← Array.length_toList, pC_c]; simp only [List.length_append, ints_llen, hro, hso, List.length_replicate, List.length_cons, List.length_nil]
      have HPO := hid (pC_one R S (List.replicate 5 0) (List.replicate 17 0) 0)
      generalize hPC : pC R S (List.replicate 5 0) (List.replicate 17 0) 0 = PC at *
      have HPC := hid hPC
      have HBD := hid (show ∀ u : World, (∃ z, u = φ z) → (Instr.build 70 #[(0, .agg (ints .u64 R)), (1, .agg (ints .u64 S))]).run Tryd.prog u = .ok (.agg PC) u from fun u ⟨z, hz⟩ => by rw [hz]; exact hbd z)
      clear hSφ hφ hPC
      simp only [List.take_succ_cons, List.take_zero, List.drop_succ_cons, List.drop_zero]
      repeat (first
        | (refine wpQuiet_load_arr rfl _ _ rfl (w.heap.size + 1 + 1) 0 rfl _ _ HM.out Tryd.underlying68 rfl IM.out ?_; simp only [Act.put, List.setIfInBounds_toArray, List.set_cons_zero, List.set_cons_succ])
        | (refine wpQuiet_load_arr rfl _ _ rfl (w.heap.size + 1 + 1 + 1) 0 rfl _ _ HSS.out Tryd.underlying68 rfl IS.out ?_; simp only [Act.put, List.setIfInBounds_toArray, List.set_cons_zero, List.set_cons_succ])
        | go_big_quiet_step (first | (go_at_call 52; with_reducible exact C1.out _) | (go_at_call 52; with_reducible exact C2.out _)))
      refine wpQuiet_build rfl _ _ rfl #[(0, .agg (ints .u64 R)), (1, .agg (ints .u64 S))] (by simp only [List.map_toArray, List.map_cons, List.map_nil]; rfl) PC HBD.out ?_
      simp only [Act.put, List.setIfInBounds_toArray, List.set_cons_zero, List.set_cons_succ]
      refine wpQuiet_nil ?_
      intro z
      obtain ⟨⟨_, _, ⟨cs, hcs, hrz⟩, hbz⟩, hsz2⟩ := HSZ.out z
      have HBZ := hid hbz
      clear HSZ HM HSS C1 C2 hbd hbz HBD
      generalize φ z = w3 at *
      go_wp2_with (refine wpList_store_row rfl _ _ _ rfl (w.heap.size + 1) _ rfl rfl _ _ hrz (by rw [hps]; exact info84) (by rw [hps, hcs]) HPO.out ?_)
      refine NoPanic.normal ?_
      go_wp2
      exact bodyPost_ret (v := .agg PC)
        (results_cell_row Tryd.results34 _ _ (w.heap.size + 1) _ _ _ _ rfl (setRow_heap w3 (w.heap.size + 1) _ _ _ _ hrz) Tryd.underlying70 rfl (by rw [hps]; exact info84))
        rfl ⟨by rw [HRe.out 0, HSe.out 0, HPC.out], below_setRow HBZ.out (Nat.le_succ _) _⟩
end Go.Proofs.YtiolflofkoeffaaDoor
