/-
  What serves every layer: rows of numbers in memory, texts, slices of a call's own, the laws' Cut and Few, the way from a walk to a law.
-/
import Derived.Test.YthmhbefbjbkabaaChecked
import Derived.Test.YthmhbefbjbkabaaRows
import Derived.Test.YthmhbefbjbkabaaRg
import Derived.WalkKit
import Derived.WalkSpells
import Derived.WalkLawsBesides
import Derived.Lib.Hide
import Derived.Deep.QuietTactic
import Derived.BigQuiet
import Derived.BigRegion
import Derived.Deep.WholeRow
import Derived.Laws.CopyOwn
import Derived.StillTailTactics
import Derived.Deep.RegionWith
import Derived.Deep.Draws
import Derived.Deep.CutRange
import Derived.Laws.BytesArg
import Derived.Deep.MidRow
import Derived.Deep.RegionHeld3
import Derived.Stop.BytesEq
import Derived.ProofKit
import Derived.OpenShut
import Derived.Deep.DeepHandedRow
import Derived.Lib.LaidTab
import Derived.Stop.LaidErr
import Derived.SliceStrings
import Derived.Lib.AppendStr
import Derived.Deep.OwnRows
import Derived.ChangeSlices
set_option maxRecDepth 20000
namespace Go.Proofs.Ythmhbefbjbkabaa
open Go.ChangeShapes Go.WideShapes Go.ChangeAt Go.RowKit
open Go.Lib (hid)
namespace Sx
/-- 2^32. -/
def M : Nat := 4294967296
end Sx

theorem u32_of_lt (n : Nat) (h : n < 4294967296) : IntKind.u32.wrap (n : Int) = n := by
  rw [IntKind.wrap_u32]; omega
theorem wraps_u32 (n : Int) (h0 : 0 ≤ n) (h1 : n < 2 ^ 32) : IntKind.u32.wrap n = n := by rw [IntKind.wrap_u32]; omega
theorem bits_xor_nat (k : IntKind) (j : Nat) (hj : j ≤ k.bits) (hk : ∀ n : Int, 0 ≤ n → n < 2 ^ j → k.wrap n = n) (a b : Nat) (ha : a < 2 ^ j) (hb : b < 2 ^ j) :
    bits .xor k a b = ((a ^^^ b : Nat) : Int) := by
  have hp : 2 ^ j ≤ 2 ^ k.bits := Nat.pow_le_pow_right (by decide) hj
  have ha' : a % 2 ^ k.bits = a := Nat.mod_eq_of_lt (Nat.lt_of_lt_of_le ha hp)
  have hb' : b % 2 ^ k.bits = b := Nat.mod_eq_of_lt (Nat.lt_of_lt_of_le hb hp)
  have cast : ∀ n : Nat, n < 2 ^ j → ((n : Nat) : Int) < 2 ^ j := fun n h => by exact_mod_cast h
  simp only [bits, BitVec.ofInt_natCast, BitVec.toNat_xor, BitVec.toNat_ofNat, ha', hb']
  exact hk _ (Int.natCast_nonneg _) (cast _ (Nat.xor_lt_two_pow ha hb))
theorem xor32 (a b : Nat) (ha : a < Sx.M) (hb : b < Sx.M) : bits .xor .u32 (a : Int) (b : Int) = ((a ^^^ b : Nat) : Int) :=
  bits_xor_nat .u32 32 (by decide) wraps_u32 a b ha hb
theorem and32 (a b : Nat) (ha : a < Sx.M) (hb : b < Sx.M) : bits .and .u32 (a : Int) (b : Int) = ((a &&& b : Nat) : Int) :=
  (bits_nat .u32 32 (by decide) wraps_u32 a b ha hb).1
theorem or32 (a b : Nat) (ha : a < Sx.M) (hb : b < Sx.M) : bits .or .u32 (a : Int) (b : Int) = ((a ||| b : Nat) : Int) :=
  (bits_nat .u32 32 (by decide) wraps_u32 a b ha hb).2
theorem xor32_lt (a b : Nat) (ha : a < Sx.M) (hb : b < Sx.M) : a ^^^ b < Sx.M := Nat.xor_lt_two_pow (n := 32) ha hb
theorem and32_lt (a b : Nat) (hb : b < Sx.M) : a &&& b < Sx.M := Nat.and_lt_two_pow (n := 32) _ hb
theorem add32 (a b : Nat) : IntKind.u32.wrap ((a : Int) + (b : Int)) = (((a + b) % Sx.M : Nat) : Int) := by
  rw [IntKind.wrap_u32]; unfold Sx.M; omega
theorem ret_int {k : IntKind} {a b : Int} (h : a = b) : Ending.returned (.int k a) = .returned (.int k b) := by rw [h]
def ints (k : IntKind) (l : List Nat) : Array Value := (l.map fun n : Nat => Value.int k (n : Int)).toArray
theorem ints_size (k : IntKind) (l : List Nat) : (ints k l).size = l.length := by simp [ints]
theorem ints_get (k : IntKind) (l : List Nat) (i : Nat) (h : i < l.length) : (ints k l)[i]? = some (.int k (l.getD i 0 : Nat)) := by
  simp [ints, h]
theorem ints_set (k : IntKind) (l : List Nat) (i n : Nat) : (ints k l).setIfInBounds i (.int k (n : Int)) = ints k (l.set i n) := by
  simp [ints, List.map_set]
theorem ints_one (k : IntKind) (l : List Nat) : (ints k l).all (·.oneCell') = true := by
  simp [ints, Value.oneCell']
/-- A whole block of numbers. -/
def Row (w : World) (b : Nat) (k : IntKind) (t : TypeId) (l : List Nat) : Prop := w.heap[b]? = some (.cells (ints k l) t (0, 0))
theorem Row.cell {w : World} {b : Nat} {k : IntKind} {t : TypeId} {l : List Nat} (h : Row w b k t l) (i : Nat) (hi : i < l.length) : w.cell? ⟨b, i, none⟩ = some (.int k (l.getD i 0 : Nat)) := by
  rw [cell_of_row w b i _ _ _ h, ints_get k l i hi]
theorem Row.free {w : World} {b : Nat} {k : IntKind} {t : TypeId} {l : List Nat} (h : Row w b k t l) (i : Nat) : w.frozen? ⟨b, i, none⟩ = false :=
  frozen_of_row w b i _ _ h
theorem Row.set {w : World} {b : Nat} {k : IntKind} {t : TypeId} {l : List Nat} (h : Row w b k t l) (i n : Nat) : Row (w.setCell ⟨b, i, none⟩ (.int k (n : Int))) b k t (l.set i n) := by
  unfold Row
  rw [heap_setCell_same w b i _ t _ h, ints_set]
theorem Row.set_other {w : World} {b : Nat} {k : IntKind} {t : TypeId} {l : List Nat} (h : Row w b k t l) (a : Addr) (v : Value) (hb : b ≠ a.block) : Row (w.setCell a v) b k t l := by
  unfold Row
  rw [heap_setCell_other w a b v hb]; exact h
theorem Row.below {w w' : World} {B b : Nat} {k : IntKind} {t : TypeId} {l : List Nat} (h : Row w b k t l) (hb : Below B w w') (hlt : b < B) : Row w' b k t l := by
  unfold Row
  rw [hb.block b hlt]; exact h
theorem Row.lt {w : World} {b : Nat} {k : IntKind} {t : TypeId} {l : List Nat} (h : Row w b k t l) : b < w.heap.size := (Array.getElem?_eq_some_iff.1 h).1
theorem Row.alloc {w : World} {b : Nat} {k : IntKind} {t : TypeId} {l : List Nat} (h : Row w b k t l) (o : Obj) : Row (w.alloc o) b k t l := by
  unfold Row
  rw [Below.heap_alloc w o b h.lt]; exact h
/-- The load of a whole row by an operation whose guard, if it has one, says yes. -/
theorem wpList_load_row_g {P : Program} {w : World} {ops : Array Oper} {rest : List Oper} {o : Oper} {a : Act} {Q : Exit → Act → World → Prop} (hw : Region.wanted o (yielded ops a.tmps) = true) (ty : TypeId) (x : Operand) (ho : o.op = .load ty x)
    (g : Nat) (hx : a.eval x = .pointer (some ⟨g, 0, none⟩)) (t : TypeId) (cs : Array Value) (fr : Nat × Nat) (d : TypeDesc) (hg : w.heap[g]? = some (.cells cs t fr))
    (hu : P.underlying ty = some d) (hd : (match d with | .struct _ | .array _ _ => true | _ => false) = true) (hi : (P.info? ty).map (·.size) = some cs.size)
    (h : wpList P ops Q rest (a.put o.dst (.agg cs)) w) : wpList P ops Q (o :: rest) a w :=
  wpList_step fun K hK => by rw [if_pos hw]; exact wp_load_row ty x ho g hx t cs fr d hg hu hd hi (hK _ _ h)
/-- An element of an array of numbers that is a value. -/
theorem run_index_ints {P : Program} (w : World) (t e : TypeId) (n : Nat) (k : IntKind) (l : List Nat) (hu : P.underlying t = some (.array n e)) (he : P.underlying e = some (.int k))
    (hs : (P.info? e).map (·.size) = some 1) (hl : l.length = n) (i : Nat) (hi : i < n) :
    (Instr.index t (.agg (ints k l)) (.int .i64 (i : Int))).run P w = .ok (.int k (l.getD i 0 : Nat)) w := by
  obtain ⟨f, hf, hf1⟩ := Option.map_eq_some_iff.1 hs
  have hg := ints_get k l i (by omega)
  have h1 : (0 : Int) ≤ (i : Int) ∧ (i : Int) < (n : Int) := by omega
  simp only [Instr.index, asIntOf, Sem.run_bind, Sem.run_pure, Result.andThen_ok, run_underlying hu, if_pos h1]
  simp [part, isAgg, run_underlying he, sizeOf, typeInfo, hf, hf1, hg, Sem.run_bind]
theorem heap_alloc3_0 (w : World) (A B C : Obj) : (((w.alloc A).alloc B).alloc C).heap[w.heap.size]? = some A := by
  rw [Below.heap_alloc _ C _ (by simp; omega), heap_alloc2_old]
theorem heap_alloc3_1 (w : World) (A B C : Obj) : (((w.alloc A).alloc B).alloc C).heap[w.heap.size + 1]? = some B := by
  rw [Below.heap_alloc _ C _ (by simp), heap_alloc2_new]
theorem heap_alloc3_2 (w : World) (A B C : Obj) : (((w.alloc A).alloc B).alloc C).heap[w.heap.size + 1 + 1]? = some C := by
  have h := heap_alloc2_new (w.alloc A) B C
  simpa using h
theorem or_word (x0 x1 x2 x3 : Nat) (h0 : x0 < 256) (h1 : x1 < 256) (h2 : x2 < 256) (h3 : x3 < 256) :
    bits .or .u32 (bits .or .u32 (bits .or .u32 ((x0 : Int) * 16777216) ((x1 : Int) * 65536)) ((x2 : Int) * 256)) (x3 : Int) = ((((x0 * 256 + x1) * 256 + x2) * 256 + x3 : Nat) : Int) := by
  rw [bits_join .u32 32 (by decide) wraps_u32 24 ((x0 : Int) * 16777216) ((x1 : Int) * 65536) (by omega) (by omega) (by omega) (by omega) (by omega) (by omega),
    bits_join .u32 32 (by decide) wraps_u32 16 ((x0 : Int) * 16777216 + (x1 : Int) * 65536) ((x2 : Int) * 256) (by omega) (by omega) (by omega) (by omega) (by omega) (by omega),
    bits_join .u32 32 (by decide) wraps_u32 8 ((x0 : Int) * 16777216 + (x1 : Int) * 65536 + (x2 : Int) * 256) (x3 : Int) (by omega) (by omega) (by omega) (by omega) (by omega) (by omega)]
  omega
/-- A text of these bytes. -/
def str (l : List Nat) : ByteArray := ⟨(l.map UInt8.ofNat).toArray⟩
/-- A text's bytes. -/
def nums (s : ByteArray) : List Nat := s.data.toList.map (·.toNat)
theorem nums_str (l : List Nat) (h : ∀ x ∈ l, x < 256) : nums (str l) = l := by
  unfold nums str
  simp only [List.map_map]
  conv => rhs; rw [← List.map_id l]
  apply List.map_congr_left
  intro x hx
  simp [Nat.mod_eq_of_lt (h x hx)]
theorem str_nums (s : ByteArray) : str (nums s) = s := by
  unfold nums str
  cases s with
  | mk d => simp [Function.comp_def]
theorem nums_length (s : ByteArray) : (nums s).length = s.size := by rw [nums, List.length_map]; rfl
theorem str_size (l : List Nat) : (str l).size = l.length := by simp [str, ByteArray.size]
theorem nums_lt (s : ByteArray) : ∀ x ∈ nums s, x < 256 := by
  intro x hx
  simp only [nums, List.mem_map] at hx
  obtain ⟨y, _, rfl⟩ := hx
  exact y.toNat_lt
theorem strOf_ints (l : List Nat) : strOfNums (l.map fun n : Nat => (n : Int)) = str l := by
  unfold strOfNums str
  simp [List.map_map, Function.comp_def]
/-- A slice of bytes is made a text. -/
theorem run_str (w : World) (b off n cap : Nat) (t : TypeId) (l : List Nat) (h : Row w b .u8 t l) (hn : off + n ≤ l.length) :
    (convert 83 9 (.slice (some ⟨b, off, none⟩) n cap)).run Try.prog w = .ok (.string (str ((l.drop off).take n))) w := by
  have hl : ((l.drop off).take n).length = n := by simp; omega
  rw [← strOf_ints]
  refine run_convert_bytes_arg w 83 5 Try.underlying83 Try.underlying5 b off n cap _ (by simp; omega) (fun i hi => ?_) 9 Try.underlying9
  rw [h.cell (off + i) (by omega)]
  simp [hi, List.getElem?_drop]
  rw [List.getElem?_eq_getElem (by omega)]
  simp
theorem info5 : (Try.prog.info? 5).map (fun i => (i.zero, i.size, i.bytes)) = some (some (.int .u8 0), 1, 1) := by kernel_rfl
/-- A slice of noughts is made. -/
theorem run_mk (w : World) (n : Nat) (hn : n ≤ 1000000) :
    (Instr.makeSlice 83 (.int .i64 (n : Int)) (.int .i64 (n : Int))).run Try.prog w = .ok (.slice (some ⟨w.heap.size, 0, none⟩) n n) (w.alloc (.cells (ints .u8 (List.replicate n 0)) 5)) := by
  obtain ⟨i, hi, hz0, hz1, hz2⟩ := info_parts info5
  have h := run_make (P := Try.prog) w 83 5 i (.int .u8 0) Try.underlying83 hi hz0 .i64 .i64 n n (by omega) (by omega) (by rw [hz2]; omega) (by omega)
  rw [h, hz1]
  have e : madeCells (Value.int .u8 0).cells (n * 1) = ints .u8 (List.replicate n 0) := by
    apply Array.ext
    · simp [madeCells, ints]
    · intro i h1 h2
      simp [madeCells, ints, Value.cells, Nat.mod_one]
  simp only [Int.toNat_natCast, e]
/-- The world w' is w but for block b, and for new blocks. -/
structure KeptB (b : Nat) (w w' : World) : Prop where
  os : w'.os = w.os
  tape : w'.tape = w.tape
  output : w'.output = w.output
  size : w.heap.size ≤ w'.heap.size
  block : ∀ k, k < w.heap.size → k ≠ b → w'.heap[k]? = w.heap[k]?
theorem KeptB.refl (b : Nat) (w : World) : KeptB b w w := ⟨rfl, rfl, rfl, Nat.le_refl _, fun _ _ _ => rfl⟩
theorem KeptB.trans {b : Nat} {u v w : World} (h : KeptB b u v) (k : KeptB b v w) : KeptB b u w :=
  ⟨k.os.trans h.os, k.tape.trans h.tape, k.output.trans h.output, Nat.le_trans h.size k.size, fun i hi hb => (k.block i (Nat.lt_of_lt_of_le hi h.size) hb).trans (h.block i hi hb)⟩
theorem KeptB.of_below {b : Nat} {w w' : World} (h : Below w.heap.size w w') : KeptB b w w' := ⟨h.os, h.tape, h.output, h.size, fun k hk _ => h.block k hk⟩
theorem KeptB.below {b B : Nat} {w w' : World} (h : KeptB b w w') (hb : B ≤ b) (hB : B ≤ w.heap.size) : Below B w w' :=
  ⟨h.os, h.tape, h.output, h.size, fun k hk => h.block k (by omega) (by omega)⟩
theorem KeptB.drew {b : Nat} {u w : World} (h : KeptB b u w) : KeptB b u w.drew := ⟨h.os, h.tape, h.output, h.size, h.block⟩
theorem KeptB.setRow {b : Nat} {u w : World} (h : KeptB b u w) (cs : Array Value) : KeptB b u (w.setRow b cs) :=
  h.trans ⟨rfl, rfl, rfl, by simp, fun k _ hb => setRow_other w b k cs hb⟩
theorem KeptB.setCell {b o : Nat} {u w : World} (h : KeptB b u w) (v : Value) : KeptB b u (w.setCell ⟨b, o, none⟩ v) :=
  h.trans ⟨rfl, rfl, rfl, by simp [World.setCell], fun k _ hb => Below.heap_setCell w _ v k hb⟩
theorem Row.keptB {w w' : World} {c b : Nat} {k : IntKind} {t : TypeId} {l : List Nat} (h : Row w b k t l) (hk : KeptB c w w') (hb : b ≠ c) : Row w' b k t l := by
  unfold Row
  rw [hk.block b h.lt hb]; exact h
/-- copy(dst, text): as many bytes as there is room for. -/
theorem run_copy_str {P : Program} (w : World) (dT sT ty elem : TypeId) (g o dLen dCap : Nat) (s : ByteArray) (cur : Array Value) (t : TypeId)
    (hu : P.underlying dT = some (.slice elem)) (hs : (P.info? elem).map (·.size) = some 1) (hg : w.heap[g]? = some (.cells cur t (0, 0))) (hfit : o + dLen ≤ cur.size) :
    (Builtin.copy_ #[dT, sT] ty #[.slice (some ⟨g, o, none⟩) dLen dCap, .string s]).run P w =
      .ok (goInt (min s.size dLen : Nat)) (w.setRow g (cur.toList.take o ++ ((ints .u8 ((nums s).take (min s.size dLen))).toList ++ cur.toList.drop (o + min s.size dLen))).toArray) := by
  have hlen : (ints .u8 ((nums s).take (min s.size dLen))).toList.length = min s.size dLen := by simp [ints, nums_length]
  have hst := run_storeCells_at P g o t (ints .u8 ((nums s).take (min s.size dLen))).toList 0 cur w hg (by rw [hlen]; omega) (fun v hv => by
    simp only [ints, List.mem_map] at hv
    obtain ⟨x, _, rfl⟩ := hv
    rfl)
  have htk : List.take (min s.size dLen) (List.map (fun b : UInt8 => Value.int IntKind.u8 (b.toNat : Int)) s.data.toList) = (ints .u8 ((nums s).take (min s.size dLen))).toList := by
    simp [ints, nums, List.map_take, List.map_map, Function.comp_def]
  rw [hlen] at hst
  simp only [Nat.add_zero, List.append_assoc] at hst
  cases hq : P.info? elem with
  | none => simp [hq] at hs
  | some i =>
    have hmin : Nat.min s.size dLen = min s.size dLen := rfl
    simp [Builtin.copy_, run_underlying hu, Builtin.lenOf, Builtin.firstCells, sizeOf, typeInfo, hq, hmin]
    rw [htk, hst]
    simp [Result.andThen]
theorem wpList_copy_str {P : Program} {w : World} {ops : Array Oper} {rest : List Oper} {o : Oper} {a : Act} {Q : Exit → Act → World → Prop} (hgd : o.guard = none) (d s : Operand) (dT sT : TypeId)
    (ho : o.op = .call { callee := .builtin .copy, args := #[d, s], argTypes := #[dT, sT] }) (elem : TypeId) (hu : P.underlying dT = some (.slice elem)) (hsz : (P.info? elem).map (·.size) = some 1)
    (g off dLen dCap : Nat) (x : ByteArray) (hd : a.eval d = .slice (some ⟨g, off, none⟩) dLen dCap) (hs : a.eval s = .string x)
    (cur : Array Value) (t : TypeId) (hg : w.heap[g]? = some (.cells cur t (0, 0))) (hfit : off + dLen ≤ cur.size)
    (h : wpList P ops Q rest (a.put o.dst (goInt (min x.size dLen : Nat))) (w.setRow g (cur.toList.take off ++ ((ints .u8 ((nums x).take (min x.size dLen))).toList ++ cur.toList.drop (off + min x.size dLen))).toArray)) : wpList P ops Q (o :: rest) a w := by
  refine wpList_plain hgd fun K hK => ?_
  have hrun := run_copy_str (P := P) w dT sT o.type elem g off dLen dCap x cur t hu hsz hg hfit
  unfold Oper.wp
  simp [execOp, ho, resolve, invoke, builtin, hd, hs, hrun, Result.andThen]
  exact hK _ _ h
theorem info5' : (Try.prog.info? 5).map (·.size) = some 1 := by kernel_rfl
/-- A whole value goes into the cells from place o of a row on. -/
theorem wpList_store_in {P : Program} {ops : Array Oper} {rest : List Oper} {op : Oper} {a : Act} {w : World} {Q : Exit → Act → World → Prop} (hgd : op.guard = none) (ty : TypeId) (x y : Operand) (ho : op.op = .store ty x y)
    (g o : Nat) (cells : Array Value) (hx : a.eval x = .pointer (some ⟨g, o, none⟩)) (hy : a.eval y = .agg cells)
    (cur : Array Value) (t : TypeId) (hg : w.heap[g]? = some (.cells cur t (0, 0))) (hfit : o + cells.size ≤ cur.size) (hi : (P.info? ty).map (·.size) = some cells.size) (h1 : cells.all (·.oneCell') = true)
    (h : wpList P ops Q rest (a.put op.dst undef) (w.setRow g (cur.toList.take o ++ (cells.toList ++ cur.toList.drop (o + cells.size))).toArray)) : wpList P ops Q (op :: rest) a w := by
  have hst := run_storeCells_at P g o t cells.toList 0 cur w hg (by simpa using hfit) (fun v hv => (Array.all_eq_true_iff_forall_mem.1 h1) v (by simpa using hv))
  have hsv : (storeVar ty ⟨g, o, none⟩ (.agg cells)).run P w = .ok () (w.setRow g (cur.toList.take o ++ (cells.toList ++ cur.toList.drop (o + cells.size))).toArray) := by
    cases hq : P.info? ty with
    | none => simp [hq] at hi
    | some i =>
      have hs : cells.size = i.size := by simp [hq] at hi; omega
      simp only [Nat.add_zero, List.append_assoc, Array.length_toList] at hst
      simp [storeVar, sizeOf, typeInfo, hq, Value.cells, hs] at hst ⊢
      exact hst
  refine wpList_plain hgd fun K hK => ?_
  unfold Oper.wp execOp
  simp only [ho, hx, hy, Instr.storeAt, Instr.sureAddr, Sem.run_bind, Sem.run_pure, Result.andThen_ok, hsv]
  exact hK _ _ h
theorem ints_llen (k : IntKind) (l : List Nat) : (ints k l).toList.length = l.length := by simp [ints]
theorem wpOp_of {P : Program} {ops : Array Oper} {Q : Exit → Act → World → Prop} {i : Nat} {o : Oper} {K : Act → World → Prop} {a : Act} {w : World} (hi : ops[i]? = some o) (hg : o.guard = none) (h : o.wp P a w K Q) : wpOp P ops Q i K a w := by
  unfold wpOp
  simp only [hi, Region.wanted, hg, if_true]
  exact Or.inl h
theorem all_two {P : Nat → Prop} {i j : Nat} (hi : P i) (hj : P j) : ∀ k ∈ [i, j], P k := by
  intro k hk
  simp only [List.mem_cons, List.not_mem_nil, or_false] at hk
  rcases hk with rfl | rfl
  · exact hi
  · exact hj
theorem all_one {P : Nat → Prop} {i : Nat} (hi : P i) : ∀ k ∈ [i], P k := by
  intro k hk
  simp only [List.mem_cons, List.not_mem_nil, or_false] at hk
  subst hk; exact hi
theorem wpAny_tail {P : Program} {md : Region.Mode} {Q : Exit → Act → World → Prop} {l : List Oper} {listed : Array Bool} {a : Act} {w : World} (n f : Nat) (hf : l.length - n = f)
    (hB : Region.seqB md l.toArray f n listed = true) (h : wpList P l.toArray Q (l.drop n) a w) : wpAny P md l.toArray Q f listed a w := by
  have hl : (l.drop n).length = f := by rw [List.length_drop, hf]
  have := wpAny_of_seq (md := md) (Q' := Q) (l.drop n) n listed a w (fun j => by simp [List.getElem?_drop]) (by rw [hl]; exact hB) h
  rwa [hl] at this
/-- A slice's cells are these texts. -/
def Strs (w : World) (ao : Option Addr) (L : List (List Nat)) : Prop :=
  ∀ i, i < L.length → ∃ sb so, ao = some ⟨sb, so, none⟩ ∧ w.cell? ⟨sb, so + i, none⟩ = some (.string (str (L.getD i [])))
theorem Strs.below {w w' : World} {ao : Option Addr} {L : List (List Nat)} (h : Strs w ao L) (hb : Below w.heap.size w w') : Strs w' ao L := by
  intro i hi
  obtain ⟨sb, so, ha, hc⟩ := h i hi
  exact ⟨sb, so, ha, by rw [hb.cell (block_lt_of_cell hc)]; exact hc⟩
theorem flatten_take_succ (L : List (List Nat)) (k : Nat) (h : k < L.length) : (L.take (k + 1)).flatten = (L.take k).flatten ++ L.getD k [] := by
  rw [List.take_succ_eq_append_getElem h, List.flatten_append, List.getD_eq_getElem?_getD, List.getElem?_eq_getElem h]
  simp only [List.flatten_cons, List.flatten_nil, List.append_nil, Option.getD_some]
theorem flatten_take_le (L : List (List Nat)) (k : Nat) : (L.take k).flatten.length ≤ L.flatten.length := by
  conv => rhs; rw [← List.take_append_drop k L, List.flatten_append]
  simp
theorem getD_mem_flatten (L : List (List Nat)) (k : Nat) (x : Nat) (h : x ∈ L.getD k []) : x ∈ L.flatten := by
  by_cases hk : k < L.length
  · simp only [List.getD_eq_getElem?_getD, List.getElem?_eq_getElem hk, Option.getD_some] at h
    exact List.mem_flatten.2 ⟨_, List.getElem_mem hk, h⟩
  · simp [List.getElem?_eq_none (Nat.le_of_not_lt hk)] at h
/-- The slice v of the call's own holds the bytes l. -/
def Own (w : World) (base : Nat) (v : Value) (l : List Nat) : Prop := w.ownsRow base 5 1 v l.length (ints .u8 l).toList
theorem Own.nil (w : World) (base : Nat) : Own w base (.slice none 0 0) [] := World.ownsRow_nil _ _ _ _
theorem Own.made (w : World) (base n : Nat) (hb : base ≤ w.heap.size) (hn : n ≤ 1000000) : Own (w.alloc (.cells (ints .u8 (List.replicate n 0)) 5)) base (.slice (some ⟨w.heap.size, 0, none⟩) 0 n) [] :=
  ⟨rfl, Or.inr ⟨w.heap.size, n, _, rfl, hb, heap_alloc_new _ _, Nat.zero_le _, by unfold maxLen; omega, by rw [ints_size]; simp, rfl⟩⟩
theorem Own.below {w w' : World} {base : Nat} {v : Value} {l : List Nat} (h : Own w base v l) (hb : Below w.heap.size w w') : Own w' base v l := by
  obtain ⟨h1, h2⟩ := h
  refine ⟨h1, ?_⟩
  rcases h2 with h2 | ⟨g, cap, cur, hv, hg, hh, r⟩
  · exact Or.inl h2
  · exact Or.inr ⟨g, cap, cur, hv, hg, by rw [hb.block g (Array.getElem?_eq_some_iff.1 hh).1]; exact hh, r⟩
theorem Own.mono {w : World} {base base' : Nat} {v : Value} {l : List Nat} (h : Own w base v l) (hb : base' ≤ base) : Own w base' v l := by
  obtain ⟨h1, h2⟩ := h
  refine ⟨h1, ?_⟩
  rcases h2 with h2 | ⟨g, cap, cur, hv, hg, hh, r⟩
  · exact Or.inl h2
  · exact Or.inr ⟨g, cap, cur, hv, Nat.le_trans hb hg, hh, r⟩
/-- append(s, x...), s the call's own, x some bytes in memory. -/
theorem wpList_app {w : World} {ops : Array Oper} {rest : List Oper} {o : Oper} {a : Act} {Q : Exit → Act → World → Prop} (hgd : o.guard = none) (s x : Operand)
    (ho : o.op = .call { callee := .builtin .append, args := #[s, x], argTypes := #[83, 83] })
    (base : Nat) (v : Value) (l : List Nat) (hs : a.eval s = v) (hown : Own w base v l)
    (ad : Addr) (m c : Nat) (news : List Nat) (hx : a.eval x = .slice (some ad) m c) (hm : news.length = m) (hnews : ∀ j, j < m → w.cell? (ad.add j) = some (.int .u8 (news.getD j 0 : Nat)))
    (hlen : l.length + m ≤ 1000000000000) (hbase : base ≤ w.heap.size)
    (h : ∀ v' w', Own w' base v' (l ++ news) → Below base w w' → wpList Try.prog ops Q rest (a.put o.dst v') w') : wpList Try.prog ops Q (o :: rest) a w := by
  obtain ⟨i, hi, hz0, hz1, hz2⟩ := info_parts info5
  refine wpList_append_own w hgd s x 83 ho base 5 i (.int .u8 0) 1 1 Try.underlying83 hi hz0 hz1 hz2 rfl (by decide) v l.length _ hs hown ad m c (ints .u8 news).toList hx (by rw [ints_llen]; omega) ?_ ?_ (by unfold maxLen; omega) (by omega) hbase ?_
  · intro j u hj
    have hlt : j < news.length := by have := (List.getElem?_eq_some_iff.1 hj).1; rwa [ints_llen] at this
    rw [hnews j (by omega)]
    rw [Array.getElem?_toList, ints_get _ _ _ hlt] at hj
    exact hj
  · intro u hu
    simp only [ints, List.mem_map] at hu
    obtain ⟨y, _, rfl⟩ := hu
    rfl
  · intro v' w' h2 h3 _
    refine h v' w' ?_ ((Below.refl base w).grown h3 hbase ?_)
    · unfold Own
      rw [List.length_append, hm]
      have e : (ints .u8 (l ++ news)).toList = (ints .u8 l).toList ++ (ints .u8 news).toList := by simp [ints]
      rw [e]; exact h2
    · intro k hk
      obtain ⟨_, h2' | ⟨g, cap, cur, hv, hg, _⟩⟩ := hown
      · rw [h2'.1] at hk; cases hk
      · rw [hv] at hk; simp only [Value.ownBlock, Option.some.injEq] at hk; omega
/-- Bytes of the call's own as a text. -/
theorem run_ownstr {w : World} {base : Nat} {v : Value} {l : List Nat} (h : Own w base v l) : (convert 83 9 v).run Try.prog w = .ok (.string (str l)) w := by
  obtain ⟨h1, ⟨hv, h0⟩ | ⟨g, cap, cur, hv, hg, hh, hn, _, hs, hc⟩⟩ := h
  · subst hv
    have hl : l = [] := List.eq_nil_of_length_eq_zero h0
    subst hl
    exact run_convert_bytes_nil w 83 5 Try.underlying83 Try.underlying5 0 0 9 Try.underlying9
  · subst hv
    rw [← strOf_ints]
    refine run_convert_bytes_arg w 83 5 Try.underlying83 Try.underlying5 g 0 l.length cap _ (by simp) (fun i hi => ?_) 9 Try.underlying9
    rw [Nat.zero_add, cell_of_row w g i cur _ _ hh]
    have h2 : cur[i]? = (cur.toList.take (l.length * 1))[i]? := by
      rw [List.getElem?_take, if_pos (by omega), Array.getElem?_toList]
    rw [h2, hc, Array.getElem?_toList, ints_get _ _ _ hi]
    simp [hi]
theorem cells_two (w : World) (x y : Nat) (t : TypeId) : ∀ j, j < 2 → (w.alloc (.cells #[.int .u8 (x : Int), .int .u8 (y : Int)] t)).cell? ((⟨w.heap.size, 0, none⟩ : Addr).add j) = some (.int .u8 ([x, y].getD j 0 : Nat)) := by
  intro j hj
  rw [Addr.add_mid, Nat.zero_add, cell_of_row _ _ _ _ _ _ (heap_alloc_new _ _)]
  obtain rfl | rfl : j = 0 ∨ j = 1 := by omega
  · rfl
  · rfl
theorem cells_one (w : World) (x : Nat) (t : TypeId) : ∀ j, j < 1 → (w.alloc (.cells #[.int .u8 (x : Int)] t)).cell? ((⟨w.heap.size, 0, none⟩ : Addr).add j) = some (.int .u8 ([x].getD j 0 : Nat)) := by
  intro j hj
  rw [Addr.add_mid, Nat.zero_add, cell_of_row _ _ _ _ _ _ (heap_alloc_new _ _)]
  obtain rfl : j = 0 := by omega
  rfl
theorem _root_.Go.RowKit.Below.next {B : Nat} {u v w : World} (h : Below B u v) (hB : B ≤ u.heap.size) (k : Below v.heap.size v w) : Below B u w := h.trans (k.mono (Nat.le_trans hB h.size))
theorem ints_cell (l : List Nat) (h : ∀ x ∈ l, x < 256) : ints .u8 l = ((l.map UInt8.ofNat).map Extern.Stop.cell).toArray := by
  unfold ints
  congr 1
  rw [List.map_map]
  apply List.map_congr_left
  intro x hx
  simp [Extern.Stop.cell, Nat.mod_eq_of_lt (h x hx)]
theorem map_u8_inj (l r : List Nat) (hl : ∀ x ∈ l, x < 256) (hr : ∀ x ∈ r, x < 256) : (l.map UInt8.ofNat == r.map UInt8.ofNat) = (l == r) := by
  rw [Bool.eq_iff_iff]
  simp only [beq_iff_eq]
  constructor
  · intro h
    have h2 := congrArg (List.map UInt8.toNat) h
    rw [List.map_map, List.map_map] at h2
    have e : ∀ l : List Nat, (∀ x ∈ l, x < 256) → l.map (UInt8.toNat ∘ UInt8.ofNat) = l := fun l hl => by
      conv => rhs; rw [← List.map_id l]
      apply List.map_congr_left
      intro x hx
      simp [Nat.mod_eq_of_lt (hl x hx)]
    rwa [e l hl, e r hr] at h2
  · intro h; rw [h]
theorem str_toList (l : List Nat) : (str l).toList = l.map UInt8.ofNat := by
  rw [ByteArray.toList_eq]; rfl
/-- Two texts are equal just if their bytes are. -/
theorem str_beq (l r : List Nat) (hl : ∀ x ∈ l, x < 256) (hr : ∀ x ∈ r, x < 256) : ((str l).toList == (str r).toList) = (l == r) := by
  rw [str_toList, str_toList, map_u8_inj l r hl hr]
theorem getD_lt {l : List Nat} {n : Nat} (hn : 0 < n) (h : ∀ x ∈ l, x < n) (i : Nat) : l.getD i 0 < n := by
  by_cases hi : i < l.length
  · simp only [List.getD_eq_getElem?_getD, List.getElem?_eq_getElem hi, Option.getD_some]; exact h _ (List.getElem_mem hi)
  · simp only [List.getD_eq_getElem?_getD, List.getElem?_eq_none (Nat.le_of_not_lt hi), Option.getD_none]; exact hn
/-- A slice of one text, of two. -/
theorem strs_one (w : World) (x : List Nat) (t : TypeId) : Strs (w.alloc (.cells #[.string (str x)] t)) (some ⟨w.heap.size, 0, none⟩) [x] := by
  intro i hi
  obtain rfl : i = 0 := by simpa using hi
  exact ⟨_, _, rfl, cell_of_row _ _ _ _ _ _ (heap_alloc_new _ _)⟩
theorem strs_two (w : World) (x y : List Nat) (t : TypeId) : Strs (w.alloc (.cells #[.string (str x), .string (str y)] t)) (some ⟨w.heap.size, 0, none⟩) [x, y] := by
  intro i hi
  obtain rfl | rfl : i = 0 ∨ i = 1 := by simp at hi; omega
  · exact ⟨_, _, rfl, cell_of_row _ _ _ _ _ _ (heap_alloc_new _ _)⟩
  · exact ⟨_, _, rfl, cell_of_row _ _ _ _ _ _ (heap_alloc_new _ _)⟩
theorem str_append (l r : List Nat) : str l ++ str r = str (l ++ r) := by
  unfold str
  apply ByteArray.ext
  simp
theorem str_get (l : List Nat) (h : ∀ x ∈ l, x < 256) (i : Nat) (hi : i < (str l).size) : (str l)[i].toNat = l.getD i 0 := by
  have hl : i < l.length := by rwa [str_size] at hi
  have e : (str l)[i] = UInt8.ofNat l[i] := by
    show (str l).data[i] = _
    simp [str]
  rw [e, List.getD_eq_getElem?_getD, List.getElem?_eq_getElem hl, Option.getD_some]
  simp [Nat.mod_eq_of_lt (h _ (List.getElem_mem hl))]
theorem own : ownKnob Try.prog.godebug = none := by kernel_rfl
theorem laidOut : laidOutB Try.prog = true := by kernel_rfl
/-- Below the heap's old size nothing has turned: all arguments read as they did. -/
theorem trodAll_below {H : Type} {enc : TypeId × Value → H} {W W' : World} (hb : Below W.heap.size W W') :
    ∀ (ts : List TypeId) (vs : List Value) (ds : List (DataW H)) (ps : List MemPlace), (∀ t ∈ ts, Try.prog.readableRec t = true ∧ t < Try.prog.types.size) →
      DataW.TrodAll enc Try.prog W 0 (fun _ => true) true ts vs ds ps → (∀ x ∈ ps, x.block < W.heap.size) → DataW.TrodAll enc Try.prog W' 0 (fun b => decide (b < W.heap.size)) true ts vs ds ps
  | [], [], [], _, _, h, _ => h
  | [], _ :: _, _, _, _, h, _ => h.elim
  | [], [], _ :: _, _, _, h, _ => h.elim
  | _ :: _, [], _, _, _, h, _ => h.elim
  | _ :: _, _ :: _, [], _, _, h, _ => h.elim
  | t :: ts, v :: vs, d :: ds, ps, hr, ⟨p, q, h, hs, he⟩, hlt => by
    subst he
    refine ⟨p, q, ?_, ?_, rfl⟩
    · exact Below.trod laidOut (hr t (by simp)).1 (hr t (by simp)).2 h hb (fun x hx => hlt x (by simp [hx]))
    · exact trodAll_below hb ts vs ds q (fun u hu => hr u (by simp [hu])) hs (fun x hx => hlt x (by simp [hx]))
/-- The post of a law: it returned true, and nothing that was there has turned. -/
theorem law_post {H : Type} {enc : TypeId × Value → H} {s : ChangeSpec} {f : Func} {W W' : World} {args : Array Value} {ds gs : List (DataW H)} {before : List MemPlace}
    (hvs : s.vars = []) (hty : f.resultTypes = #[4]) (hr : ∀ t ∈ f.params.toList, Try.prog.readableRec t = true ∧ t < Try.prog.types.size)
    (hW : DataW.Whole enc Try.prog f.params.toList s.vars false W args.toList ds gs before)
    (hfn : s.fn H ds = { results := [.lit (.bool true)], args := ds }) (hb : Below W.heap.size W W') :
    s.post enc Try.prog f false true false false W args (.bool true) W' := by
  have hW' := hW
  obtain ⟨p, q, hA, hV, rfl, hfz, hnd⟩ := hW
  rw [hvs] at hV
  obtain ⟨rfl, rfl⟩ := trodVars_none hV
  simp only [List.append_nil] at hW' hfz hnd
  have hfn' : s.fn H (ds ++ []) = { results := [.lit (.bool true)], args := ds } := by rw [List.append_nil]; exact hfn
  refine ⟨ds, [], p, [], p, [], hW', ?_, ?_, ?_, hb.frame _, fun h => by cases h⟩
  · rw [hfn', hty]
    exact trodAll_cons_mk (shut_bool Try.underlying4 _) trodAll_mk0
  · rw [hfn']
    exact trodAll_below hb _ _ _ _ hr hA (fun x hx => hW'.lt x hx)
  · rw [hfn', hvs]
    exact rfl
/-- An array of numbers, opened. -/
theorem open_arr {H : Type} {enc : TypeId × Value → H} {W : World} {base : Nat} {sp : Nat → Bool} {held : Bool} {r : Reach} {b0 : Nat} {t e : TypeId} {n : Nat} {k : IntKind} {v : Value} {d : DataW H} {p : List MemPlace}
    (hu : Try.prog.underlying t = some (.array n e)) (he : Try.prog.underlying e = some (.int k)) (hce : Try.prog.cellsOf e = 1) (hct : Try.prog.cellsOf t = n)
    (hv : Value.okWide Try.prog W r b0 t v) (h : DataW.Trod enc Try.prog W base sp held t v d p) :
    ∃ zs : List Int, v = .agg (zs.map (Value.int k)).toArray ∧ zs.length = n ∧ ∀ z ∈ zs, (Lit.int k z).wf = true := by
  unfold Value.okWide at hv
  rw [hu] at hv
  obtain ⟨cs, rfl, hsz, _⟩ := hv
  obtain ⟨fuel, hf⟩ := h
  obtain ⟨xs, m, _, _, hcl, hxl, hx⟩ := DataW.trod_array hu hf
  have hcs : cs.toList.length = n := by rw [Array.length_toList, hsz, hct]
  have hall : ∀ i (hi : i < n), ∃ z, cs.toList[i]? = some (.int k z) ∧ (Lit.int k z).wf = true := by
    intro i hi
    have h1 := hx i hi
    rw [hce, Nat.mul_one, List.getElem?_eq_getElem (by omega)] at h1
    obtain ⟨z, hc, _, hw⟩ := DataW.trod_int he h1
    refine ⟨z, ?_, hw⟩
    have := congrArg (·[0]?) hc
    simpa [List.getElem?_take, List.getElem?_drop, Value.cells] using this
  refine ⟨cs.toList.map (fun v => intOf v), ?_, by rw [List.length_map]; exact hcs, ?_⟩
  · refine congrArg Value.agg ?_
    apply Array.toList_inj.1
    apply List.ext_getElem?
    intro i
    by_cases hi : i < n
    · obtain ⟨z, hz, _⟩ := hall i hi
      simp only [List.getElem?_map, hz, Option.map_some, intOf]
    · rw [List.getElem?_eq_none (by omega), List.getElem?_eq_none (by simp; omega)]
  · intro z hz
    simp only [List.mem_map] at hz
    obtain ⟨v, hv, rfl⟩ := hz
    obtain ⟨i, hi, rfl⟩ := List.mem_iff_getElem.1 hv
    obtain ⟨z, hz, hw⟩ := hall i (by omega)
    rw [List.getElem?_eq_getElem hi] at hz
    rw [Option.some.inj hz]
    exact hw
theorem ints_of {zs : List Int} {k : IntKind} (h : ∀ z ∈ zs, 0 ≤ z) : (zs.map (Value.int k)).toArray = ints k (zs.map Int.toNat) := by
  unfold ints
  congr 1
  rw [List.map_map]
  apply List.map_congr_left
  intro z hz
  simp [Int.toNat_of_nonneg (h z hz)]
theorem getD_cast (l : List Nat) (i : Nat) : (l.map fun n : Nat => (n : Int)).getD i 0 = ((l.getD i 0 : Nat) : Int) := by
  simp only [List.getD_eq_getElem?_getD, List.getElem?_map]
  cases l[i]? <;> rfl
def relaid (cs : Array Value) : Obj → Obj
  | .cells _ t frozen => .cells cs t frozen
  | o => o
/-- A slice's cells are these texts (as texts). -/
def StrsB (w : World) (ao : Option Addr) (L : List ByteArray) : Prop :=
  ∀ i, i < L.length → ∃ sb so, ao = some ⟨sb, so, none⟩ ∧ w.cell? ⟨sb, so + i, none⟩ = some (.string (L.getD i ByteArray.empty))
theorem StrsB.below {w w' : World} {ao : Option Addr} {L : List ByteArray} (h : StrsB w ao L) (hb : Below w.heap.size w w') : StrsB w' ao L := by
  intro i hi
  obtain ⟨sb, so, ha, hc⟩ := h i hi
  exact ⟨sb, so, ha, by rw [hb.cell (block_lt_of_cell hc)]; exact hc⟩
theorem open_strs {H : Type} {enc : TypeId × Value → H} {W : World} {r : Reach} {b0 : Nat} {v : Value} {d : DataW H} {p : List MemPlace}
    (hv : Value.okWide Try.prog W r b0 38 v) (h : DataW.Trod enc Try.prog W 0 (fun _ => true) true 38 v d p) :
    ∃ (ao : Option Addr) (L : List ByteArray) (cap : Nat), v = .slice ao L.length cap ∧ StrsB W ao L ∧ L.length ≤ maxLen ∧ ∀ s ∈ L, s.size ≤ maxLen := by
  obtain ⟨a0, len, cap, rfl⟩ := okWide_slice Try.underlying38 hv
  obtain ⟨fuel, hf⟩ := h
  rcases open_strings Try.underlying38 Try.underlying9 (by kernel_rfl) hf with ⟨hcs, _⟩ | ⟨a, len', cap', ss, hcs, _, hl, hm, hz, _, hcell, hws⟩
  · simp only [Value.cells, List.cons.injEq, Value.slice.injEq, and_true] at hcs
    obtain ⟨rfl, rfl, rfl⟩ := hcs
    exact ⟨none, [], 0, rfl, fun i hi => absurd hi (by simp), by simp, fun s hs => absurd hs (by simp)⟩
  · simp only [Value.cells, List.cons.injEq, Value.slice.injEq, and_true] at hcs
    obtain ⟨rfl, rfl, rfl⟩ := hcs
    simp only [if_true] at hz
    have htl : (ss.take len).length = len := by simp; omega
    refine ⟨some a, ss.take len, cap, by rw [htl], ?_, by omega, fun s hs => hws s (List.mem_of_mem_take hs)⟩
    intro i hi
    rw [htl] at hi
    have h1 := hcell i (by omega)
    have h00 := hcell 0 (by omega)
    obtain ⟨b, off, spot⟩ := a
    have hspot : spot = none := by simpa [Addr.add] using World.cell?_spot h00
    subst hspot
    refine ⟨b, off, rfl, ?_⟩
    rw [Addr.add_mid] at h1
    rw [h1]
    simp [hi]
theorem extract_take (s : ByteArray) (n : Nat) : s.extract 0 n = str ((nums s).take n) := by
  rw [← str_nums (s.extract 0 n)]
  congr 1
  unfold nums
  rw [← List.map_take]
  congr 1
  simp [ByteArray.data_extract]
set_option maxRecDepth 100000 in
/-- Cut: the first n bytes. -/
theorem cut_any (s : ByteArray) (n : Nat) (w : World) (_hs : s.size ≤ maxLen) (hn : n ≤ 1000000) :
    Calls Try.prog 14 #[.string s, .int .i64 (n : Int)] w fun e w' => e = .returned (.string (str ((nums s).take n))) ∧ w = w' := by
  unfold maxLen at _hs
  by_cases h : n < s.size
  · have he := extract_take s n
    have h1 : (n : Int) < (s.size : Int) := by omega
    go_enter Try.func14, Try.ntmps14
    go_wp2
    go_ret
    exact ⟨by rfl, rfl⟩
  · have he : str ((nums s).take n) = s := by rw [List.take_of_length_le (by rw [nums_length]; omega), str_nums]
    have h1 : ¬ (n : Int) < (s.size : Int) := by omega
    rw [he]
    clear he
    go_enter Try.func14, Try.ntmps14
    go_wp2
    go_ret
    exact ⟨by rfl, rfl⟩
theorem cut_lt' (s : ByteArray) (n : Nat) : ∀ x ∈ (nums s).take n, x < 256 := fun x hx => nums_lt s x (List.mem_of_mem_take hx)
theorem cut_le' (s : ByteArray) (n : Nat) : ((nums s).take n).length ≤ n := by simp; omega
theorem info9 : (Try.prog.info? 9).map (fun i => (i.zero, i.size, i.bytes)) = some (some (.string ByteArray.empty), 1, 16) := by kernel_rfl
/-- The slice v of the call's own holds these texts. -/
def OwnS (w : World) (base : Nat) (v : Value) (L : List (List Nat)) : Prop := w.ownsRow base 9 1 v L.length (L.map fun l => Value.string (str l))
theorem OwnS.nil (w : World) (base : Nat) : OwnS w base (.slice none 0 0) [] := World.ownsRow_nil _ _ _ _
theorem OwnS.below {w w' : World} {base : Nat} {v : Value} {L : List (List Nat)} (h : OwnS w base v L) (hb : Below w.heap.size w w') : OwnS w' base v L := by
  obtain ⟨h1, h2⟩ := h
  refine ⟨h1, ?_⟩
  rcases h2 with h2 | ⟨g, cap, cur, hv, hg, hh, r⟩
  · exact Or.inl h2
  · exact Or.inr ⟨g, cap, cur, hv, hg, by rw [hb.block g (Array.getElem?_eq_some_iff.1 hh).1]; exact hh, r⟩
theorem OwnS.strs {w : World} {base : Nat} {v : Value} {L : List (List Nat)} (h : OwnS w base v L) : ∃ ao cap, v = .slice ao L.length cap ∧ Strs w ao L := by
  obtain ⟨h1, ⟨hv, h0⟩ | ⟨g, cap, cur, hv, hg, hh, hn, _, hs, hc⟩⟩ := h
  · have hl : L = [] := List.eq_nil_of_length_eq_zero h0
    subst hl
    exact ⟨none, 0, hv, fun i hi => absurd hi (by simp)⟩
  · refine ⟨_, cap, hv, fun i hi => ⟨g, 0, rfl, ?_⟩⟩
    rw [Nat.zero_add, cell_of_row w g i cur _ _ hh]
    have h2 : cur[i]? = (cur.toList.take (L.length * 1))[i]? := by
      rw [List.getElem?_take, if_pos (by omega), Array.getElem?_toList]
    rw [h2, hc]
    simp [hi]
theorem wpList_appS {w : World} {ops : Array Oper} {rest : List Oper} {o : Oper} {a : Act} {Q : Exit → Act → World → Prop} (hgd : o.guard = none) (s x : Operand)
    (ho : o.op = .call { callee := .builtin .append, args := #[s, x], argTypes := #[38, 38] })
    (base : Nat) (v : Value) (L : List (List Nat)) (hs : a.eval s = v) (hown : OwnS w base v L)
    (ad : Addr) (l : List Nat) (hx : a.eval x = .slice (some ad) 1 1) (hnews : w.cell? (ad.add 0) = some (.string (str l)))
    (hlen : L.length ≤ 1000000000) (hbase : base ≤ w.heap.size)
    (h : ∀ v' w', OwnS w' base v' (L ++ [l]) → Below base w w' → wpList Try.prog ops Q rest (a.put o.dst v') w') : wpList Try.prog ops Q (o :: rest) a w := by
  obtain ⟨i, hi, hz0, hz1, hz2⟩ := info_parts info9
  refine wpList_append_own w hgd s x 38 ho base 9 i (.string ByteArray.empty) 1 16 Try.underlying38 hi hz0 hz1 hz2 rfl (by decide) v L.length _ hs hown ad 1 1 [.string (str l)] hx rfl ?_ ?_ (by unfold maxLen; omega) (by omega) hbase ?_
  · intro j u hj
    have hlt : j < 1 := (List.getElem?_eq_some_iff.1 hj).1
    obtain rfl : j = 0 := by omega
    rw [hnews]; exact hj
  · intro u hu
    simp only [List.mem_singleton] at hu
    subst hu
    rfl
  · intro v' w' h2 h3 _
    refine h v' w' ?_ ((Below.refl base w).grown h3 hbase ?_)
    · unfold OwnS
      rw [List.length_append, List.map_append]
      exact h2
    · intro k hk
      obtain ⟨_, h2' | ⟨g, cap, cur, hv, hg, _⟩⟩ := hown
      · rw [h2'.1] at hk; cases hk
      · rw [hv] at hk; simp only [Value.ownBlock, Option.some.injEq] at hk; omega
/-- Few's texts. -/
def few (L : List ByteArray) (n most : Nat) : List (List Nat) := (L.take n).map fun s => (nums s).take most
theorem few_succ (L : List ByteArray) (k most : Nat) (h : k < L.length) : few L k most ++ [(nums (L.getD k ByteArray.empty)).take most] = few L (k + 1) most := by
  unfold few
  rw [List.take_succ_eq_append_getElem h, List.map_append, List.getD_eq_getElem?_getD, List.getElem?_eq_getElem h]
  rfl
theorem few_length (L : List ByteArray) (n most : Nat) : (few L n most).length = min n L.length := by simp [few]
theorem few_lt (L : List ByteArray) (n most : Nat) : ∀ x ∈ (few L n most).flatten, x < 256 := by
  intro x hx
  rw [List.mem_flatten] at hx
  obtain ⟨l, hl, hx⟩ := hx
  simp only [few, List.mem_map] at hl
  obtain ⟨s, _, rfl⟩ := hl
  exact nums_lt s x (List.mem_of_mem_take hx)
theorem flatten_le (L : List (List Nat)) (m : Nat) (h : ∀ l ∈ L, l.length ≤ m) : L.flatten.length ≤ L.length * m := by
  induction L with
  | nil => simp
  | cons l L ih =>
    have h1 := h l (by simp)
    have h2 := ih (fun x hx => h x (by simp [hx]))
    simp only [List.flatten_cons, List.length_append, List.length_cons, Nat.add_mul]
    omega
theorem few_flatten_le (L : List ByteArray) (n most : Nat) : (few L n most).flatten.length ≤ n * most := by
  have h := flatten_le (few L n most) most (fun l hl => by
    simp only [few, List.mem_map] at hl
    obtain ⟨s, _, rfl⟩ := hl
    simp; omega)
  rw [few_length] at h
  exact Nat.le_trans h (Nat.mul_le_mul_right _ (by omega))
theorem info3 : (Try.prog.info? 3).map (fun i => (i.zero, i.size, i.bytes)) = some (some (.int .i64 0), 1, 8) := by kernel_rfl
/-- The slice v of the call's own holds the numbers l. -/
def OwnI (w : World) (base : Nat) (v : Value) (l : List Nat) : Prop := w.ownsRow base 3 1 v l.length (ints .i64 l).toList
theorem OwnI.below {w w' : World} {base : Nat} {v : Value} {l : List Nat} (h : OwnI w base v l) (hb : Below w.heap.size w w') : OwnI w' base v l := by
  obtain ⟨h1, h2⟩ := h
  refine ⟨h1, ?_⟩
  rcases h2 with h2 | ⟨g, cap, cur, hv, hg, hh, r⟩
  · exact Or.inl h2
  · exact Or.inr ⟨g, cap, cur, hv, hg, by rw [hb.block g (Array.getElem?_eq_some_iff.1 hh).1]; exact hh, r⟩
theorem OwnI.opened {w : World} {base : Nat} {v : Value} {l : List Nat} (h : OwnI w base v l) (hl : 0 < l.length) :
    ∃ g cap, v = .slice (some ⟨g, 0, none⟩) l.length cap ∧ ∀ i, i < l.length → w.cell? ⟨g, i, none⟩ = some (.int .i64 (l.getD i 0 : Nat)) := by
  obtain ⟨h1, ⟨hv, h0⟩ | ⟨g, cap, cur, hv, hg, hh, hn, _, hs, hc⟩⟩ := h
  · omega
  · refine ⟨g, cap, hv, fun i hi => ?_⟩
    rw [cell_of_row w g i cur _ _ hh]
    have h2 : cur[i]? = (cur.toList.take (l.length * 1))[i]? := by
      rw [List.getElem?_take, if_pos (by omega), Array.getElem?_toList]
    rw [h2, hc, Array.getElem?_toList, ints_get _ _ _ hi]
/-- append(s, x...), s the call's own, x some numbers in memory. -/
theorem wpList_appI {w : World} {ops : Array Oper} {rest : List Oper} {o : Oper} {a : Act} {Q : Exit → Act → World → Prop} (hgd : o.guard = none) (s x : Operand)
    (ho : o.op = .call { callee := .builtin .append, args := #[s, x], argTypes := #[82, 82] })
    (base : Nat) (v : Value) (l : List Nat) (hs : a.eval s = v) (hown : OwnI w base v l)
    (ad : Addr) (m c : Nat) (news : List Nat) (hx : a.eval x = .slice (some ad) m c) (hm : news.length = m) (hnews : ∀ j, j < m → w.cell? (ad.add j) = some (.int .i64 (news.getD j 0 : Nat)))
    (hlen : l.length + m ≤ 1000000000000) (hbase : base ≤ w.heap.size)
    (h : ∀ v' w', OwnI w' base v' (l ++ news) → Below base w w' → wpList Try.prog ops Q rest (a.put o.dst v') w') : wpList Try.prog ops Q (o :: rest) a w := by
  obtain ⟨i, hi, hz0, hz1, hz2⟩ := info_parts info3
  refine wpList_append_own w hgd s x 82 ho base 3 i (.int .i64 0) 1 8 Try.underlying82 hi hz0 hz1 hz2 rfl (by decide) v l.length _ hs hown ad m c (ints .i64 news).toList hx (by rw [ints_llen]; omega) ?_ ?_ (by unfold maxLen; omega) (by omega) hbase ?_
  · intro j u hj
    have hlt : j < news.length := by have := (List.getElem?_eq_some_iff.1 hj).1; rwa [ints_llen] at this
    rw [hnews j (by omega)]
    rw [Array.getElem?_toList, ints_get _ _ _ hlt] at hj
    exact hj
  · intro u hu
    simp only [ints, List.mem_map] at hu
    obtain ⟨y, _, rfl⟩ := hu
    rfl
  · intro v' w' h2 h3 _
    refine h v' w' ?_ ((Below.refl base w).grown h3 hbase ?_)
    · unfold OwnI
      rw [List.length_append, hm]
      have e : (ints .i64 (l ++ news)).toList = (ints .i64 l).toList ++ (ints .i64 news).toList := by simp [ints]
      rw [e]; exact h2
    · intro k hk
      obtain ⟨_, h2' | ⟨g, cap, cur, hv, hg, _⟩⟩ := hown
      · rw [h2'.1] at hk; cases hk
      · rw [hv] at hk; simp only [Value.ownBlock, Option.some.injEq] at hk; omega
theorem one_str (wx : World) (v : Nat) : (convert 83 9 (.slice (some ⟨wx.heap.size, 0, none⟩) 1 1)).run Try.prog (wx.alloc (.cells #[.int .u8 (v : Int)] 5)) = .ok (.string (str [v])) (wx.alloc (.cells #[.int .u8 (v : Int)] 5)) :=
  run_str (wx.alloc (.cells #[.int .u8 (v : Int)] 5)) wx.heap.size 0 1 1 5 [v] (heap_alloc_new _ _) (by simp)
theorem extract_mid (T : List Nat) (_hT : ∀ x ∈ T, x < 256) (a b : Nat) : (str T).extract a (a + b) = str ((T.drop a).take b) := by
  apply ByteArray.ext
  apply Array.toList_inj.1
  simp [str, ByteArray.data_extract, List.map_take, List.map_drop]
theorem str_index (l : List Nat) (h : ∀ x ∈ l, x < 256) (i : Nat) (hi : i < l.length) (wx : World) :
    (Instr.index 9 (.string (str l)) (.int .i64 (i : Int))).run Try.prog wx = .ok (.int .u8 (l.getD i 0 : Nat)) wx := by
  have hs : i < (str l).size := by rw [str_size]; exact hi
  have hg := str_get l h i hs
  simp [Instr.index, asIntOf, Sem.run_bind, run_underlying Try.underlying9, hs, hg]
theorem cells_oneI (w : World) (x : Nat) (t : TypeId) : ∀ j, j < 1 → (w.alloc (.cells #[.int .i64 (x : Int)] t)).cell? ((⟨w.heap.size, 0, none⟩ : Addr).add j) = some (.int .i64 ([x].getD j 0 : Nat)) := by
  intro j hj
  rw [Addr.add_mid, Nat.zero_add, cell_of_row _ _ _ _ _ _ (heap_alloc_new _ _)]
  obtain rfl : j = 0 := by omega
  rfl
theorem wraps_i64 (n : Int) (h0 : 0 ≤ n) (h1 : n < 2 ^ 40) : IntKind.i64.wrap n = n := by rw [IntKind.wrap_i64]; omega
theorem xor64 (a b : Nat) (ha : a < Sx.M) (hb : b < Sx.M) : bits .xor .i64 (a : Int) (b : Int) = ((a ^^^ b : Nat) : Int) :=
  bits_xor_nat .i64 40 (by decide) wraps_i64 a b (by unfold Sx.M at ha; omega) (by unfold Sx.M at hb; omega)
theorem and64 (a b : Nat) (ha : a < Sx.M) (hb : b < Sx.M) : bits .and .i64 (a : Int) (b : Int) = ((a &&& b : Nat) : Int) :=
  (bits_nat .i64 40 (by decide) wraps_i64 a b (by unfold Sx.M at ha; omega) (by unfold Sx.M at hb; omega)).1
theorem sumI (a b : Nat) (ha : a < 2 ^ 40) (hb : b < 2 ^ 40) : wrap64 ((a : Int) + (b : Int)) = ((a + b : Nat) : Int) := by
  unfold wrap64; omega
theorem modI (x : Nat) : (x : Int) % 4294967296 = ((x % Sx.M : Nat) : Int) := by unfold Sx.M; omega
theorem tmodI (x : Nat) : (x : Int).tmod 4294967296 = ((x % Sx.M : Nat) : Int) := by rw [Int.tmod_eq_emod_of_nonneg (by omega), modI]
theorem wrap_u8_nat (x : Nat) (h : x < 256) : IntKind.u8.wrap (x : Int) = (x : Int) := by
  simp [IntKind.wrap, IntKind.bits, IntKind.signed]; omega
theorem cells_four (w : World) (x y z u : Nat) (t : TypeId) : ∀ j, j < 4 → (w.alloc (.cells #[.int .u8 (x : Int), .int .u8 (y : Int), .int .u8 (z : Int), .int .u8 (u : Int)] t)).cell? ((⟨w.heap.size, 0, none⟩ : Addr).add j) = some (.int .u8 ([x, y, z, u].getD j 0 : Nat)) := by
  intro j hj
  rw [Addr.add_mid, Nat.zero_add, cell_of_row _ _ _ _ _ _ (heap_alloc_new _ _)]
  obtain rfl | rfl | rfl | rfl : j = 0 ∨ j = 1 ∨ j = 2 ∨ j = 3 := by omega
  all_goals rfl
/-- arr[:] of an array of numbers in memory. -/
theorem slice_all (w : World) (t : TypeId) (e : TypeId) (n : Nat) (b : Nat) (hu : Try.prog.underlying t = some (.array n e)) (_hn : n ≠ 0) (hs : (Try.prog.info? e).map (·.size) = some 1) :
    (Instr.sliceAt t (.pointer (some ⟨b, 0, none⟩)) none none none).run Try.prog w = .ok (.slice (some ⟨b, 0, none⟩) n n) w := by
  obtain ⟨f, hf, _⟩ := Option.map_eq_some_iff.1 hs
  have h4 : (⟨b, 0, none⟩ : Addr).add 0 = ⟨b, 0, none⟩ := by rw [Addr.add_mid]
  simp [Instr.sliceAt, Instr.sureAddr, run_underlying hu, Instr.sliceBounds, sizeOf, typeInfo, hf, h4]
theorem xor8 (a b : Nat) (ha : a < 256) (hb : b < 256) : bits .xor .u8 (a : Int) (b : Int) = ((a ^^^ b : Nat) : Int) :=
  bits_xor_nat .u8 8 (by decide) wraps_u8 a b ha hb
theorem or8 (a b : Nat) (ha : a < 256) (hb : b < 256) : bits .or .u8 (a : Int) (b : Int) = ((a ||| b : Nat) : Int) :=
  (bits_nat .u8 8 (by decide) wraps_u8 a b ha hb).2
theorem strs_three (w : World) (x y z : List Nat) (t : TypeId) : Strs (w.alloc (.cells #[.string (str x), .string (str y), .string (str z)] t)) (some ⟨w.heap.size, 0, none⟩) [x, y, z] := by
  intro i hi
  obtain rfl | rfl | rfl : i = 0 ∨ i = 1 ∨ i = 2 := by simp at hi; omega
  all_goals exact ⟨_, _, rfl, cell_of_row _ _ _ _ _ _ (heap_alloc_new _ _)⟩
theorem strCells_str (l : List Nat) (h : ∀ x ∈ l, x < 256) : Lib.strCells (str l) = (ints .u8 l).toList := by
  unfold Lib.strCells str ints
  simp only [List.map_map]
  apply List.map_congr_left
  intro x hx
  simp [Nat.mod_eq_of_lt (h x hx)]
/-- append(s, text...), s the call's own. -/
theorem wpList_appT {w : World} {ops : Array Oper} {rest : List Oper} {o : Oper} {a : Act} {Q : Exit → Act → World → Prop} (hgd : o.guard = none) (s x : Operand)
    (ho : o.op = .call { callee := .builtin .append, args := #[s, x], argTypes := #[83, 9] })
    (base : Nat) (v : Value) (l : List Nat) (hs : a.eval s = v) (hown : Own w base v l) (t : List Nat) (ht : ∀ y ∈ t, y < 256) (hx : a.eval x = .string (str t))
    (hlen : l.length + t.length ≤ 1000000000000) (hbase : base ≤ w.heap.size)
    (h : ∀ v' w', Own w' base v' (l ++ t) → Below base w w' → wpList Try.prog ops Q rest (a.put o.dst v') w') : wpList Try.prog ops Q (o :: rest) a w := by
  obtain ⟨i, hi, hz0, hz1, hz2⟩ := info_parts info5
  refine Lib.wpList_append_own_string w hgd s x 83 9 ho base 5 i Try.underlying83 Try.underlying9 hi hz0 hz1 hz2 v l.length _ hs hown (str t) hx (by rw [str_size]; unfold maxLen; omega) (by rw [str_size]; omega) hbase ?_
  intro v' w' h2 h3 _
  refine h v' w' ?_ ((Below.refl base w).grown h3 hbase ?_)
  · unfold Own
    rw [List.length_append]
    have e : (ints .u8 (l ++ t)).toList = (ints .u8 l).toList ++ (ints .u8 t).toList := by simp [ints]
    rw [e, ← strCells_str t ht]
    rwa [str_size] at h2
  · intro k hk
    obtain ⟨_, h2' | ⟨g, cap, cur, hv, hg, _⟩⟩ := hown
    · rw [h2'.1] at hk; cases hk
    · rw [hv] at hk; simp only [Value.ownBlock, Option.some.injEq] at hk; omega
/-- len(s), s the call's own. -/
theorem own_len {w : World} {base : Nat} {v : Value} {l : List Nat} (h : Own w base v l) : ∀ wx : World, (Builtin.len_ #[83] 3 #[v]).run Try.prog wx = .ok (.int .i64 (l.length : Int)) wx := by
  obtain ⟨h1, ⟨hv, h0⟩ | ⟨g, cap, cur, hv, hg, hh, hn', hcm, hs, hc⟩⟩ := h
  · subst hv
    have hl : l = [] := List.eq_nil_of_length_eq_zero h0
    subst hl
    intro wx; kernel_rfl
  · subst hv
    intro wx
    simp [Builtin.len_, go_sem]
/-- s[:n] of bytes of the call's own, as a text. -/
theorem own_cut {w : World} {base : Nat} {v : Value} {l : List Nat} (h : Own w base v l) (n : Nat) (hn : n ≤ l.length) :
    ∃ v2, (Instr.sliceAt 83 v none (some (.int .i64 (n : Int))) none).run Try.prog w = .ok v2 w ∧ (convert 83 9 v2).run Try.prog w = .ok (.string (str (l.take n))) w := by
  obtain ⟨h1, ⟨hv, h0⟩ | ⟨g, cap, cur, hv, hg, hh, hn', hcm, hs, hc⟩⟩ := h
  · subst hv
    have hl : l = [] := List.eq_nil_of_length_eq_zero h0
    subst hl
    obtain rfl : n = 0 := by simpa using hn
    exact ⟨.slice none 0 0, by kernel_rfl, run_ownstr (Own.nil w base)⟩
  · subst hv
    refine ⟨.slice (some ⟨g, 0, none⟩) n cap, ?_, ?_⟩
    · have hle : (n : Int) ≤ (cap : Int) := by omega
      rw [run_sliceAt_slice w 83 _ _ _ _ (by kernel_rfl), run_slice_h w 83 _ _ _ (by kernel_rfl) .i64 (n : Int) (by omega) hle]
      have e1 : (sizeOf (Try.prog.elem 83)).run Try.prog w = .ok 1 w := by kernel_rfl
      rw [e1]
      simp [sliced, Result.andThen, Addr.add_mid]
    · have := run_ownstr (w := w) (base := base) (v := .slice (some ⟨g, 0, none⟩) n cap) (l := l.take n) ⟨by simp [ints], Or.inr ⟨g, cap, cur, by simp [Nat.min_eq_left hn], hg, hh, by simp; omega, hcm, hs, ?_⟩⟩
      · exact this
      · have e : (ints .u8 (l.take n)).toList = (ints .u8 l).toList.take n := by simp [ints, List.map_take]
        rw [e, ← hc, List.take_take, List.length_take, Nat.min_eq_left hn]
        congr 1
        omega
theorem take_getD_succ (l : List Nat) (k : Nat) (h : k < l.length) : l.take k ++ [l.getD k 0] = l.take (k + 1) := by
  rw [List.take_succ_eq_append_getElem h, List.getD_eq_getElem?_getD, List.getElem?_eq_getElem h]; rfl
theorem xor_lt256 (a b : Nat) (ha : a < 256) (hb : b < 256) : a ^^^ b < 256 := Nat.xor_lt_two_pow (n := 8) ha hb

theorem xor64' (a b : Nat) (ha : a < 256) (hb : b < 256) : bits .xor .i64 (a : Int) (b : Int) = ((a ^^^ b : Nat) : Int) :=
  xor64 a b (by unfold Sx.M; omega) (by unfold Sx.M; omega)
/-- n & m for a number m that isn't negative. -/
theorem and_le (n : Int) (m : Nat) (hm : m < 2 ^ 63) : ∃ j : Nat, j ≤ m ∧ bits .and .i64 n (m : Int) = (j : Int) := by
  refine ⟨(BitVec.ofInt 64 n &&& BitVec.ofInt 64 (m : Int)).toNat, ?_, ?_⟩
  · rw [BitVec.toNat_and]
    refine Nat.le_trans Nat.and_le_right ?_
    rw [BitVec.ofInt_natCast, BitVec.toNat_ofNat]
    exact Nat.mod_le _ _
  · have h : (BitVec.ofInt 64 n &&& BitVec.ofInt 64 (m : Int)).toNat ≤ m := by
      rw [BitVec.toNat_and]
      refine Nat.le_trans Nat.and_le_right ?_
      rw [BitVec.ofInt_natCast, BitVec.toNat_ofNat]
      exact Nat.mod_le _ _
    show IntKind.i64.wrap ((BitVec.ofInt 64 n &&& BitVec.ofInt 64 (m : Int)).toNat : Int) = _
    generalize (BitVec.ofInt 64 n &&& BitVec.ofInt 64 (m : Int)).toNat = j at *
    rw [IntKind.wrap_i64]
    omega
theorem made_ints (n : Nat) : madeCells #[.int .u8 0] n = ints .u8 (List.replicate n 0) := by
  apply Array.ext_getElem?
  intro i
  by_cases h : i < n
  · simp [madeCells, ints, h, Nat.mod_one]
  · rw [Array.getElem?_eq_none (by rw [size_madeCells]; omega), Array.getElem?_eq_none (by rw [ints_size]; simp; omega)]
theorem run_made (n : Nat) (h : n ≤ 1000000) (w : World) : (Instr.makeSlice 83 (.int .i64 (n : Int)) (.int .i64 (n : Int))).run Try.prog w = .ok (.slice (some ⟨w.heap.size, 0, none⟩) n n) (w.alloc (.cells (ints .u8 (List.replicate n 0)) 5)) := by
  rw [← made_ints]
  exact run_make_row' 83 5 (.int .u8 0) 1 Try.underlying83 info5 rfl .i64 .i64 n (by omega) (by omega) w
/-- A slice's cells are these numbers. -/
def IntsB (w : World) (ao : Option Addr) (L : List Int) : Prop :=
  ∀ i, i < L.length → ∃ sb so, ao = some ⟨sb, so, none⟩ ∧ w.cell? ⟨sb, so + i, none⟩ = some (.int .i64 (L.getD i 0))
theorem IntsB.below {w w' : World} {ao : Option Addr} {L : List Int} (h : IntsB w ao L) (hb : Below w.heap.size w w') : IntsB w' ao L := by
  intro i hi
  obtain ⟨sb, so, ha, hc⟩ := h i hi
  exact ⟨sb, so, ha, by rw [hb.cell (block_lt_of_cell hc)]; exact hc⟩
theorem open_is {H : Type} {enc : TypeId × Value → H} {W : World} {r : Reach} {b0 : Nat} {v : Value} {d : DataW H} {p : List MemPlace}
    (hv : Value.okWide Try.prog W r b0 82 v) (h : DataW.Trod enc Try.prog W 0 (fun _ => true) true 82 v d p) :
    ∃ (ao : Option Addr) (L : List Int) (cap : Nat), v = .slice ao L.length cap ∧ IntsB W ao L ∧ L.length ≤ maxLen := by
  obtain ⟨a0, len, cap, rfl⟩ := okWide_slice Try.underlying82 hv
  obtain ⟨fuel, hf⟩ := h
  rcases open_ints Try.underlying82 Try.underlying3 (by kernel_rfl) hf with ⟨hcs, _⟩ | ⟨a, len', cap', ss, hcs, _, hl, hm, hz, _, hcell, _⟩
  · simp only [Value.cells, List.cons.injEq, Value.slice.injEq, and_true] at hcs
    obtain ⟨rfl, rfl, rfl⟩ := hcs
    exact ⟨none, [], 0, rfl, fun i hi => absurd hi (by simp), by simp⟩
  · simp only [Value.cells, List.cons.injEq, Value.slice.injEq, and_true] at hcs
    obtain ⟨rfl, rfl, rfl⟩ := hcs
    simp only [if_true] at hz
    have htl : (ss.take len).length = len := by simp; omega
    refine ⟨some a, ss.take len, cap, by rw [htl], ?_, by omega⟩
    intro i hi
    rw [htl] at hi
    have h1 := hcell i (by omega)
    have h00 := hcell 0 (by omega)
    obtain ⟨b, off, spot⟩ := a
    have hspot : spot = none := by simpa [Addr.add] using World.cell?_spot h00
    subst hspot
    refine ⟨b, off, rfl, ?_⟩
    rw [Addr.add_mid] at h1
    rw [h1]
    simp [hi]
end Go.Proofs.Ythmhbefbjbkabaa
