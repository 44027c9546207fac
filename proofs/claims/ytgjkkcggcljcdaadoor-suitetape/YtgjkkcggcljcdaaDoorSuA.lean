/-
  Su0, Su1, Su2, Su3 in one text.
-/
import Derived.Test.YtgjkkcggcljcdaaDoorMp
import Derived.Test.YtgjkkcggcljcdaaDoorRg2
import Derived.Lib.MinMax
import Derived.Great.BuildSlice
import Derived.Laws.ResultCell
/-
  Layer 8: what an ideal suite is in memory: a tape, how much of it was taken, and three maps.
-/
namespace Go.Proofs.YtgjkkcggcljcdaaDoor
open Go.ChangeShapes Go.WideShapes Go.ChangeAt Go.RowKit
open Go.Maps (Keyed)
open Go.WideMaps (KeyLaw)
open Go.Lib (hid)

theorem su_laidOut : laidOutB Tryd.prog = true := by kernel_rfl
theorem law_At : Keyed Tryd.prog 33 := Keyed.of_law (deep_law_laid su_laidOut (m := 3) (by omega) (of_decide_eq_true (by kernel_rfl)) (by kernel_rfl) (by kernel_rfl))
theorem keyLits_int {P : Program} {d : Nat} {t : TypeId} {q : IntKind} {n : Int} (hu : P.underlying t = some (.int q)) (hw : (Lit.int q n).wf = true) : P.keyLits (d + 1) t [.int q n] = some [.int q n] := by simp [Program.keyLits, hu, hw]
theorem keyLits_str {P : Program} {d : Nat} {t : TypeId} {s : ByteArray} (hu : P.underlying t = some .string) (hw : s.size ≤ maxLen) : P.keyLits (d + 1) t [.string s] = some [.string s.data.toList] := by simp [Program.keyLits, hu, hw]
theorem depth2 : ∃ d, Tryd.prog.types.size + 1 = d + 3 := ⟨Tryd.prog.types.size - 2, by have : 2 ≤ Tryd.prog.types.size := of_decide_eq_true (by kernel_rfl); omega⟩
def atV (p : Nat × Nat) : Value := .agg #[.int .i64 (p.1 : Int), .int .i64 (p.2 : Int)]
theorem wf_nat (n : Nat) (h : n < 9223372036854775808) : (Lit.int .i64 (n : Int)).wf = true := WalkArith.wf_i64 (by omega)
theorem cells_At : Tryd.prog.cellsOf 33 = 2 := by kernel_rfl
theorem cells_int : Tryd.prog.cellsOf 3 = 1 := by kernel_rfl
theorem keytype_At : Tryd.prog.keyType 33 = true := by kernel_rfl
theorem key_At (p : Nat × Nat) (h1 : p.1 < 9223372036854775808) (h2 : p.2 < 9223372036854775808) : ∃ l, keyOf Tryd.prog 33 (atV p) = some l := by
  obtain ⟨d, hd⟩ := depth2
  have w1 := keyLits_int (P := Tryd.prog) (d := d + 1) Tryd.underlying3 (wf_nat p.1 h1)
  have w2 := keyLits_int (P := Tryd.prog) (d := d + 1) Tryd.underlying3 (wf_nat p.2 h2)
  have hk : Tryd.prog.keyLits (d + 3) 33 [.int .i64 (p.1 : Int), .int .i64 (p.2 : Int)] = some [.int .i64 (p.1 : Int), .int .i64 (p.2 : Int)] := by
    simp [Program.keyLits, Tryd.underlying33, cells_At, cells_int, w1, w2] at w1 w2 ⊢
    simp [w1, w2]
  have hf : (atV p).formed Tryd.prog 33 = true := by
    simp [atV, Value.formed, Tryd.underlying33, cells_At]
  refine ⟨.string (keyBytes [.int .i64 (p.1 : Int), .int .i64 (p.2 : Int)]), ?_⟩
  unfold keyOf
  rw [Tryd.underlying33]
  simp only [keytype_At, hf, hd]
  simp [atV, Value.cells, hk]
theorem mapM_some {α β : Type} (g : α → Option β) (f : α → β) : ∀ L : List α, (∀ x ∈ L, g x = some (f x)) → L.mapM g = some (L.map f)
  | [], _ => rfl
  | x :: L, h => by simp [List.mapM_cons, h x (by simp), mapM_some g f L (fun y hy => h y (by simp [hy]))]
theorem law_Sum : Keyed Tryd.prog 37 := Keyed.of_law (deep_law_laid su_laidOut (m := 3) (by omega) (of_decide_eq_true (by kernel_rfl)) (by kernel_rfl) (by kernel_rfl))
theorem law_named : Keyed Tryd.prog 72 := Keyed.of_law (deep_law_laid su_laidOut (m := 3) (by omega) (of_decide_eq_true (by kernel_rfl)) (by kernel_rfl) (by kernel_rfl))
theorem cells_Sum : Tryd.prog.cellsOf 37 = 32 := by kernel_rfl
theorem cells_named : Tryd.prog.cellsOf 72 = 3 := by kernel_rfl
theorem cells_u8 : Tryd.prog.cellsOf 5 = 1 := by kernel_rfl
theorem cells_string : Tryd.prog.cellsOf 9 = 1 := by kernel_rfl
theorem keytype_Sum : Tryd.prog.keyType 37 = true := by kernel_rfl
theorem keytype_named : Tryd.prog.keyType 72 = true := by kernel_rfl
def sumV (l : List Nat) : Value := .agg (ints .u8 l)
def namedV (p : ByteArray × Nat × Nat) : Value := .agg #[.string p.1, .int .i64 (p.2.1 : Int), .int .i64 (p.2.2 : Int)]
theorem key_named (p : ByteArray × Nat × Nat) (h0 : p.1.size ≤ maxLen) (h1 : p.2.1 < 9223372036854775808) (h2 : p.2.2 < 9223372036854775808) : ∃ l, keyOf Tryd.prog 72 (namedV p) = some l := by
  obtain ⟨d, hd⟩ := depth2
  have w0 := keyLits_str (P := Tryd.prog) (d := d + 1) Tryd.underlying9 h0
  have w1 := keyLits_int (P := Tryd.prog) (d := d + 1) Tryd.underlying3 (wf_nat p.2.1 h1)
  have w2 := keyLits_int (P := Tryd.prog) (d := d + 1) Tryd.underlying3 (wf_nat p.2.2 h2)
  have hk : ∃ l, Tryd.prog.keyLits (d + 3) 72 [.string p.1, .int .i64 (p.2.1 : Int), .int .i64 (p.2.2 : Int)] = some l := by
    simp [Program.keyLits, Tryd.underlying72, cells_named, cells_int, cells_string, w0, w1, w2] at w0 w1 w2 ⊢
    simp [w0, w1, w2]
  obtain ⟨l, hk⟩ := hk
  have hf : (namedV p).formed Tryd.prog 72 = true := by
    simp [namedV, Value.formed, Tryd.underlying72, cells_named]
  refine ⟨.string (keyBytes l), ?_⟩
  unfold keyOf
  rw [Tryd.underlying72]
  simp only [keytype_named, hf, hd]
  simp [namedV, Value.cells, hk]
theorem key_Sum (l : List Nat) (h0 : l.length = 32) (h1 : ∀ x ∈ l, x < 256) : ∃ k, keyOf Tryd.prog 37 (sumV l) = some k := by
  obtain ⟨d, hd⟩ := depth2
  have hz : (ints .u8 l).toList.length = 32 := by simp [ints, h0]
  have hm : (List.range 32).mapM (fun i => Tryd.prog.keyLits (d + 2) 5 (((ints .u8 l).toList.drop (i * 1)).take 1)) = some ((List.range 32).map fun i => [Lit.int .u8 (l.getD i 0 : Nat)]) := by
    refine mapM_some _ _ _ fun i hi => ?_
    rw [List.mem_range] at hi
    have e : ((ints .u8 l).toList.drop (i * 1)).take 1 = [.int .u8 (l.getD i 0 : Nat)] := by
      rw [Nat.mul_one, List.drop_eq_getElem_cons (by omega)]
      simp [ints, h0, hi]
    rw [e]
    exact keyLits_int Tryd.underlying5 (by
      have : l.getD i 0 < 256 := getD_lt (by omega) h1 i
      generalize l.getD i 0 = x at *
      exact WalkArith.wf_u8 (by omega))
  have hk : ∃ k, Tryd.prog.keyLits (d + 3) 37 (ints .u8 l).toList = some k := by
    refine ⟨((List.range 32).map fun i => [Lit.int .u8 (l.getD i 0 : Nat)]).flatten, ?_⟩
    unfold Program.keyLits
    simp only [Tryd.underlying37, cells_Sum, cells_u8, hz, if_true, hm]
    rfl
  obtain ⟨k, hk⟩ := hk
  have hf : (sumV l).formed Tryd.prog 37 = true := by
    have := hz
    simp [sumV, Value.formed, Tryd.underlying37, cells_Sum] at this ⊢
    exact this
  refine ⟨.string (keyBytes k), ?_⟩
  unfold keyOf
  rw [Tryd.underlying37]
  simp only [keytype_Sum, hf, hd]
  simp [sumV, Value.cells, hk]
end Go.Proofs.YtgjkkcggcljcdaaDoor

/-
  Layer 8: an ideal suite: its fields in memory, and what is taken from the tape.
-/
namespace Go.Proofs.YtgjkkcggcljcdaaDoor
open Go.ChangeShapes Go.WideShapes Go.ChangeAt Go.RowKit
open Go.Maps (Keyed)
open Go.Lib (hid)

namespace Iv
/-- A number as it counts. -/
def lim (n : Int) : Nat := (max 0 (min n 1099511627776)).toNat
theorem lim_le (n : Int) : lim n ≤ 1099511627776 := by unfold lim; omega
theorem lim_nat (n : Int) : (lim n : Int) = max 0 (min n 1099511627776) := by unfold lim; omega
/-- n bytes of the tape. -/
def take (T : List Nat) (d n : Nat) : List Nat := (List.range n).map fun i => T.getD ((d + i) % T.length) 0
theorem take_length (T : List Nat) (d n : Nat) : (take T d n).length = n := by simp [take]
theorem take_lt (T : List Nat) (hT : ∀ x ∈ T, x < 256) (d n : Nat) : ∀ x ∈ take T d n, x < 256 := by
  intro x hx
  simp only [take, List.mem_map] at hx
  obtain ⟨i, _, rfl⟩ := hx
  exact getD_lt (by omega) hT _
theorem take_succ (T : List Nat) (d n : Nat) : take T d (n + 1) = take T d n ++ [T.getD ((d + n) % T.length) 0] := by
  simp [take, List.range_succ]
/-- An ideal suite. -/
structure V where
  T : List Nat
  d : Nat
  S : List ((Nat × Nat) × (ByteArray × ByteArray × ByteArray))
  L : List ((ByteArray × Nat × Nat) × List Nat)
  M : List (List Nat × ByteArray)
end Iv
def sealV (x : ByteArray × ByteArray × ByteArray) : Value := .agg #[.string x.1, .string x.2.1, .string x.2.2]
def madeV (t : ByteArray) : Value := .agg #[.string t]
theorem ints_inj {a b : List Nat} (h : ints .u8 a = ints .u8 b) : a = b := by
  have h1 := congrArg Array.toList h
  simp only [ints] at h1
  induction a generalizing b with
  | nil =>
    cases b with
    | nil => rfl
    | cons y b => simp at h1
  | cons x a ih =>
    cases b with
    | nil => simp at h1
    | cons y b =>
      simp only [List.map_cons, List.cons.injEq, Value.int.injEq, true_and] at h1
      have h2 : x = y := by omega
      rw [h2, ih (b := b) (by simpa [ints] using h1.2) h1.2]
def wayS : Mp.Way Tryd.prog 33 (Nat × Nat) (ByteArray × ByteArray × ByteArray) where
  kV := atV
  vV := sealV
  inj a b h := by
    simp only [atV, Value.agg.injEq, Array.mk.injEq, List.cons.injEq, Value.int.injEq, true_and, and_true] at h
    exact Prod.ext (by omega) (by omega)
  ok p := p.1 < 9223372036854775808 ∧ p.2 < 9223372036854775808
  key a h := key_At a h.1 h.2
def wayL : Mp.Way Tryd.prog 72 (ByteArray × Nat × Nat) (List Nat) where
  kV := namedV
  vV l := .agg (ints .u8 l)
  inj a b h := by
    simp only [namedV, Value.agg.injEq, Array.mk.injEq, List.cons.injEq, Value.int.injEq, Value.string.injEq, true_and, and_true] at h
    exact Prod.ext h.1 (Prod.ext (by omega) (by omega))
  ok p := p.1.size ≤ maxLen ∧ p.2.1 < 9223372036854775808 ∧ p.2.2 < 9223372036854775808
  key a h := key_named a h.1 h.2.1 h.2.2
def wayM : Mp.Way Tryd.prog 37 (List Nat) ByteArray where
  kV := sumV
  vV := madeV
  inj a b h := by
    simp only [sumV, Value.agg.injEq] at h
    exact ints_inj h
  ok l := l.length = 32 ∧ ∀ x ∈ l, x < 256
  key a h := key_Sum a h.1 h.2
/-- The fields of an ideal suite. -/
def suC (T : List Nat) (d b1 b2 b3 : Nat) : Array Value := #[.string (str T), .int .i64 (d : Int), .map (some b1), .map (some b2), .map (some b3), .pointer none]
/-- Block b is an ideal suite; its maps are blocks b1, b2, b3. -/
structure IsI (w : World) (b b1 b2 b3 : Nat) (v : Iv.V) : Prop where
  row : w.heap[b]? = some (.cells (suC v.T v.d b1 b2 b3) 57 (0, 0))
  m1 : MapM wayS w b1 v.S
  m2 : MapM wayL w b2 v.L
  m3 : MapM wayM w b3 v.M
  n12 : b1 ≠ b2
  n13 : b1 ≠ b3
  n23 : b2 ≠ b3
/-- The world but for some blocks, and for new ones. -/
structure KeptP (p : Nat → Prop) (w w' : World) : Prop where
  os : w'.os = w.os
  tape : w'.tape = w.tape
  output : w'.output = w.output
  size : w.heap.size ≤ w'.heap.size
  block : ∀ k, k < w.heap.size → ¬ p k → w'.heap[k]? = w.heap[k]?
theorem KeptP.refl (p : Nat → Prop) (w : World) : KeptP p w w := ⟨rfl, rfl, rfl, Nat.le_refl _, fun _ _ _ => rfl⟩
theorem KeptP.trans {p : Nat → Prop} {u v w : World} (h : KeptP p u v) (k : KeptP p v w) : KeptP p u w :=
  ⟨k.os.trans h.os, k.tape.trans h.tape, k.output.trans h.output, Nat.le_trans h.size k.size, fun i hi hb => (k.block i (Nat.lt_of_lt_of_le hi h.size) hb).trans (h.block i hi hb)⟩
theorem KeptP.mono {p q : Nat → Prop} {u v : World} (h : KeptP p u v) (hpq : ∀ k, p k → q k) : KeptP q u v := ⟨h.os, h.tape, h.output, h.size, fun i hi hb => h.block i hi (fun hp => hb (hpq i hp))⟩
theorem KeptP.of_below {p : Nat → Prop} {w w' : World} (h : Below w.heap.size w w') : KeptP p w w' := ⟨h.os, h.tape, h.output, h.size, fun k hk _ => h.block k hk⟩
theorem KeptP.of_keptB {p : Nat → Prop} {b : Nat} {w w' : World} (h : KeptB b w w') (hb : p b) : KeptP p w w' := ⟨h.os, h.tape, h.output, h.size, fun k hk hp => h.block k hk (fun e => hp (e ▸ hb))⟩
theorem KeptP.drew {p : Nat → Prop} {u w : World} (h : KeptP p u w) : KeptP p u w.drew := ⟨h.os, h.tape, h.output, h.size, h.block⟩
theorem KeptP.below {p : Nat → Prop} {w w' : World} {B : Nat} (h : KeptP p w w') (hp : ∀ k, p k → B ≤ k) (hB : B ≤ w.heap.size) : Below B w w' :=
  ⟨h.os, h.tape, h.output, h.size, fun k hk => h.block k (by omega) (fun hq => by have := hp k hq; omega)⟩
/-- The blocks of a suite. -/
def suB (b b1 b2 b3 : Nat) (k : Nat) : Prop := k = b ∨ k = b1 ∨ k = b2 ∨ k = b3
theorem IsI.kept {w w' : World} {b b1 b2 b3 : Nat} {v : Iv.V} {p : Nat → Prop} (h : IsI w b b1 b2 b3 v) (hk : KeptP p w w') (h0 : ¬ p b) (h1 : ¬ p b1) (h2 : ¬ p b2) (h3 : ¬ p b3) : IsI w' b b1 b2 b3 v :=
  ⟨(hk.block b (Array.getElem?_eq_some_iff.1 h.row).1 h0).trans h.row, h.m1.at (hk.block _ h.m1.lt h1), h.m2.at (hk.block _ h.m2.lt h2), h.m3.at (hk.block _ h.m3.lt h3), h.n12, h.n13, h.n23⟩
theorem IsI.below {w w' : World} {b b1 b2 b3 : Nat} {v : Iv.V} (h : IsI w b b1 b2 b3 v) (hk : Below w.heap.size w w') : IsI w' b b1 b2 b3 v :=
  h.kept (p := fun _ => False) (KeptP.of_below hk) id id id id
theorem IsI.ne {w : World} {b b1 b2 b3 : Nat} {v : Iv.V} (h : IsI w b b1 b2 b3 v) : b1 ≠ b ∧ b2 ≠ b ∧ b3 ≠ b := ⟨h.m1.ne_cells h.row, h.m2.ne_cells h.row, h.m3.ne_cells h.row⟩
theorem suC_cells {w : World} {b : Nat} {T : List Nat} {d b1 b2 b3 : Nat} {t : TypeId} {fr : Nat × Nat} (h : w.heap[b]? = some (.cells (suC T d b1 b2 b3) t fr)) :
    w.cell? ⟨b, 0, none⟩ = some (.string (str T)) ∧ w.cell? ⟨b, 1, none⟩ = some (.int .i64 (d : Int)) ∧ w.cell? ⟨b, 2, none⟩ = some (.map (some b1)) ∧ w.cell? ⟨b, 3, none⟩ = some (.map (some b2)) ∧ w.cell? ⟨b, 4, none⟩ = some (.map (some b3)) ∧ w.cell? ⟨b, 5, none⟩ = some (.pointer none) := by
  refine ⟨?_, ?_, ?_, ?_, ?_, ?_⟩ <;> (rw [cell_of_row _ _ _ _ _ _ h]; rfl)

set_option maxHeartbeats 1000000 in
set_option maxRecDepth 100000 in
theorem draw_any (b : Nat) (T : List Nat) (d b1 b2 b3 n : Nat) (hT : ∀ x ∈ T, x < 256) (hT0 : 0 < T.length) (hTl : T.length ≤ 1000000) (hd : d ≤ 4000000000000000000) (hn : n ≤ 1000000) (t : TypeId) (w : World) (h : w.heap[b]? = some (.cells (suC T d b1 b2 b3) t (0, 0))) :
    Calls Tryd.prog 36 #[.pointer (some ⟨b, 0, none⟩), .int .i64 (n : Int)] w fun e w' => e = .returned (.string (str (Iv.take T d n))) ∧ w'.heap[b]? = some (.cells (suC T (d + n) b1 b2 b3) t (0, 0)) ∧ KeptB b w w' := by
  have hmk := fun wx => run_made n hn wx
  have HH := hid h
  have hbl := (Array.getElem?_eq_some_iff.1 h).1
  have HT := hid hT
  have hsz := str_size T
  clear h hT
  go_enter Tryd.func36, Tryd.ntmps36
  go_upto_region 2 with (fail)
  clear hmk
  have HB0 := hid (show Below w.heap.size w (w.alloc (.cells (ints .u8 (List.replicate n 0)) 5)) from (Below.refl _ _).alloc (Nat.le_refl _) _)
  have HR0 := hid (show Row (w.alloc (.cells (ints .u8 (List.replicate n 0)) 5)) w.heap.size .u8 5 (List.replicate n 0) from heap_alloc_new _ _)
  generalize w.alloc _ = w0 at *
  go_wp2
  go_loopw [11] (fun i wr => ∃ j : Nat, j ≤ n ∧ i = .int .i64 j ∧ Row wr w.heap.size .u8 5 (Iv.take T d j ++ List.replicate (n - j) 0) ∧ Below w.heap.size w wr)
    (fun i _ => n - (intOf i).toNat)
  case atStart => exact ⟨0, by omega, rfl, by simpa [Iv.take] using HR0.out, HB0.out⟩
  case round =>
    clear HB0 HR0
    obtain ⟨j, hj, rfl, hrow, hbel⟩ := hrel
    have hh : wr.heap[b]? = some (.cells (suC T d b1 b2 b3) t (0, 0)) := (hbel.block b hbl).trans HH.out
    obtain ⟨c0, c1, _, _, _, _⟩ := suC_cells hh
    have HHR := hid hh
    clear hh
    by_cases hlt : j < n
    · obtain ⟨z, hz⟩ : ∃ z, z = (d + j) % T.length := ⟨_, rfl⟩
      have hzl : z < T.length := by rw [hz]; exact Nat.mod_lt _ hT0
      have hze : ((d : Int) + (j : Int)) % (T.length : Int) = (z : Int) := by rw [hz]; simp
      have hzm : ((d : Int) + (j : Int)).tmod (T.length : Int) = (z : Int) := by rw [Int.tmod_eq_emod_of_nonneg (by omega)]; exact hze
      have hx : T.getD z 0 < 256 := getD_lt (by omega) HT.out z
      have hget : ∀ h : z < (str T).size, ((str T)[z].toNat : Int) = ((T.getD z 0 : Nat) : Int) := fun h => by rw [str_get T HT.out z h]
      have hrl : (Iv.take T d j ++ List.replicate (n - j) 0).length = n := by simp [Iv.take_length]; omega
      have HST := hid (show (Iv.take T d j ++ List.replicate (n - j) 0).set j (T.getD z 0) = Iv.take T d (j + 1) ++ List.replicate (n - (j + 1)) 0 from by
        rw [hz, Iv.take_succ, List.set_append_right _ _ (by rw [Iv.take_length]; exact Nat.le_refl _), Iv.take_length, Nat.sub_self, show n - j = (n - (j + 1)) + 1 from by omega, List.replicate_succ, List.set_cons_zero, List.append_assoc]
        rfl)
      have hf := hrow.free j
      have hrw := hrow.cell j (by rw [hrl]; exact hlt)
      have HROW := hid hrow
      have HBEL := hid hbel
      have HZ := hid hz
      clear hrow hbel hz hrl HT
      have hS : (str T).size = T.length := hsz
      have hzs : z < (str T).size := by omega
      have hget' := hget hzs
      generalize T.getD z 0 = x at *
      generalize str T = ST at *
      clear hget
      go_upto_region 5 with (fail)
      refine wp_region_noPanic ?_
      refine wp_region_hd1 20 1 rfl (by kernel_rfl) (by kernel_rfl) (fun _ _ _ _ _ h => h) ?_
      simp only [List.take_succ_cons, List.take_zero, List.drop_succ_cons, List.drop_zero]
      repeat (go_big_quiet_step (fail))
      refine wpQuiet_nil ?_
      intro m
      go_wp2
      refine NoPanic.normal ?_
      go_wp2
      have hr2 : Row ((wr.drewN m).setCell ⟨w.heap.size, j, none⟩ (.int .u8 (x : Int))) w.heap.size .u8 5 (Iv.take T d (j + 1) ++ List.replicate (n - (j + 1)) 0) := by
        rw [← HST.out]
        exact Row.set (w := wr.drewN m) HROW.out j x
      have hb2 : Below w.heap.size w ((wr.drewN m).setCell ⟨w.heap.size, j, none⟩ (.int .u8 (x : Int))) :=
        (HBEL.out.trans (show Below w.heap.size wr (wr.drewN m) from ⟨rfl, rfl, rfl, Nat.le_refl _, fun _ _ => rfl⟩)).setCell (p := ⟨w.heap.size, j, none⟩) (Nat.le_refl _) _
      exact ⟨⟨j + 1, by omega, by go_num, hr2, hb2⟩, by simp [intOf]; omega⟩
    · obtain rfl : j = n := by omega
      rw [Nat.sub_self, List.replicate_zero, List.append_nil] at hrow
      have hwb : w.heap.size ≠ b := by omega
      have hf := frozen_of_row wr b 1 _ _ HHR.out
      have hcv := run_str (wr.setCell ⟨b, 1, none⟩ (.int .i64 ((d : Int) + (j : Int)))) w.heap.size 0 j j 5 (Iv.take T d j) (hrow.set_other _ _ hwb) (by rw [Iv.take_length]; omega)
      rw [List.drop_zero, List.take_of_length_le (by rw [Iv.take_length]; exact Nat.le_refl _)] at hcv
      have HBEL := hid hbel
      have HE := hid (heap_setCell_same wr b 1 _ _ (.int .i64 ((d : Int) + (j : Int))) HHR.out)
      clear hbel hrow HT
      go_wp2
      go_ret
      refine ⟨rfl, ?_, ?_⟩
      · rw [HE.out]; rfl
      · exact (KeptB.of_below HBEL.out).trans (KeptB.setCell (KeptB.refl b wr) _)
end Go.Proofs.YtgjkkcggcljcdaaDoor

/-
  Layer 8: what is sealed by an ideal suite, and opened; a new one.
-/
namespace Go.Proofs.YtgjkkcggcljcdaaDoor
open Go.ChangeShapes Go.WideShapes Go.ChangeAt Go.RowKit
open Go.Maps (Keyed)
open Go.Lib (hid)

theorem wpQuiet_mk {P : Program} {ops : Array Oper} {C : World → Prop} {Q : Act → Prop} {rest : List Oper} {o : Oper} {a : Act} (hgd : Region.wanted o (yielded ops a.tmps) = true) (ty : TypeId) (parts : Array (Nat × Operand)) (ho : o.op = .build ty parts)
    (vals : Array (Nat × Value)) (hv : (parts.map fun (i, x) => (i, a.eval x)) = vals) (cs : Array Value) (hc : ∀ w, C w → (Instr.build ty vals).run P w = .ok (.agg cs) w)
    (h : wpQuiet P ops C Q rest (a.put o.dst (.agg cs))) : wpQuiet P ops C Q (o :: rest) a := by
  refine wpQuiet_step (fun K hK => ?_)
  rw [if_pos hgd]
  refine ⟨.agg cs, fun w hw => ?_, hK _ h⟩
  unfold Oper.quietAt execOp
  simp only [ho, hv, Sem.run_bind, Sem.run_pure, Result.andThen_ok, hc w hw]
  exact ⟨rfl, rfl⟩
set_option maxRecDepth 100000 in
theorem atLimited_any (x y : Int) (w : World) :
    Calls Tryd.prog 19 #[.agg #[.int .i64 x, .int .i64 y]] w fun e w' => e = .returned (atV (Iv.lim x, Iv.lim y)) ∧ Below w.heap.size w w' := by
  have h1 := Iv.lim_nat x
  have h2 := Iv.lim_nat y
  go_enter Tryd.func19, Tryd.ntmps19
  go_wp2
  refine bodyPost_ret (v := .agg #[.int .i64 (max 0 (min x 1099511627776)), .int .i64 (max 0 (min y 1099511627776))])
    (results_cell_row Tryd.results19 _ _ (w.heap.size + 1) _ _ _ _ rfl (heap_alloc2_new _ _ _) Tryd.underlying33 rfl (by kernel_rfl)) rfl
    ⟨by rw [atV, h1, h2], ((Below.refl _ _).alloc (Nat.le_refl _) _).alloc (by simp) _⟩
theorem run_seal (w : World) (ad p c : ByteArray) : (Instr.build 86 #[(0, .string ad), (1, .string p), (2, .string c)]).run Tryd.prog w = .ok (sealV (ad, p, c)) w := run_build w _ _ _ (by kernel_rfl)

set_option maxHeartbeats 1000000 in
set_option maxRecDepth 100000 in
theorem hide_any (b b1 b2 b3 : Nat) (v : Iv.V) (hT : ∀ x ∈ v.T, x < 256) (hT0 : 0 < v.T.length) (hTl : v.T.length ≤ 1000000) (hd : v.d ≤ 4000000000000000000) (p : Nat × Nat) (hp : p.1 ≤ 1099511627776 ∧ p.2 ≤ 1099511627776) (ad pl : ByteArray) (hn : pl.size + 16 ≤ 1000000) (w : World) (h : IsI w b b1 b2 b3 v) :
    Calls Tryd.prog 20 #[.pointer (some ⟨b, 0, none⟩), atV p, .string ad, .string pl] w fun e w' => e = .returned (.string (str (Iv.take v.T v.d (pl.size + 16)))) ∧
      IsI w' b b1 b2 b3 { v with d := v.d + (pl.size + 16), S := Mp.put v.S p (ad, pl, str (Iv.take v.T v.d (pl.size + 16))) } ∧ KeptP (fun k => k = b ∨ k = b1) w w' := by
  obtain ⟨n, hnn⟩ : ∃ n, n = pl.size + 16 := ⟨_, rfl⟩
  rw [← hnn]
  have HD := hid (fun wx hx => draw_any b v.T v.d b1 b2 b3 n hT hT0 hTl hd (by omega) 57 wx hx)
  have hni : (pl.size : Int) + 16 = (n : Int) := by omega
  have HH := hid h
  have hne := h.ne
  have hbl := (Array.getElem?_eq_some_iff.1 h.row).1
  clear h hnn
  obtain ⟨C, hC⟩ : ∃ C, C = str (Iv.take v.T v.d n) := ⟨_, rfl⟩
  rw [← hC] at HD ⊢
  clear hC
  unfold atV
  go_enter Tryd.func20, Tryd.ntmps20
  go_upto_region 1 with (fail)
  have HB0 := hid (show Below w.heap.size w (w.alloc (.cells #[.int .i64 (p.1 : Int), .int .i64 (p.2 : Int)] 33)) from (Below.refl _ _).alloc (Nat.le_refl _) _)
  have HA0 := hid (heap_alloc_new w (.cells #[.int .i64 (p.1 : Int), .int .i64 (p.2 : Int)] 33))
  generalize w.alloc _ = w0 at *
  have H0 := hid (HH.out.below HB0.out)
  go_wp2_with fail
  refine (HD.out _ H0.out.row).mono ?_
  rintro e w1 ⟨rfl, hr1, hk1⟩
  have hs0 := HB0.out.size
  have hwb : w.heap.size ≠ b := by omega
  have hwl : w.heap.size < w0.heap.size := (Array.getElem?_eq_some_iff.1 HA0.out).1
  have ha1 : w1.heap[w.heap.size]? = some (.cells #[.int .i64 (p.1 : Int), .int .i64 (p.2 : Int)] 33 (0, 0)) := (hk1.block _ hwl hwb).trans HA0.out
  have hm1 : MapM wayS w1 b1 v.S := H0.out.m1.at (hk1.block _ H0.out.m1.lt hne.1)
  have hm2 : MapM wayL w1 b2 v.L := H0.out.m2.at (hk1.block _ H0.out.m2.lt hne.2.1)
  have hm3 : MapM wayM w1 b3 v.M := H0.out.m3.at (hk1.block _ H0.out.m3.lt hne.2.2)
  obtain ⟨_, _, c2, _, _, _⟩ := suC_cells hr1
  have e0 : w1.cell? ⟨w.heap.size, 0, none⟩ = some (.int .i64 (p.1 : Int)) := by rw [cell_of_row _ _ _ _ _ _ ha1]; rfl
  have e1 : w1.cell? ⟨w.heap.size, 1, none⟩ = some (.int .i64 (p.2 : Int)) := by rw [cell_of_row _ _ _ _ _ _ ha1]; rfl
  have HR1 := hid hr1
  have HK1 := hid hk1
  have M1 := hid hm1
  have M2 := hid hm2
  have M3 := hid hm3
  have HN := hid hne
  clear hr1 hk1 hm1 hm2 hm3 HD ha1 hne
  go_upto_region 3 with (fail)
  refine wp_region_noPanic ?_
  refine wp_region_hd1 9 1 rfl (by kernel_rfl) (by kernel_rfl) (fun _ _ _ _ _ h => h) ?_
  simp only [List.take_succ_cons, List.take_zero, List.drop_succ_cons, List.drop_zero]
  repeat (go_big_quiet_step (refine wpQuiet_mk rfl _ _ rfl _ rfl _ (fun w _ => run_seal w _ _ _) ?_))
  refine wpQuiet_nil ?_
  intro m
  have M1m : MapM wayS (w1.drewN m) b1 v.S := M1.out.at rfl
  go_wp2_with (refine wpList_put _ rfl _ _ _ _ rfl wayS 86 law_At Tryd.underlying49 b1 v.S rfl M1m p rfl ⟨by omega, by omega⟩ (ad, pl, C) rfl ?_; intro w2 hm2 hk2)
  refine NoPanic.normal ?_
  go_wp2
  go_ret
  have hk2' : KeptB b1 w1 w2 := (show KeptB b1 w1 (w1.drewN m) from ⟨rfl, rfl, rfl, Nat.le_refl _, fun _ _ _ => rfl⟩).trans hk2
  have hnm := HH.out
  refine ⟨rfl, ⟨(hk2'.block b (Array.getElem?_eq_some_iff.1 HR1.out).1 (Ne.symm HN.out.1)).trans HR1.out, hm2, M2.out.at (hk2'.block _ M2.out.lt (Ne.symm hnm.n12)), M3.out.at (hk2'.block _ M3.out.lt (Ne.symm hnm.n13)), hnm.n12, hnm.n13, hnm.n23⟩, ?_⟩
  exact ((KeptP.of_below HB0.out).trans (KeptP.of_keptB HK1.out (Or.inl rfl))).trans (KeptP.of_keptB hk2' (Or.inr rfl))

theorem bytes_beq (a b : ByteArray) : (a.toList == b.toList) = decide (a = b) := by
  have h := str_beq (nums a) (nums b) (nums_lt a) (nums_lt b)
  rw [str_nums, str_nums] at h
  rw [h]
  by_cases e : a = b
  · subst e; simp
  · rw [decide_eq_false e, beq_eq_false_iff_ne]
    exact fun h2 => e (by rw [← str_nums a, ← str_nums b, h2])
/-- What is opened. -/
def Iv.open_ (S : List ((Nat × Nat) × (ByteArray × ByteArray × ByteArray))) (p : Nat × Nat) (ad c : ByteArray) : ByteArray × Bool :=
  match Mp.get S p with
  | some x => if x.1 = ad ∧ x.2.2 = c then (x.2.1, true) else (⟨#[]⟩, false)
  | none => (⟨#[]⟩, false)
set_option maxRecDepth 100000 in
theorem zero_seal (w : World) : (zeroValue 86).run Tryd.prog w = .ok (sealV (⟨#[]⟩, ⟨#[]⟩, ⟨#[]⟩)) w := by
  kernel_rfl

set_option maxHeartbeats 1000000 in
set_option maxRecDepth 100000 in
theorem recall_any (b b1 b2 b3 : Nat) (v : Iv.V) (p : Nat × Nat) (hp : p.1 ≤ 1099511627776 ∧ p.2 ≤ 1099511627776) (ad c : ByteArray) (w : World) (h : IsI w b b1 b2 b3 v) :
    Calls Tryd.prog 23 #[.pointer (some ⟨b, 0, none⟩), atV p, .string ad, .string c] w fun e w' => e = .returned (.tuple #[.string (Iv.open_ v.S p ad c).1, .bool (Iv.open_ v.S p ad c).2]) ∧ Below w.heap.size w w' := by
  obtain ⟨r, hr⟩ : ∃ r, r = Iv.open_ v.S p ad c := ⟨_, rfl⟩
  rw [← hr]
  have HR := hid hr
  have HH := hid h
  have hbl := (Array.getElem?_eq_some_iff.1 h.row).1
  clear h hr
  unfold atV
  go_enter Tryd.func23, Tryd.ntmps23
  go_upto_region 1 with (fail)
  have HB0 := hid (show Below w.heap.size w (w.alloc (.cells #[.int .i64 (p.1 : Int), .int .i64 (p.2 : Int)] 33)) from (Below.refl _ _).alloc (Nat.le_refl _) _)
  have HA0 := hid (heap_alloc_new w (.cells #[.int .i64 (p.1 : Int), .int .i64 (p.2 : Int)] 33))
  generalize w.alloc _ = w0 at *
  have H0 := hid (HH.out.below HB0.out)
  obtain ⟨_, _, c2, _, _, _⟩ := suC_cells H0.out.row
  have e0 : w0.cell? ⟨w.heap.size, 0, none⟩ = some (.int .i64 (p.1 : Int)) := by rw [cell_of_row _ _ _ _ _ _ HA0.out]; rfl
  have e1 : w0.cell? ⟨w.heap.size, 1, none⟩ = some (.int .i64 (p.2 : Int)) := by rw [cell_of_row _ _ _ _ _ _ HA0.out]; rfl
  have HP := hid (show wayS.ok p from ⟨by omega, by omega⟩)
  generalize hZ : (Obj.cells #[.string ⟨#[]⟩, .string ⟨#[]⟩, .string ⟨#[]⟩] 86 (0, 0)) = Z
  have HZ := hid hZ
  have hbz := fun k (hk : k < w0.heap.size) => Below.heap_alloc w0 Z k hk
  have hz0 := (Array.getElem?_eq_some_iff.1 HA0.out).1
  have hzb := (Array.getElem?_eq_some_iff.1 H0.out.row).1
  have c2' : (w0.alloc Z).cell? ⟨b, 2, none⟩ = some (.map (some b1)) := (suC_cells ((hbz b hzb).trans H0.out.row)).2.2.1
  have e0' : (w0.alloc Z).cell? ⟨w.heap.size, 0, none⟩ = some (.int .i64 (p.1 : Int)) := by rw [cell_of_row _ _ _ _ _ _ ((hbz _ hz0).trans HA0.out)]; rfl
  have e1' : (w0.alloc Z).cell? ⟨w.heap.size, 1, none⟩ = some (.int .i64 (p.2 : Int)) := by rw [cell_of_row _ _ _ _ _ _ ((hbz _ hz0).trans HA0.out)]; rfl
  clear hbz
  subst hZ
  cases hg : Mp.get v.S p with
  | none =>
    have l1 := MapM.look_none (w := w0.drew) (H0.out.m1.at rfl) law_At Tryd.underlying49 (zero_seal _) HP.out hg true
    have l2 := MapM.look_none (w := (w0.alloc (.cells #[.string ⟨#[]⟩, .string ⟨#[]⟩, .string ⟨#[]⟩] 86)).drew) ((H0.out.m1.alloc _).at rfl) law_At Tryd.underlying49 (zero_seal _) HP.out hg true
    rw [if_pos rfl] at l1 l2
    simp only [wayS, atV, sealV] at l1 l2
    have HRR := hid (show r = (⟨#[]⟩, false) from by rw [HR.out, Iv.open_, hg])
    clear hg
    have hb2 : Below w.heap.size w ((w0.alloc (.cells #[.string ⟨#[]⟩, .string ⟨#[]⟩, .string ⟨#[]⟩] 86)).drew) := (HB0.out.alloc HB0.out.size _).drew
    have HB2 := hid hb2
    clear hb2
    go_region
    all_goals (
      clear l1 l2 c2 c2' e0 e0' e1 e1'
      go_wp2
      refine bodyPost_ret (results_tmp2 Tryd.results23 _ _ _) rfl ?_
      exact ⟨by rw [HRR.out]; rfl, HB2.out⟩)
  | some x =>
    obtain ⟨ad', pl, c'⟩ := x
    have l1 := MapM.look_some (w := w0.drew) (H0.out.m1.at rfl) law_At Tryd.underlying49 HP.out hg true
    have l2 := MapM.look_some (w := (w0.alloc (.cells #[.string ⟨#[]⟩, .string ⟨#[]⟩, .string ⟨#[]⟩] 86)).drew) ((H0.out.m1.alloc _).at rfl) law_At Tryd.underlying49 HP.out hg true
    rw [if_pos rfl] at l1 l2
    simp only [wayS, atV, sealV] at l1 l2
    have HRR := hid (show r = if ad' = ad ∧ c' = c then (pl, true) else (⟨#[]⟩, false) from by rw [HR.out, Iv.open_, hg])
    clear hg
    have HB2 := hid (show Below w.heap.size w ((w0.alloc (.cells #[.string ad', .string pl, .string c'] 86)).drew) from (HB0.out.alloc HB0.out.size _).drew)
    go_region
    all_goals (
      clear l1 l2 c2 c2' e0 e0' e1 e1'
      have s1 : (ad'.toList == ad.toList) = decide (ad' = ad) := bytes_beq _ _
      have s2 : (c'.toList == c.toList) = decide (c' = c) := bytes_beq _ _
      by_cases h1 : ad' = ad
      · by_cases h2 : c' = c
        · rw [if_pos ⟨h1, h2⟩] at HRR
          rw [decide_eq_true h1] at s1
          rw [decide_eq_true h2] at s2
          clear h1 h2
          go_wp2
          refine bodyPost_ret (results_tmp2 Tryd.results23 _ _ _) rfl ?_
          exact ⟨by rw [HRR.out]; rfl, HB2.out⟩
        · rw [if_neg (fun h => h2 h.2)] at HRR
          rw [decide_eq_true h1] at s1
          rw [decide_eq_false h2] at s2
          clear h1 h2
          go_wp2
          refine bodyPost_ret (results_tmp2 Tryd.results23 _ _ _) rfl ?_
          exact ⟨by rw [HRR.out]; rfl, HB2.out⟩
      · rw [if_neg (fun h => h1 h.1)] at HRR
        rw [decide_eq_false h1] at s1
        clear h1 s2
        go_wp2
        refine bodyPost_ret (results_tmp2 Tryd.results23 _ _ _) rfl ?_
        exact ⟨by rw [HRR.out]; rfl, HB2.out⟩)
end Go.Proofs.YtgjkkcggcljcdaaDoor

/-
  Layer 8: Seal and Open of an ideal suite; a new one.
-/
namespace Go.Proofs.YtgjkkcggcljcdaaDoor
open Go.ChangeShapes Go.WideShapes Go.ChangeAt Go.RowKit
open Go.Lib (hid)

set_option maxHeartbeats 1000000 in
set_option maxRecDepth 100000 in
theorem seal_any (b b1 b2 b3 : Nat) (v : Iv.V) (hT : ∀ x ∈ v.T, x < 256) (hT0 : 0 < v.T.length) (hTl : v.T.length ≤ 1000000) (hd : v.d ≤ 4000000000000000000) (x y : Int) (ad pl : ByteArray) (hn : pl.size + 16 ≤ 1000000) (w : World) (h : IsI w b b1 b2 b3 v) :
    Calls Tryd.prog 10 #[.pointer (some ⟨b, 0, none⟩), .agg #[.int .i64 x, .int .i64 y], .string ad, .string pl] w fun e w' => e = .returned (.string (str (Iv.take v.T v.d (pl.size + 16)))) ∧
      IsI w' b b1 b2 b3 { v with d := v.d + (pl.size + 16), S := Mp.put v.S (Iv.lim x, Iv.lim y) (ad, pl, str (Iv.take v.T v.d (pl.size + 16))) } ∧ KeptP (fun k => k = b ∨ k = b1) w w' := by
  have HH := hid h
  have hbl := (Array.getElem?_eq_some_iff.1 h.row).1
  have HL := hid (fun wx => atLimited_any x y wx)
  have hl1 := Iv.lim_le x
  have hl2 := Iv.lim_le y
  obtain ⟨p, hp⟩ : ∃ p, p = (Iv.lim x, Iv.lim y) := ⟨_, rfl⟩
  rw [← hp] at HL ⊢
  have hp1 : p.1 ≤ 1099511627776 := by rw [hp]; exact hl1
  have hp2 : p.2 ≤ 1099511627776 := by rw [hp]; exact hl2
  have HD := hid (fun wx hx => hide_any b b1 b2 b3 v hT hT0 hTl hd p ⟨hp1, hp2⟩ ad pl hn wx hx)
  obtain ⟨C, hC⟩ : ∃ C, C = str (Iv.take v.T v.d (pl.size + 16)) := ⟨_, rfl⟩
  rw [← hC] at HD ⊢
  obtain ⟨v', hv'⟩ : ∃ v', v' = { v with d := v.d + (pl.size + 16), S := Mp.put v.S p (ad, pl, C) } := ⟨_, rfl⟩
  rw [← hv'] at HD ⊢
  clear hC hv' hp h hl1 hl2 hT hT0 hTl hd
  go_enter Tryd.func10, Tryd.ntmps10
  go_upto_region 1 with (fail)
  have HB0 := hid (show Below w.heap.size w (w.alloc (.cells #[.int .i64 x, .int .i64 y] 33)) from (Below.refl _ _).alloc (Nat.le_refl _) _)
  have HA0 := hid (heap_alloc_new w (.cells #[.int .i64 x, .int .i64 y] 33))
  generalize w.alloc _ = w0 at *
  have e0 : w0.cell? ⟨w.heap.size, 0, none⟩ = some (.int .i64 x) := by rw [cell_of_row _ _ _ _ _ _ HA0.out]; rfl
  have e1 : w0.cell? ⟨w.heap.size, 1, none⟩ = some (.int .i64 y) := by rw [cell_of_row _ _ _ _ _ _ HA0.out]; rfl
  go_wp2_with fail
  refine (HL.out _).mono ?_
  rintro e w1 ⟨rfl, hb1⟩
  unfold atV
  have hlt := (Array.getElem?_eq_some_iff.1 HA0.out).1
  have HA1 := hid ((hb1.block _ hlt).trans HA0.out)
  have HB1 := hid (HB0.out.next (Nat.le_refl _) hb1)
  have f0 := frozen_of_row w1 w.heap.size 0 _ _ HA1.out
  have f1 := frozen_of_row w1 w.heap.size 1 _ _ HA1.out
  have g0 : w1.cell? ⟨w.heap.size, 0, none⟩ = some (.int .i64 x) := by rw [cell_of_row _ _ _ _ _ _ HA1.out]; rfl
  have g1 : w1.cell? ⟨w.heap.size, 1, none⟩ = some (.int .i64 y) := by rw [cell_of_row _ _ _ _ _ _ HA1.out]; rfl
  clear hb1 HA0 HB0 e0 e1 HL hlt
  go_upto_region 2 with (fail)
  generalize hW : World.setCell _ _ _ = w2
  have HA2 := hid (show w2.heap[w.heap.size]? = some (.cells #[.int .i64 (p.1 : Int), .int .i64 (p.2 : Int)] 33 (0, 0)) from by
    rw [← hW, heap_setCell_same _ _ _ _ _ _ (heap_setCell_same w1 w.heap.size 0 _ _ _ HA1.out)]; rfl)
  have HB2 := hid (show Below w.heap.size w w2 from by
    rw [← hW]; exact (HB1.out.setCell (p := ⟨w.heap.size, 0, none⟩) (Nat.le_refl _) _).setCell (p := ⟨w.heap.size, 1, none⟩) (Nat.le_refl _) _)
  clear hW f0 f1 g0 g1 HA1 HB1
  have H2 := hid (HH.out.below HB2.out)
  obtain ⟨_, _, _, _, _, c5⟩ := suC_cells H2.out.row
  have e0 : w2.cell? ⟨w.heap.size, 0, none⟩ = some (.int .i64 (p.1 : Int)) := by rw [cell_of_row _ _ _ _ _ _ HA2.out]; rfl
  have e1 : w2.cell? ⟨w.heap.size, 1, none⟩ = some (.int .i64 (p.2 : Int)) := by rw [cell_of_row _ _ _ _ _ _ HA2.out]; rfl
  go_wp2
  refine wp_region_noPanic ?_
  refine wp_region_hd1 6 2 rfl (by kernel_rfl) (by kernel_rfl) (fun _ _ _ _ _ h => h) ?_
  simp only [List.take_succ_cons, List.take_zero, List.drop_succ_cons, List.drop_zero]
  repeat (go_big_quiet_step (fail))
  refine wpQuiet_nil ?_
  intro m
  have H2m : IsI (w2.drewN m) b b1 b2 b3 v := H2.out.kept (p := fun _ => False) ⟨rfl, rfl, rfl, Nat.le_refl _, fun _ _ _ => rfl⟩ id id id id
  go_wp2_with fail
  refine (HD.out _ H2m).mono ?_
  rintro e w3 ⟨rfl, h3, hk3⟩
  go_wp2
  refine NoPanic.normal ?_
  go_wp2
  go_ret
  exact ⟨rfl, h3, (KeptP.of_below HB2.out).trans ((show KeptP _ w2 (w2.drewN m) from ⟨rfl, rfl, rfl, Nat.le_refl _, fun _ _ _ => rfl⟩).trans hk3)⟩

/-- What stays while it is opened. -/
def OpS (w : World) (b b1 b2 b3 : Nat) (v : Iv.V) (p : Nat × Nat) (u : World) : Prop := IsI u b b1 b2 b3 v ∧ u.heap[w.heap.size]? = some (.cells #[.int .i64 (p.1 : Int), .int .i64 (p.2 : Int)] 33 (0, 0)) ∧ Below w.heap.size w u
theorem OpS.below {w : World} {b b1 b2 b3 : Nat} {v : Iv.V} {p : Nat × Nat} {u u' : World} (h : OpS w b b1 b2 b3 v p u) (hb : Below u.heap.size u u') : OpS w b b1 b2 b3 v p u' :=
  ⟨h.1.below hb, (hb.block _ (Array.getElem?_eq_some_iff.1 h.2.1).1).trans h.2.1, h.2.2.trans (hb.mono h.2.2.size)⟩
set_option maxHeartbeats 1000000 in
set_option maxRecDepth 100000 in
theorem open_any (b b1 b2 b3 : Nat) (v : Iv.V) (x y : Int) (ad c : ByteArray) (w : World) (h : IsI w b b1 b2 b3 v) :
    Calls Tryd.prog 11 #[.pointer (some ⟨b, 0, none⟩), .agg #[.int .i64 x, .int .i64 y], .string ad, .string c] w fun e w' =>
      e = .returned (.tuple #[.string (Iv.open_ v.S (Iv.lim x, Iv.lim y) ad c).1, .bool (Iv.open_ v.S (Iv.lim x, Iv.lim y) ad c).2]) ∧ Below w.heap.size w w' := by
  have HH := hid h
  have hbl := (Array.getElem?_eq_some_iff.1 h.row).1
  have HL := hid (fun wx => atLimited_any x y wx)
  have hl1 := Iv.lim_le x
  have hl2 := Iv.lim_le y
  obtain ⟨p, hp⟩ : ∃ p, p = (Iv.lim x, Iv.lim y) := ⟨_, rfl⟩
  rw [← hp] at HL ⊢
  have hp1 : p.1 ≤ 1099511627776 := by rw [hp]; exact hl1
  have hp2 : p.2 ≤ 1099511627776 := by rw [hp]; exact hl2
  have HD := hid (fun wx hx => recall_any b b1 b2 b3 v p ⟨hp1, hp2⟩ ad c wx hx)
  obtain ⟨r, hr⟩ : ∃ r, r = Iv.open_ v.S p ad c := ⟨_, rfl⟩
  rw [← hr] at HD ⊢
  clear hr hp h hl1 hl2
  go_enter Tryd.func11, Tryd.ntmps11
  go_upto_region 1 with (fail)
  have HB0 := hid (show Below w.heap.size w (w.alloc (.cells #[.int .i64 x, .int .i64 y] 33)) from (Below.refl _ _).alloc (Nat.le_refl _) _)
  have HA0 := hid (heap_alloc_new w (.cells #[.int .i64 x, .int .i64 y] 33))
  generalize w.alloc _ = w0 at *
  have e0 : w0.cell? ⟨w.heap.size, 0, none⟩ = some (.int .i64 x) := by rw [cell_of_row _ _ _ _ _ _ HA0.out]; rfl
  have e1 : w0.cell? ⟨w.heap.size, 1, none⟩ = some (.int .i64 y) := by rw [cell_of_row _ _ _ _ _ _ HA0.out]; rfl
  go_wp2_with fail
  refine (HL.out _).mono ?_
  rintro e w1 ⟨rfl, hb1⟩
  unfold atV
  have hlt := (Array.getElem?_eq_some_iff.1 HA0.out).1
  have HA1 := hid ((hb1.block _ hlt).trans HA0.out)
  have HB1 := hid (HB0.out.next (Nat.le_refl _) hb1)
  have f0 := frozen_of_row w1 w.heap.size 0 _ _ HA1.out
  have f1 := frozen_of_row w1 w.heap.size 1 _ _ HA1.out
  have g0 : w1.cell? ⟨w.heap.size, 0, none⟩ = some (.int .i64 x) := by rw [cell_of_row _ _ _ _ _ _ HA1.out]; rfl
  have g1 : w1.cell? ⟨w.heap.size, 1, none⟩ = some (.int .i64 y) := by rw [cell_of_row _ _ _ _ _ _ HA1.out]; rfl
  clear hb1 HA0 HB0 e0 e1 HL hlt
  go_upto_region 2 with (fail)
  generalize hW : World.setCell _ _ _ = w2
  have HA2 := hid (show w2.heap[w.heap.size]? = some (.cells #[.int .i64 (p.1 : Int), .int .i64 (p.2 : Int)] 33 (0, 0)) from by
    rw [← hW, heap_setCell_same _ _ _ _ _ _ (heap_setCell_same w1 w.heap.size 0 _ _ _ HA1.out)]; rfl)
  have HB2 := hid (show Below w.heap.size w w2 from by
    rw [← hW]; exact (HB1.out.setCell (p := ⟨w.heap.size, 0, none⟩) (Nat.le_refl _) _).setCell (p := ⟨w.heap.size, 1, none⟩) (Nat.le_refl _) _)
  clear hW f0 f1 g0 g1 HA1 HB1
  have H2 := hid (HH.out.below HB2.out)
  obtain ⟨_, _, _, _, _, c5⟩ := suC_cells H2.out.row
  have e0 : w2.cell? ⟨w.heap.size, 0, none⟩ = some (.int .i64 (p.1 : Int)) := by rw [cell_of_row _ _ _ _ _ _ HA2.out]; rfl
  have e1 : w2.cell? ⟨w.heap.size, 1, none⟩ = some (.int .i64 (p.2 : Int)) := by rw [cell_of_row _ _ _ _ _ _ HA2.out]; rfl
  go_wp2
  refine wp_region_class (OpS w b b1 b2 b3 v p) (by kernel_rfl) (by kernel_rfl) ⟨H2.out.kept (p := fun _ => False) ⟨rfl, rfl, rfl, Nat.le_refl _, fun _ _ _ => rfl⟩ id id id id, HA2.out, HB2.out.trans ⟨rfl, rfl, rfl, Nat.le_refl _, fun _ _ => rfl⟩⟩ ?_
  intro Z φ hne hSφ hφ
  have C1 := hid (fun z => calls_class hφ ((HD.out (φ z) (hSφ z).1).mono fun e w' h => ⟨h.1, (hSφ z).below h.2⟩))
  have cz0 : ∀ z, (φ z).cell? ⟨w.heap.size, 0, none⟩ = some (.int .i64 (p.1 : Int)) := fun z => by rw [cell_of_row _ _ _ _ _ _ (hSφ z).2.1]; rfl
  have cz1 : ∀ z, (φ z).cell? ⟨w.heap.size, 1, none⟩ = some (.int .i64 (p.2 : Int)) := fun z => by rw [cell_of_row _ _ _ _ _ _ (hSφ z).2.1]; rfl
  have HSZ := hid hSφ
  clear hSφ hφ e0 e1 c5
  unfold atV at C1
  repeat (go_big_quiet_step (first | (go_at_call 23; exact C1.out _)))
  refine wpQuiet_nil ?_
  intro z
  have HS5 := hid (HSZ.out z)
  clear C1 cz0 cz1 HSZ
  generalize φ z = w5 at *
  go_wp2
  refine bodyPost_ret (results_tmp2 Tryd.results11 _ _ _) rfl ?_
  exact ⟨rfl, HS5.out.2.2⟩

theorem bytes_isEmpty (a : ByteArray) : a.toList.isEmpty = decide (a = ⟨#[]⟩) := by
  have e : (⟨#[]⟩ : ByteArray).toList = [] := by
    rw [ByteArray.toList, ByteArray.toList.loop]
    rfl
  rw [← bytes_beq, e]
  cases h : a.toList with
  | nil => rfl
  | cons x l => rfl
theorem four_blocks (w : World) (o : Obj) (W : World) (hW : (((w.alloc o).alloc (.map #[] 0)).alloc (.map #[] 0)).alloc (.map #[] 0) = W) :
    W.heap[w.heap.size]? = some o ∧ MapM wayS W (w.heap.size + 1) [] ∧ MapM wayL W (w.heap.size + 1 + 1) [] ∧ MapM wayM W (w.heap.size + 1 + 1 + 1) [] ∧ Below w.heap.size w W := by
  have z1 : (w.alloc o).heap.size = w.heap.size + 1 := World.size_alloc _ _
  have z2 : ((w.alloc o).alloc (.map #[] 0)).heap.size = w.heap.size + 1 + 1 := by rw [World.size_alloc, z1]
  have z3 : (((w.alloc o).alloc (.map #[] 0)).alloc (.map #[] 0)).heap.size = w.heap.size + 1 + 1 + 1 := by rw [World.size_alloc, z2]
  have m1 := mapM_made (w.alloc o) wayS
  have m2 := mapM_made ((w.alloc o).alloc (.map #[] 0)) wayL
  have m3 := mapM_made (((w.alloc o).alloc (.map #[] 0)).alloc (.map #[] 0)) wayM
  rw [z1] at m1
  rw [z2] at m2
  rw [z3] at m3
  refine ⟨?_, ?_, ?_, ?_, ?_⟩
  · rw [← hW, Below.heap_alloc _ _ _ (by rw [z3]; omega), Below.heap_alloc _ _ _ (by rw [z2]; omega), Below.heap_alloc _ _ _ (by rw [z1]; omega)]
    exact heap_alloc_new _ _
  · rw [← hW]; exact (m1.alloc _).alloc _
  · rw [← hW]; exact m2.alloc _
  · rw [← hW]; exact m3
  · rw [← hW]
    exact ((((Below.refl _ w).alloc (Nat.le_refl _) _).alloc (by rw [z1]; omega) _).alloc (by rw [z2]; omega) _).alloc (by rw [z3]; omega) _
/-- A tape of no bytes counts as one nought. -/
def Iv.tapeOf (T : List Nat) : List Nat := if T = [] then [0] else T
theorem run_ideal (w : World) (s : ByteArray) (m1 m2 m3 : Nat) : (Instr.build 53 #[(0, .string s), (2, .map (some m1)), (3, .map (some m2)), (4, .map (some m3))]).run Tryd.prog w = .ok (.agg #[.string s, .int .i64 0, .map (some m1), .map (some m2), .map (some m3)]) w := run_build w _ _ _ (by kernel_rfl)

set_option maxHeartbeats 1000000 in
set_option maxRecDepth 100000 in
theorem blank_any (T : List Nat) (w : World) (hT : T.length ≤ 1000000) :
    Calls Tryd.prog 18 #[.string (str T)] w fun e w' => ∃ b1 b2 b3, e = .returned (.agg #[.string (str (Iv.tapeOf T)), .int .i64 0, .map (some b1), .map (some b2), .map (some b3)]) ∧
      MapM wayS w' b1 [] ∧ MapM wayL w' b2 [] ∧ MapM wayM w' b3 [] ∧ b1 ≠ b2 ∧ b1 ≠ b3 ∧ b2 ≠ b3 ∧ w.heap.size ≤ b1 ∧ w.heap.size ≤ b2 ∧ w.heap.size ≤ b3 ∧ Below w.heap.size w w' := by
  go_enter Tryd.func18, Tryd.ntmps18
  have s1 : (str T).toList.isEmpty = decide (T = []) := by
    rw [bytes_isEmpty]
    by_cases e : T = []
    · subst e; rfl
    · rw [decide_eq_false e, decide_eq_false]
      intro h
      have := congrArg ByteArray.size h
      rw [str_size] at this
      exact e (List.eq_nil_of_length_eq_zero this)
  have mk1 := fun wx => run_makeMap (P := Tryd.prog) 49 wx
  have mk2 := fun wx => run_makeMap (P := Tryd.prog) 50 wx
  have mk3 := fun wx => run_makeMap (P := Tryd.prog) 51 wx
  have hTO : ∃ X, X = str (Iv.tapeOf T) := ⟨_, rfl⟩
  obtain ⟨X, hX⟩ := hTO
  rw [← hX]
  have HX := hid hX
  clear hX
  obtain ⟨ST, hST⟩ : ∃ ST, ST = str T := ⟨_, rfl⟩
  rw [← hST] at s1 ⊢
  have HST := hid hST
  clear hST
  by_cases hn : T = []
  · rw [decide_eq_true hn] at s1
    have hX : X = ⟨#[0]⟩ := by rw [HX.out, Iv.tapeOf, if_pos hn]; rfl
    go_wp2
    generalize hW : World.alloc _ _ = W
    obtain ⟨h0, h1, h2, h3, hb⟩ := four_blocks _ _ W hW
    refine bodyPost_ret (v := .agg _) (results_cell_row Tryd.results18 _ _ w.heap.size _ _ _ _ rfl h0 Tryd.underlying53 rfl (by kernel_rfl)) rfl ?_
    exact ⟨_, _, _, by rw [hX], h1, h2, h3, by omega, by omega, by omega, by omega, by omega, by omega, hb⟩
  · rw [decide_eq_false hn] at s1
    have hX : X = ST := by rw [HX.out, Iv.tapeOf, if_neg hn, HST.out]
    go_wp2
    generalize hW : World.alloc _ _ = W
    obtain ⟨h0, h1, h2, h3, hb⟩ := four_blocks _ _ W hW
    refine bodyPost_ret (v := .agg _) (results_cell_row Tryd.results18 _ _ w.heap.size _ _ _ _ rfl h0 Tryd.underlying53 rfl (by kernel_rfl)) rfl ?_
    exact ⟨_, _, _, by rw [hX], h1, h2, h3, by omega, by omega, by omega, by omega, by omega, by omega, hb⟩
theorem run_suite (w : World) (s : ByteArray) (m1 m2 m3 : Nat) : (Instr.build 57 #[(0, .agg #[.string s, .int .i64 0, .map (some m1), .map (some m2), .map (some m3)])]).run Tryd.prog w = .ok (.agg #[.string s, .int .i64 0, .map (some m1), .map (some m2), .map (some m3), .pointer none]) w := run_build w _ _ _ (by kernel_rfl)
theorem Iv.tapeOf_ok (T : List Nat) (h : ∀ x ∈ T, x < 256) : 0 < (Iv.tapeOf T).length ∧ (∀ x ∈ Iv.tapeOf T, x < 256) ∧ (Iv.tapeOf T).length ≤ T.length + 1 := by
  unfold Iv.tapeOf
  split
  · simp
  · rename_i hn
    refine ⟨List.length_pos_iff.2 hn, h, by omega⟩

set_option maxHeartbeats 1000000 in
set_option maxRecDepth 100000 in
theorem ideal_any (T : List Nat) (w : World) (hT : T.length ≤ 1000000) :
    Calls Tryd.prog 7 #[.string (str T)] w fun e w' => ∃ b b1 b2 b3, e = .returned (.pointer (some ⟨b, 0, none⟩)) ∧ IsI w' b b1 b2 b3 ⟨Iv.tapeOf T, 0, [], [], []⟩ ∧ w.heap.size ≤ b ∧ w.heap.size ≤ b1 ∧ w.heap.size ≤ b2 ∧ w.heap.size ≤ b3 ∧ Below w.heap.size w w' := by
  have HB := hid (fun wx => blank_any T wx hT)
  go_enter Tryd.func7, Tryd.ntmps7
  go_wp2_with fail
  refine (HB.out _).mono ?_
  rintro e w1 ⟨b1, b2, b3, rfl, m1, m2, m3, n12, n13, n23, g1, g2, g3, hb1⟩
  go_wp2_with (refine wpList_build rfl _ _ rfl _ rfl _ (run_suite _ _ _ _ _) ?_)
  go_ret
  refine ⟨_, b1, b2, b3, rfl, ⟨heap_alloc_new _ _, m1.alloc _, m2.alloc _, m3.alloc _, n12, n13, n23⟩, hb1.size, g1, g2, g3, hb1.alloc hb1.size _⟩
end Go.Proofs.YtgjkkcggcljcdaaDoor
