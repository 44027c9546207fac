/-
  Layer 8: an ideal suite: its fields in memory, and what is taken from the tape.
-/
import Derived.Test.YtnhecallffkedabDoorSu0
import Derived.Test.YtnhecallffkedabDoorRg2
namespace Go.Proofs.YtnhecallffkedabDoor
open Go.ChangeShapes Go.WideShapes Go.ChangeAt Go.RowKit
open Go.Maps (Keyed)
open Go.Lib (hid)

namespace Iv
/-- A number as it counts. -/
def lim (n : Int) : Nat := (max 0 (min n 1099511627776)).toNat
theorem lim_le (n : Int) : lim n ≤ 1099511627776 := by unfold lim; omega
theorem lim_nat (n : Int) : (lim n : Int) = max 0 (min n 1099511627776) := by unfold lim; omega
/-- n bytes of the tape. -/
def take (T : List Nat) (d n : Nat) : List Nat := (List.range n).map fun i => T.getD ((d + i) % T.length) 0
theorem take_length (T : List Nat) (d n : Nat) : (take T d n).length = n := by simp [take]
theorem take_lt (T : List Nat) (hT : ∀ x ∈ T, x < 256) (d n : Nat) : ∀ x ∈ take T d n, x < 256 := by
  intro x hx
  simp only [take, List.mem_map] at hx
  obtain ⟨i, _, rfl⟩ := hx
  exact getD_lt (by omega) hT _
theorem take_succ (T : List Nat) (d n : Nat) : take T d (n + 1) = take T d n ++ [T.getD ((d + n) % T.length) 0] := by
  simp [take, List.range_succ]
/-- An ideal suite. -/
structure V where
  T : List Nat
  d : Nat
  S : List ((Nat × Nat) × (ByteArray × ByteArray × ByteArray))
  L : List ((ByteArray × Nat × Nat) × List Nat)
  M : List (List Nat × ByteArray)
end Iv
def sealV (x : ByteArray × ByteArray × ByteArray) : Value := .agg #[.string x.1, .string x.2.1, .string x.2.2]
def madeV (t : ByteArray) : Value := .agg #[.string t]
theorem ints_inj {a b : List Nat} (h : ints .u8 a = ints .u8 b) : a = b := by
  have h1 := congrArg Array.toList h
  simp only [ints] at h1
  induction a generalizing b with
  | nil =>
    cases b with
    | nil => rfl
    | cons y b => simp at h1
  | cons x a ih =>
    cases b with
    | nil => simp at h1
    | cons y b =>
      simp only [List.map_cons, List.cons.injEq, Value.int.injEq, true_and] at h1
      have h2 : x = y := by omega
      rw [h2, ih (b := b) (by simpa [ints] using h1.2) h1.2]
def wayS : Mp.Way Tryd.prog 33 (Nat × Nat) (ByteArray × ByteArray × ByteArray) where
  kV := atV
  vV := sealV
  inj a b h := by
    simp only [atV, Value.agg.injEq, Array.mk.injEq, List.cons.injEq, Value.int.injEq, true_and, and_true] at h
    exact Prod.ext (by omega) (by omega)
  ok p := p.1 < 9223372036854775808 ∧ p.2 < 9223372036854775808
  key a h := key_At a h.1 h.2
def wayL : Mp.Way Tryd.prog 177 (ByteArray × Nat × Nat) (List Nat) where
  kV := namedV
  vV l := .agg (ints .u8 l)
  inj a b h := by
    simp only [namedV, Value.agg.injEq, Array.mk.injEq, List.cons.injEq, Value.int.injEq, Value.string.injEq, true_and, and_true] at h
    exact Prod.ext h.1 (Prod.ext (by omega) (by omega))
  ok p := p.1.size ≤ maxLen ∧ p.2.1 < 9223372036854775808 ∧ p.2.2 < 9223372036854775808
  key a h := key_named a h.1 h.2.1 h.2.2
def wayM : Mp.Way Tryd.prog 27 (List Nat) ByteArray where
  kV := sumV
  vV := madeV
  inj a b h := by
    simp only [sumV, Value.agg.injEq] at h
    exact ints_inj h
  ok l := l.length = 32 ∧ ∀ x ∈ l, x < 256
  key a h := key_Sum a h.1 h.2
/-- The fields of an ideal suite. -/
def suC (T : List Nat) (d b1 b2 b3 : Nat) : Array Value := #[.string (str T), .int .i64 (d : Int), .map (some b1), .map (some b2), .map (some b3), .pointer none]
/-- Block b is an ideal suite; its maps are blocks b1, b2, b3. -/
structure IsI (w : World) (b b1 b2 b3 : Nat) (v : Iv.V) : Prop where
  row : w.heap[b]? = some (.cells (suC v.T v.d b1 b2 b3) 50 (0, 0))
  m1 : MapM wayS w b1 v.S
  m2 : MapM wayL w b2 v.L
  m3 : MapM wayM w b3 v.M
  n12 : b1 ≠ b2
  n13 : b1 ≠ b3
  n23 : b2 ≠ b3
/-- The world but for some blocks, and for new ones. -/
structure KeptP (p : Nat → Prop) (w w' : World) : Prop where
  os : w'.os = w.os
  tape : w'.tape = w.tape
  output : w'.output = w.output
  size : w.heap.size ≤ w'.heap.size
  block : ∀ k, k < w.heap.size → ¬ p k → w'.heap[k]? = w.heap[k]?
theorem KeptP.refl (p : Nat → Prop) (w : World) : KeptP p w w := ⟨rfl, rfl, rfl, Nat.le_refl _, fun _ _ _ => rfl⟩
theorem KeptP.trans {p : Nat → Prop} {u v w : World} (h : KeptP p u v) (k : KeptP p v w) : KeptP p u w :=
  ⟨k.os.trans h.os, k.tape.trans h.tape, k.output.trans h.output, Nat.le_trans h.size k.size, fun i hi hb => (k.block i (Nat.lt_of_lt_of_le hi h.size) hb).trans (h.block i hi hb)⟩
theorem KeptP.mono {p q : Nat → Prop} {u v : World} (h : KeptP p u v) (hpq : ∀ k, p k → q k) : KeptP q u v := ⟨h.os, h.tape, h.output, h.size, fun i hi hb => h.block i hi (fun hp => hb (hpq i hp))⟩
theorem KeptP.of_below {p : Nat → Prop} {w w' : World} (h : Below w.heap.size w w') : KeptP p w w' := ⟨h.os, h.tape, h.output, h.size, fun k hk _ => h.block k hk⟩
theorem KeptP.of_keptB {p : Nat → Prop} {b : Nat} {w w' : World} (h : KeptB b w w') (hb : p b) : KeptP p w w' := ⟨h.os, h.tape, h.output, h.size, fun k hk hp => h.block k hk (fun e => hp (e ▸ hb))⟩
theorem KeptP.drew {p : Nat → Prop} {u w : World} (h : KeptP p u w) : KeptP p u w.drew := ⟨h.os, h.tape, h.output, h.size, h.block⟩
theorem KeptP.below {p : Nat → Prop} {w w' : World} {B : Nat} (h : KeptP p w w') (hp : ∀ k, p k → B ≤ k) (hB : B ≤ w.heap.size) : Below B w w' :=
  ⟨h.os, h.tape, h.output, h.size, fun k hk => h.block k (by omega) (fun hq => by have := hp k hq; omega)⟩
/-- The blocks of a suite. -/
def suB (b b1 b2 b3 : Nat) (k : Nat) : Prop := k = b ∨ k = b1 ∨ k = b2 ∨ k = b3
theorem IsI.kept {w w' : World} {b b1 b2 b3 : Nat} {v : Iv.V} {p : Nat → Prop} (h : IsI w b b1 b2 b3 v) (hk : KeptP p w w') (h0 : ¬ p b) (h1 : ¬ p b1) (h2 : ¬ p b2) (h3 : ¬ p b3) : IsI w' b b1 b2 b3 v :=
  ⟨(hk.block b (Array.getElem?_eq_some_iff.1 h.row).1 h0).trans h.row, h.m1.at (hk.block _ h.m1.lt h1), h.m2.at (hk.block _ h.m2.lt h2), h.m3.at (hk.block _ h.m3.lt h3), h.n12, h.n13, h.n23⟩
theorem IsI.below {w w' : World} {b b1 b2 b3 : Nat} {v : Iv.V} (h : IsI w b b1 b2 b3 v) (hk : Below w.heap.size w w') : IsI w' b b1 b2 b3 v :=
  h.kept (p := fun _ => False) (KeptP.of_below hk) id id id id
theorem IsI.ne {w : World} {b b1 b2 b3 : Nat} {v : Iv.V} (h : IsI w b b1 b2 b3 v) : b1 ≠ b ∧ b2 ≠ b ∧ b3 ≠ b := ⟨h.m1.ne_cells h.row, h.m2.ne_cells h.row, h.m3.ne_cells h.row⟩
theorem suC_cells {w : World} {b : Nat} {T : List Nat} {d b1 b2 b3 : Nat} {t : TypeId} {fr : Nat × Nat} (h : w.heap[b]? = some (.cells (suC T d b1 b2 b3) t fr)) :
    w.cell? ⟨b, 0, none⟩ = some (.string (str T)) ∧ w.cell? ⟨b, 1, none⟩ = some (.int .i64 (d : Int)) ∧ w.cell? ⟨b, 2, none⟩ = some (.map (some b1)) ∧ w.cell? ⟨b, 3, none⟩ = some (.map (some b2)) ∧ w.cell? ⟨b, 4, none⟩ = some (.map (some b3)) ∧ w.cell? ⟨b, 5, none⟩ = some (.pointer none) := by
  refine ⟨?_, ?_, ?_, ?_, ?_, ?_⟩ <;> (rw [cell_of_row _ _ _ _ _ _ h]; rfl)

set_option maxHeartbeats 1000000 in
set_option maxRecDepth 100000 in
theorem draw_any (b : Nat) (T : List Nat) (d b1 b2 b3 n : Nat) (hT : ∀ x ∈ T, x < 256) (hT0 : 0 < T.length) (hTl : T.length ≤ 1000000) (hd : d ≤ 4000000000000000000) (hn : n ≤ 1000000) (t : TypeId) (w : World) (h : w.heap[b]? = some (.cells (suC T d b1 b2 b3) t (0, 0))) :
    Calls Tryd.prog 36 #[.pointer (some ⟨b, 0, none⟩), .int .i64 (n : Int)] w fun e w' => e = .returned (.string (str (Iv.take T d n))) ∧ w'.heap[b]? = some (.cells (suC T (d + n) b1 b2 b3) t (0, 0)) ∧ KeptB b w w' := by
  have hmk := fun wx => run_made n hn wx
  have HH := hid h
  have hbl := (Array.getElem?_eq_some_iff.1 h).1
  have HT := hid hT
  have hsz := str_size T
  clear h hT
  go_enter Tryd.func36, Tryd.ntmps36
  go_upto_region 2 with (fail)
  clear hmk
  have HB0 := hid (show Below w.heap.size w (w.alloc (.cells (ints .u8 (List.replicate n 0)) 5)) from (Below.refl _ _).alloc (Nat.le_refl _) _)
  have HR0 := hid (show Row (w.alloc (.cells (ints .u8 (List.replicate n 0)) 5)) w.heap.size .u8 5 (List.replicate n 0) from heap_alloc_new _ _)
  generalize w.alloc _ = w0 at *
  go_wp2
  go_loopw [11] (fun i wr => ∃ j : Nat, j ≤ n ∧ i = .int .i64 j ∧ Row wr w.heap.size .u8 5 (Iv.take T d j ++ List.replicate (n - j) 0) ∧ Below w.heap.size w wr)
    (fun i _ => n - (intOf i).toNat)
  case atStart => exact ⟨0, by omega, rfl, by simpa [Iv.take] using HR0.out, HB0.out⟩
  case round =>
    clear HB0 HR0
    obtain ⟨j, hj, rfl, hrow, hbel⟩ := hrel
    have hh : wr.heap[b]? = some (.cells (suC T d b1 b2 b3) t (0, 0)) := (hbel.block b hbl).trans HH.out
    obtain ⟨c0, c1, _, _, _, _⟩ := suC_cells hh
    have HHR := hid hh
    clear hh
    by_cases hlt : j < n
    · obtain ⟨z, hz⟩ : ∃ z, z = (d + j) % T.length := ⟨_, rfl⟩
      have hzl : z < T.length := by rw [hz]; exact Nat.mod_lt _ hT0
      have hze : ((d : Int) + (j : Int)) % (T.length : Int) = (z : Int) := by rw [hz]; simp
      have hzm : ((d : Int) + (j : Int)).tmod (T.length : Int) = (z : Int) := by rw [Int.tmod_eq_emod_of_nonneg (by omega)]; exact hze
      have hx : T.getD z 0 < 256 := getD_lt (by omega) HT.out z
      have hget : ∀ h : z < (str T).size, ((str T)[z].toNat : Int) = ((T.getD z 0 : Nat) : Int) := fun h => by rw [str_get T HT.out z h]
      have hrl : (Iv.take T d j ++ List.replicate (n - j) 0).length = n := by simp [Iv.take_length]; omega
      have HST := hid (show (Iv.take T d j ++ List.replicate (n - j) 0).set j (T.getD z 0) = Iv.take T d (j + 1) ++ List.replicate (n - (j + 1)) 0 from by
        rw [hz, Iv.take_succ, List.set_append_right _ _ (by rw [Iv.take_length]; exact Nat.le_refl _), Iv.take_length, Nat.sub_self, show n - j = (n - (j + 1)) + 1 from by omega, List.replicate_succ, List.set_cons_zero, List.append_assoc]
        rfl)
      have hf := hrow.free j
      have hrw := hrow.cell j (by rw [hrl]; exact hlt)
      have HROW := hid hrow
      have HBEL := hid hbel
      have HZ := hid hz
      clear hrow hbel hz hrl HT
      have hS : (str T).size = T.length := hsz
      have hzs : z < (str T).size := by omega
      have hget' := hget hzs
      generalize T.getD z 0 = x at *
      generalize str T = ST at *
      clear hget
      go_upto_region 5 with (fail)
      refine wp_region_noPanic ?_
      refine wp_region_hd1 20 1 rfl (by kernel_rfl) (by kernel_rfl) (fun _ _ _ _ _ h => h) ?_
      simp only [List.take_succ_cons, List.take_zero, List.drop_succ_cons, List.drop_zero]
      repeat (go_big_quiet_step (fail))
      refine wpQuiet_nil ?_
      intro m
      go_wp2
      refine NoPanic.normal ?_
      go_wp2
      have hr2 : Row ((wr.drewN m).setCell ⟨w.heap.size, j, none⟩ (.int .u8 (x : Int))) w.heap.size .u8 5 (Iv.take T d (j + 1) ++ List.replicate (n - (j + 1)) 0) := by
        rw [← HST.out]
        exact Row.set (w := wr.drewN m) HROW.out j x
      have hb2 : Below w.heap.size w ((wr.drewN m).setCell ⟨w.heap.size, j, none⟩ (.int .u8 (x : Int))) :=
        (HBEL.out.trans (show Below w.heap.size wr (wr.drewN m) from ⟨rfl, rfl, rfl, Nat.le_refl _, fun _ _ => rfl⟩)).setCell (p := ⟨w.heap.size, j, none⟩) (Nat.le_refl _) _
      exact ⟨⟨j + 1, by omega, by go_num, hr2, hb2⟩, by simp [intOf]; omega⟩
    · obtain rfl : j = n := by omega
      rw [Nat.sub_self, List.replicate_zero, List.append_nil] at hrow
      have hwb : w.heap.size ≠ b := by omega
      have hf := frozen_of_row wr b 1 _ _ HHR.out
      have hcv := run_str (wr.setCell ⟨b, 1, none⟩ (.int .i64 ((d : Int) + (j : Int)))) w.heap.size 0 j j 5 (Iv.take T d j) (hrow.set_other _ _ hwb) (by rw [Iv.take_length]; omega)
      rw [List.drop_zero, List.take_of_length_le (by rw [Iv.take_length]; exact Nat.le_refl _)] at hcv
      have HBEL := hid hbel
      have HE := hid (heap_setCell_same wr b 1 _ _ (.int .i64 ((d : Int) + (j : Int))) HHR.out)
      clear hbel hrow HT
      go_wp2
      go_ret
      refine ⟨rfl, ?_, ?_⟩
      · rw [HE.out]; rfl
      · exact (KeptB.of_below HBEL.out).trans (KeptB.setCell (KeptB.refl b wr) _)
end Go.Proofs.YtnhecallffkedabDoor
