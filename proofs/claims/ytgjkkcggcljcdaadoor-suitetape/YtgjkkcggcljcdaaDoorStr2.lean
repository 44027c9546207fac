/-
  Layer 3: what (numbers).round, bytes, stream.start and Block do.
-/
import Derived.Test.YtgjkkcggcljcdaaDoorStr1
namespace Go.Proofs.YtgjkkcggcljcdaaDoor
open Go.RowKit
open Go.Lib (hid)

namespace Cx
def flat : List Nat := quarters.flatten
end Cx
/-- The table of the quarter rounds lies in memory. -/
def TabQ (w : World) : Prop := w.rangeAt 0 0 (ints .i64 Cx.flat).toList
theorem TabQ.lt {w : World} (h : TabQ w) : 0 < w.heap.size :=
  block_lt_of_cell (h 0 (.int .i64 0) rfl)
theorem TabQ.below {w w' : World} {B : Nat} (h : TabQ w) (hb : Below B w w') (hB : w.heap.size ≤ B) : TabQ w' := by
  intro j v hj
  rw [hb.cell (p := ⟨0, 0 + j, none⟩) (Nat.lt_of_lt_of_le h.lt hB)]; exact h j v hj
theorem TabQ.keptB {w w' : World} {b : Nat} (h : TabQ w) (hk : KeptB b w w') (hb : 0 ≠ b) : TabQ w' := by
  intro j v hj
  rw [← h j v hj]
  exact World.cell?_of_block (w := w) (hk.block 0 h.lt hb)
theorem index_q (k : Nat) (hk : k < 8) (wx : World) : (Instr.index 152 (.agg (ints .i64 Cx.flat)) (.int .i64 (k : Int))).run Tryd.prog wx = .ok (.agg (ints .i64 (Cx.quarters.getD k []))) wx := by
  obtain rfl | rfl | rfl | rfl | rfl | rfl | rfl | rfl : k = 0 ∨ k = 1 ∨ k = 2 ∨ k = 3 ∨ k = 4 ∨ k = 5 ∨ k = 6 ∨ k = 7 := by omega
  all_goals kernel_rfl
theorem quarters_ok (k : Nat) (hk : k < 8) : (Cx.quarters.getD k []).length = 4 ∧ (Cx.quarters.getD k []).getD 0 0 < 16 ∧ (Cx.quarters.getD k []).getD 1 0 < 16 ∧ (Cx.quarters.getD k []).getD 2 0 < 16 ∧ (Cx.quarters.getD k []).getD 3 0 < 16 := by
  revert k
  decide
theorem info90 : (Tryd.prog.info? 151).map (·.size) = some 4 := by kernel_rfl
theorem info91 : (Tryd.prog.info? 152).map (·.size) = some 32 := by kernel_rfl

set_option maxHeartbeats 1000000 in
set_option maxRecDepth 100000 in
theorem round_any (b : Nat) (x : List Nat) (hx : Cx.Ok x) (hl : x.length = 16) (w : World) (hT : TabQ w) (ty : TypeId) (hr : Row w b .u32 ty x) :
    Calls Tryd.prog 68 #[.pointer (some ⟨b, 0, none⟩)] w
      fun e w' => e = .returned (.tuple #[]) ∧ Row w' b .u32 ty (Cx.round x) ∧ KeptB b w w' := by
  have HR := hid hr
  have HX := hid hx
  have hrg : w.rangeAt 0 0 (ints .i64 Cx.flat).toList := hT
  have HRG := hid hrg
  have HIX := hid index_q
  clear hr hx hT hrg
  go_enter Tryd.func68, Tryd.ntmps68
  go_wp2_with (refine wpList_load_mid rfl _ _ rfl 0 0 rfl _ _ HRG.out Tryd.underlying152 rfl (by rw [ints_llen]; exact info91) ?_; rw [Array.toArray_toList])
  generalize ints .i64 Cx.flat = F at *
  clear HRG
  go_loopw [5] (fun i wr => ∃ k : Nat, k ≤ 8 ∧ i = .int .i64 k ∧ Row wr b .u32 ty (Cx.part x k) ∧ KeptB b w wr)
    (fun i _ => 8 - (intOf i).toNat)
  case atStart => exact ⟨0, by omega, rfl, HR.out, KeptB.refl _ _⟩
  case round =>
    obtain ⟨k, hk, rfl, hrow, hkept⟩ := hrel
    by_cases hlt : k < 8
    · have hi := fun wx => HIX.out k hlt wx
      obtain ⟨q4, q0, q1, q2, q3⟩ := quarters_ok k hlt
      have HPS := hid (Cx.part_succ x k hlt)
      generalize Cx.quarters.getD k [] = q at *
      have HQ4 := hid q4
      have hlp := Cx.part_length x k
      have HOP := hid (HX.out.part k)
      have hlt2 := hrow.lt
      have HROW := hid hrow
      have HK := hid hkept
      clear hrow hkept
      go_upto_region 3 with (refine wpList_store_row rfl _ _ _ rfl _ _ rfl rfl _ _ (heap_alloc_new _ _) (by rw [ints_size, HQ4.out]; exact info90) (by rw [ints_size, HQ4.out]; rfl) (ints_one _ _) ?_)
      rw [World.setRow_alloc_new]
      have rq : Row (wr.alloc (.cells (ints .i64 q) 151)) wr.heap.size .i64 151 q := heap_alloc_new _ _
      have c0 := rq.cell 0 (by omega)
      have c1 := rq.cell 1 (by omega)
      have c2 := rq.cell 2 (by omega)
      have c3 := rq.cell 3 (by omega)
      have HR2 := hid (HROW.out.alloc (.cells (ints .i64 q) 151))
      have HK2 := hid (HK.out.trans (KeptB.of_below ((Below.refl wr.heap.size wr).alloc (Nat.le_refl _) (.cells (ints .i64 q) 151))))
      clear rq hi HROW HK
      generalize wr.alloc _ = w2 at *
      generalize wr.heap.size = bq at *
      have HC := hid (quarter_any b (Cx.part x k) _ _ _ _ HOP.out (by rw [hlp]; exact hl) q0 q1 q2 q3 w2 ty HR2.out)
      rw [show Cx.quarter (Cx.part x k) (q.getD 0 0) (q.getD 1 0) (q.getD 2 0) (q.getD 3 0) = Cx.part x (k + 1) from HPS.out.symm] at HC
      generalize q.getD 0 0 = i0 at *
      generalize q.getD 1 0 = i1 at *
      generalize q.getD 2 0 = i2 at *
      generalize q.getD 3 0 = i3 at *
      go_wp2_with fail
      refine HC.out.mono ?_
      rintro e w3 ⟨rfl, r3, k3⟩
      go_wp2_with fail
      go_roundw
      case rel =>
        first
          | exact ⟨k + 1, by omega, by go_num, r3, HK2.out.trans k3⟩
          | ((repeat apply Exists.intro); refine ⟨?_, rfl⟩; exact ⟨k + 1, by omega, by go_num, r3, HK2.out.trans k3⟩)
      case measure => simp [intOf]; omega
    · obtain rfl : k = 8 := by omega
      have HROW := hid hrow
      have HK := hid hkept
      clear hrow hkept
      go_wp2
      go_end0
      exact ⟨rfl, HROW.out, HK.out⟩

namespace Cx
theorem bytes4_length (v : Nat) : (bytes4 v).length = 4 := rfl
theorem out_length (l : List Nat) : (out l).length = 4 * l.length := by
  induction l with
  | nil => rfl
  | cons x l ih => simp only [out, List.flatMap_cons, List.length_append, List.length_cons, bytes4_length] at *; omega
theorem bytes4_get (v j : Nat) (hj : j < 4) : (bytes4 v).getD j 0 = v / 2 ^ (8 * j) % 256 := by
  obtain rfl | rfl | rfl | rfl : j = 0 ∨ j = 1 ∨ j = 2 ∨ j = 3 := by omega
  all_goals simp [bytes4]
/-- The first 4 i + j bytes laid, noughts behind them. -/
def outP (l : List Nat) (i j : Nat) : List Nat := out (l.take i) ++ (bytes4 (l.getD i 0)).take j ++ List.replicate (64 - (4 * i + j)) 0
theorem outP_length (l : List Nat) (hl : l.length = 16) (i j : Nat) (hi : i < 16) (hj : j ≤ 4) : (outP l i j).length = 64 := by
  simp [outP, out_length, bytes4_length]; omega
theorem lay_set (A B : List Nat) (j n : Nat) (hj : j < B.length) (hn : j < n) :
    (A ++ B.take j ++ List.replicate (n - j) 0).set (A.length + j) (B.getD j 0) = A ++ B.take (j + 1) ++ List.replicate (n - (j + 1)) 0 := by
  have h1 : (A ++ B.take j).length = A.length + j := by simp; omega
  rw [List.set_append_right _ _ (by omega), h1, Nat.sub_self, show n - j = (n - (j + 1)) + 1 from by omega, List.replicate_succ, List.set_cons_zero, ← take_getD_succ B j hj]
  simp
theorem outT_length (l : List Nat) (hl : l.length = 16) (i : Nat) (hi : i ≤ 16) : (out (l.take i)).length = 4 * i := by
  rw [out_length, List.length_take]; omega
theorem out_next (l : List Nat) (i : Nat) (hi : i < l.length) : out (l.take i) ++ bytes4 (l.getD i 0) = out (l.take (i + 1)) := by
  rw [← take_getD_succ l i hi]
  simp [out, List.flatMap_append]
theorem outP_set (l : List Nat) (hl : l.length = 16) (i j : Nat) (hi : i < 16) (hj : j < 4) :
    (outP l i j).set (4 * i + j) (l.getD i 0 / 2 ^ (8 * j) % 256) = outP l i (j + 1) := by
  have h := lay_set (out (l.take i)) (bytes4 (l.getD i 0)) j (64 - 4 * i) (by rw [bytes4_length]; exact hj) (by omega)
  rw [outT_length l hl i (by omega), bytes4_get _ _ hj, show 64 - 4 * i - j = 64 - (4 * i + j) from by omega, show 64 - 4 * i - (j + 1) = 64 - (4 * i + (j + 1)) from by omega] at h
  exact h
theorem outP_four (l : List Nat) (hl : l.length = 16) (i : Nat) (hi : i < 16) : outP l i 4 = out (l.take (i + 1)) ++ List.replicate (64 - (4 * i + 4)) 0 := by
  unfold outP
  rw [show (bytes4 (l.getD i 0)).take 4 = bytes4 (l.getD i 0) from rfl, out_next l i (by omega)]
theorem outP_next (l : List Nat) (hl : l.length = 16) (i : Nat) (hi : i + 1 < 16) : outP l i 4 = outP l (i + 1) 0 := by
  rw [outP_four l hl i (by omega)]
  unfold outP
  rw [List.take_zero, List.append_nil, show 64 - (4 * (i + 1) + 0) = 64 - (4 * i + 4) from by omega]
theorem outP_end (l : List Nat) (hl : l.length = 16) : outP l 15 4 = out l := by
  rw [outP_four l hl 15 (by omega), List.take_of_length_le (by omega)]
  simp
/-- Behind i whole numbers. -/
def outI (l : List Nat) (i : Nat) : List Nat := if i < 16 then outP l i 0 else out l
theorem outI_next (l : List Nat) (hl : l.length = 16) (i : Nat) (hi : i < 16) : outP l i 4 = outI l (i + 1) := by
  unfold outI
  by_cases h : i + 1 < 16
  · rw [if_pos h, outP_next l hl i h]
  · obtain rfl : i = 15 := by omega
    rw [if_neg h, outP_end l hl]
end Cx
theorem info31 : (Tryd.prog.info? 100).map (·.size) = some 64 := by kernel_rfl

set_option maxRecDepth 100000 in
set_option maxHeartbeats 1000000 in
theorem bytes_any (x : List Nat) (hx : Cx.Ok x) (hl : x.length = 16) (w : World) :
    Calls Tryd.prog 69 #[.agg (ints .u32 x)] w fun e w' => e = .returned (.agg (ints .u8 (Cx.out x))) ∧ Below w.heap.size w w' := by
  have hs : (ints .u32 x).size = 16 := by rw [ints_size, hl]
  have HX := hid hx
  clear hx
  go_enter Tryd.func69, Tryd.ntmps69
  go_upto_region 2 with (fail)
  generalize hw0 : (((w.alloc _).alloc _).alloc _) = w0
  have rx : Row w0 w.heap.size .u32 132 x := by rw [← hw0]; unfold Row; rw [heap_alloc3_0]
  have rz : Row w0 (w.heap.size + 1) .u8 100 (List.replicate 64 0) := by rw [← hw0]; unfold Row; rw [heap_alloc3_1]; kernel_rfl
  have ro : Row w0 (w.heap.size + 1 + 1) .u8 100 (List.replicate 64 0) := by rw [← hw0]; unfold Row; rw [heap_alloc3_2]; kernel_rfl
  have hb0 : Below w.heap.size w w0 := by rw [← hw0]; exact (((Below.refl _ _).alloc (Nat.le_refl _) _).alloc (by simp) _).alloc (by simp; omega) _
  clear hw0
  have HRZ := hid rz
  have HRO := hid ro
  have HB0 := hid hb0
  clear rz ro hb0
  go_wp2_with (refine wpList_load_row rfl _ _ rfl w.heap.size rfl _ _ _ _ rx Tryd.underlying132 rfl (by rw [hs]; exact info61) ?_)
  clear rx
  go_loopw [8] (fun i wr => ∃ k : Nat, k ≤ 16 ∧ i = .int .i64 k ∧ Row wr (w.heap.size + 1) .u8 100 (List.replicate 64 0) ∧ Row wr (w.heap.size + 1 + 1) .u8 100 (Cx.outI x k) ∧ Below w.heap.size w wr)
    (fun i _ => 16 - (intOf i).toNat)
  case atStart => exact ⟨0, by omega, rfl, HRZ.out, HRO.out, HB0.out⟩
  case round =>
    clear HRZ HRO HB0
    obtain ⟨k, hk, rfl, rz, ro, hbel⟩ := hrel
    by_cases hlt : k < 16
    · have hi := fun wx => run_index_ints (P := Tryd.prog) wx 132 88 16 .u32 x Tryd.underlying132 Tryd.underlying88 (by kernel_rfl) hl k hlt
      have hv := HX.out.get k
      have ro' : Row wr (w.heap.size + 1 + 1) .u8 100 (Cx.outP x k 0) := by unfold Cx.outI at ro; rwa [if_pos hlt] at ro
      have HNX := hid (Cx.outI_next x hl k hlt)
      have HPL := hid (fun j (hj : j ≤ 4) => Cx.outP_length x hl k j hlt hj)
      have HPS := hid (fun j (hj : j < 4) => Cx.outP_set x hl k j hlt hj)
      have HRZ := hid rz
      have HRO := hid ro'
      have HBL := hid hbel
      clear rz ro ro' hbel
      generalize x.getD k 0 = v at *
      go_upto_region 6 with (fail)
      clear hi
      go_loopw [12] (fun j wq => ∃ n : Nat, n ≤ 4 ∧ j = .int .i64 n ∧ Row wq (w.heap.size + 1) .u8 100 (List.replicate 64 0) ∧ Row wq (w.heap.size + 1 + 1) .u8 100 (Cx.outP x k n) ∧ Below w.heap.size w wq)
        (fun i _ => 4 - (intOf i).toNat)
      case atStart => exact ⟨0, by omega, rfl, HRZ.out, HRO.out, HBL.out⟩
      case round =>
        clear HRZ HRO HBL
        obtain ⟨n, hn, rfl, rz, ro, hbel⟩ := hrel
        by_cases hlt2 : n < 4
        · have hc := ro.cell (4 * k + n) (by rw [HPL.out n hn]; omega)
          have hf := ro.free (4 * k + n)
          have hr' := ro.set (4 * k + n) (v / 2 ^ (8 * n) % 256)
          rw [HPS.out n hlt2] at hr'
          have hz' := rz.set_other ⟨w.heap.size + 1 + 1, 4 * k + n, none⟩ (.int .u8 (v / 2 ^ (8 * n) % 256 : Nat)) (by simp)
          have hb' := hbel.setCell (p := ⟨w.heap.size + 1 + 1, 4 * k + n, none⟩) (by simp; omega) (.int .u8 (v / 2 ^ (8 * n) % 256 : Nat))
          have hsh : (v : Int) / 2 ^ (8 * n) % 256 = ((v / 2 ^ (8 * n) % 256 : Nat) : Int) := by simp
          generalize (Cx.outP x k n).getD (4 * k + n) 0 = old at *
          generalize v / 2 ^ (8 * n) % 256 = z at *
          have HR := hid hr'
          have HZ := hid hz'
          have HB := hid hb'
          clear hr' hz' hb' ro rz hbel
          go_wp2
          go_roundw
          case rel =>
            first
              | exact ⟨n + 1, by omega, by go_num, HZ.out, HR.out, HB.out⟩
              | ((repeat apply Exists.intro); refine ⟨?_, rfl⟩; exact ⟨n + 1, by omega, by go_num, HZ.out, HR.out, HB.out⟩)
          case measure => simp [intOf]; omega
        · obtain rfl : n = 4 := by omega
          rw [HNX.out] at ro
          have HZ := hid rz
          have HR := hid ro
          have HB := hid hbel
          clear rz ro hbel
          rw [show ((4 : Nat) : Int) = 4 from rfl]
          go_wp2
          go_roundw
          case rel =>
            first
              | exact ⟨k + 1, by omega, by go_num, HZ.out, HR.out, HB.out⟩
              | ((repeat apply Exists.intro); refine ⟨?_, rfl⟩; exact ⟨k + 1, by omega, by go_num, HZ.out, HR.out, HB.out⟩)
          case measure => simp [intOf]; omega
    · obtain rfl : k = 16 := by omega
      rw [show Cx.outI x 16 = Cx.out x from rfl] at ro
      have hsz : (ints .u8 (Cx.out x)).size = 64 := by rw [ints_size, Cx.out_length, hl]
      have HSZ := hid hsz
      clear hsz
      rw [show ((16 : Nat) : Int) = 16 from rfl]
      go_wp2_with (first | (refine wpList_load_row rfl _ _ rfl (w.heap.size + 1 + 1) rfl _ _ _ _ ro Tryd.underlying100 rfl (by rw [HSZ.out]; exact info31) ?_) | (refine wpList_store_row rfl _ _ _ rfl (w.heap.size + 1) _ rfl rfl _ _ rz (by rw [HSZ.out]; exact info31) (by rw [HSZ.out, ints_size, List.length_replicate]) (ints_one _ _) ?_))
      exact bodyPost_ret (v := .agg (ints .u8 (Cx.out x)))
        (results_cell_row Tryd.results69 _ _ (w.heap.size + 1) _ _ _ _ rfl (setRow_heap wr (w.heap.size + 1) _ _ _ _ rz) Tryd.underlying100 rfl (by rw [HSZ.out]; exact info31))
        rfl ⟨rfl, below_setRow hbel (Nat.le_succ _) _⟩
end Go.Proofs.YtgjkkcggcljcdaaDoor
