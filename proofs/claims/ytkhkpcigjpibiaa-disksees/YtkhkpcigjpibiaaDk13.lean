/-
  Layer 9: New.
-/
import Derived.Test.YtkhkpcigjpibiaaDk12
namespace Go.Proofs.Ytkhkpcigjpibiaa
open Go.ChangeShapes Go.WideShapes Go.ChangeAt Go.RowKit Go.Shelf
open Go.Conc
open Go.Lib (hid)

attribute [local go_sem] Oper.semAt_some

theorem infoS1 : (Try.prog.info? 9).map (·.size) = some 1 := by kernel_rfl
def rpC (z : ByteArray) (k n : Nat) : List Value := List.replicate k (.string z) ++ List.replicate (n - k) (.string ByteArray.empty)
theorem rpC_length (z : ByteArray) (k n : Nat) (h : k ≤ n) : (rpC z k n).length = n := by simp [rpC]; omega
theorem rpC_copy (z : ByteArray) (k n m : Nat) (h : k + m ≤ n) : (rpC z k n).take k ++ (List.replicate m (.string z) ++ (rpC z k n).drop (k + m)) = rpC z (k + m) n := by
  unfold rpC
  rw [List.take_append_of_le_length (by simp), List.take_of_length_le (by simp), List.drop_append, List.drop_of_length_le (by simp), List.nil_append, List.drop_replicate, ← List.append_assoc, List.replicate_append_replicate]
  congr 2
  simp
  omega
theorem run_mkS (w : World) (n : Nat) (hn : n ≤ 1000000) :
    (Instr.makeSlice 26 (.int .i64 (n : Int)) (.int .i64 (n : Int))).run Try.prog w = .ok (.slice (some ⟨w.heap.size, 0, none⟩) n n) (w.alloc (.cells (List.replicate n (.string ByteArray.empty)).toArray 9)) := by
  obtain ⟨i, hi, hz0, hz1, hz2⟩ := info_parts infoS
  have h := run_make (P := Try.prog) w 26 9 i (.string ByteArray.empty) Try.underlying26 hi hz0 .i64 .i64 n n (by omega) (by omega) (by rw [hz2]; omega) (by omega)
  rw [h, hz1]
  have e : madeCells (Value.string ByteArray.empty).cells (n * 1) = (List.replicate n (.string ByteArray.empty)).toArray := by
    apply Array.ext
    · simp [madeCells]
    · intro i h1 h2
      simp [madeCells, Value.cells, Nat.mod_one]
  simp only [Int.toNat_natCast, e]
set_option maxHeartbeats 1000000 in
set_option maxRecDepth 100000 in
theorem repeat_any (hmul : ∀ (x y : Nat) (w : World), x < 18446744073709551616 → y < 18446744073709551616 → Calls Try.prog 54 #[.int .u64 x, .int .u64 y] w fun e w' => e = .returned (.tuple #[.int .u64 ((x * y / 18446744073709551616 : Nat) : Int), .int .u64 ((x * y % 18446744073709551616 : Nat) : Int)]) ∧ w' = w)
    (w : World) (g cap n : Nat) (z : ByteArray) (h : TRow w g [z]) (hn : 0 < n) (hn2 : n ≤ 4096) :
    Calls Try.prog 33 #[.slice (some ⟨g, 0, none⟩) 1 cap, .int .i64 (n : Int)] w fun e w' => ∃ v, e = .returned v ∧ TSl w' v w.heap.size (List.replicate n z) ∧ Below w.heap.size w w' := by
  go_enter Try.func33, Try.ntmps33
  have hnn : (n : Int) ≤ 4096 := by omega
  have hm := hmul 1 n w (by decide) (by omega)
  rw [show 1 * n / 18446744073709551616 = 0 from by omega, show 1 * n % 18446744073709551616 = n from by omega] at hm
  have hmk := fun (w : World) => run_mkS w n (by omega)
  have hb1 : Below w.heap.size w (w.alloc (.cells (List.replicate n (.string ByteArray.empty)).toArray 9)) := (Below.refl _ w).alloc (Nat.le_refl _) _
  have hz1 := h.at (hb1.block g h.lt)
  have hn1 := heap_alloc_new w (.cells (List.replicate n (.string ByteArray.empty)).toArray 9)
  have HB1 := hid hb1
  have HZ1 := hid hz1
  have HN1 := hid hn1
  clear hb1 hz1 hn1
  go_upto_region 7 with (go_at_call 54; refine hm.mono ?_; rintro e w1 ⟨rfl, hw1⟩; subst hw1)
  refine wp_region_to ?_
  refine listTo_wp (pre := [_, _]) (post := [_, _]) ?_
  go_wp2
  refine listTo_of ?_
  have hrow1 : (w1.alloc (.cells (Array.replicate n (.string ByteArray.empty)) 9)).heap[w1.heap.size]? = some (.cells (rpC z 0 n).toArray 9 (0, 0)) := by
    rw [heap_alloc_new]; simp [rpC]
  have hbl1 : Below w1.heap.size w1 (w1.alloc (.cells (Array.replicate n (.string ByteArray.empty)) 9)) := (Below.refl _ _).alloc (Nat.le_refl _) _
  have hz : TRow (w1.alloc (.cells (Array.replicate n (.string ByteArray.empty)) 9)) g [z] := h.at (hbl1.block g h.lt)
  generalize w1.alloc (.cells (Array.replicate n (.string ByteArray.empty)) 9) = w2 at *
  have e1 : (rpC z 0 n).take 0 ++ ([Value.string z] ++ (rpC z 0 n).drop (0 + 1)) = rpC z 1 n := by
    have := rpC_copy z 0 n 1 (by omega)
    simpa using this
  refine wpList_copy_own rfl _ _ 26 26 rfl 9 Try.underlying26 infoS1 w1.heap.size 0 n n ⟨g, 0, none⟩ 1 cap rfl rfl _ 9 hrow1 [.string z] (show [Value.string z].length = Nat.min 1 n from (Nat.min_eq_left (show 1 ≤ n by omega)).symm) (fun j v hj => hz.news j v (by simpa using hj)) (by rw [List.size_toArray, rpC_length _ _ _ (by omega)]; simp; omega) (by simp [Value.oneCell']) ?_
  rw [show (List.take 0 (rpC z 0 n).toArray.toList ++ ([Value.string z] ++ List.drop (0 + [Value.string z].length) (rpC z 0 n).toArray.toList)) = rpC z 1 n from e1]
  have hb3 : Below w1.heap.size w1 (w2.setRow w1.heap.size (rpC z 1 n).toArray) := below_setRow hbl1 (Nat.le_refl _) _
  have hr3 : (w2.setRow w1.heap.size (rpC z 1 n).toArray).heap[w1.heap.size]? = some (.cells (rpC z 1 n).toArray 9 (0, 0)) := setRow_heap _ _ _ _ _ _ hrow1
  generalize w2.setRow _ _ = w3 at *
  have HB3 := hid hb3
  have HR3 := hid hr3
  clear hb3 hr3 hrow1 hbl1 hz e1 HZ1 HN1 HB1 hm hmk
  go_wp2
  go_loopw [8] (fun i wr => ∃ k : Nat, 0 < k ∧ k ≤ n ∧ i = .int .i64 (k : Nat) ∧ wr.heap[w1.heap.size]? = some (.cells (rpC z k n).toArray 9 (0, 0)) ∧ Below w1.heap.size w1 wr)
    (fun i _ => ((n : Int) - intOf i).toNat)
  case atStart => exact ⟨1, by omega, by omega, rfl, HR3.out, HB3.out⟩
  case round =>
    obtain ⟨k, hk0, hkn, rfl, hr, hb⟩ := hrel
    have HR := hid hr
    have HB := hid hb
    clear hr hb
    by_cases hlt : k < n
    · have g1 : (k : Int) < n := by omega
      go_upto_region 9 with (fail)
      refine wp_region_noPanic ?_
      refine wp_region_f1 6 3 rfl (by kernel_rfl) (by kernel_rfl) (fun _ _ _ _ _ h => h) ?_
      intro hneW
      repeat (go_big_quiet_step (fail))
      refine wpQuiet_nil ?_
      simp only [List.take_succ_cons, List.take_zero, List.drop_succ_cons, List.drop_zero]
      repeat (go_big_quiet_step (fail))
      refine wpQuiet_nil ?_
      intro m
      obtain ⟨q, hq⟩ : ∃ q, q = Nat.min k (n - k) := ⟨_, rfl⟩
      have hq1 : q ≤ k ∧ q ≤ n - k ∧ 0 < q := by
        have h1 : q ≤ k := by rw [hq]; exact Nat.min_le_left _ _
        have h2 : q ≤ n - k := by rw [hq]; exact Nat.min_le_right _ _
        have h3 : 0 < q := by rw [hq]; exact Nat.lt_min.2 ⟨hk0, by omega⟩
        exact ⟨h1, h2, h3⟩
      have hrm : (wr.drewN m).heap[w1.heap.size]? = some (.cells (rpC z k n).toArray 9 (0, 0)) := HR.out
      have hbm : Below w1.heap.size w1 (wr.drewN m) := ⟨HB.out.os, HB.out.tape, HB.out.output, HB.out.size, HB.out.block⟩
      generalize wr.drewN m = w5 at *
      refine wpList_copy_own rfl _ _ 26 26 rfl 9 Try.underlying26 infoS1 w1.heap.size k (n - k) (n - k) ⟨w1.heap.size, 0, none⟩ k n rfl rfl _ 9 hrm (List.replicate q (.string z)) (by rw [List.length_replicate, hq]) (fun j v hj => ?_) (by rw [List.size_toArray, rpC_length _ _ _ (by omega), List.length_replicate]; omega) (fun v hv => by rw [List.mem_replicate] at hv; rw [hv.2]; rfl) ?_
      · have hjq : j < q := by simpa using (List.getElem?_eq_some_iff.1 hj).1
        rw [Addr.add_lit, Nat.zero_add, cell_of_row _ _ _ _ _ _ hrm, List.getElem?_toArray, ← hj]
        unfold rpC
        rw [List.getElem?_append_left (by simp; omega), List.getElem?_replicate, List.getElem?_replicate, if_pos (by omega), if_pos hjq]
      · have e2 := rpC_copy z k n q (by omega)
        rw [List.length_replicate]
        rw [show (List.take k (rpC z k n).toArray.toList ++ (List.replicate q (.string z) ++ List.drop (k + q) (rpC z k n).toArray.toList)) = rpC z (k + q) n from e2]
        have hr6 : (w5.setRow w1.heap.size (rpC z (k + q) n).toArray).heap[w1.heap.size]? = some (.cells (rpC z (k + q) n).toArray 9 (0, 0)) := setRow_heap _ _ _ _ _ _ hrm
        have hb6 : Below w1.heap.size w1 (w5.setRow w1.heap.size (rpC z (k + q) n).toArray) := below_setRow hbm (Nat.le_refl _) _
        generalize w5.setRow _ _ = w6 at *
        have HR6 := hid hr6
        have HB6 := hid hb6
        have hqn : (q : Int) ≤ 4096 := by omega
        have hq0 : (0 : Int) ≤ (q : Int) := by omega
        clear hr6 hb6 hrm hbm
        go_wp2
        refine NoPanic.normal ?_
        go_wp2
        refine ⟨⟨k + q, by omega, by omega, congrArg (Value.int .i64) (by omega), HR6.out, HB6.out⟩, ?_⟩
        simp only [intOf]
        omega
    · obtain rfl : k = n := by omega
      go_wp2
      refine bodyPost_ret (results_tmp rfl _ _ _) rfl ⟨_, rfl, ?_, HB.out⟩
      refine ⟨w1.heap.size, k, by simp, Nat.le_refl _, [], ?_⟩
      rw [HR.out]
      simp [rpC]
end Go.Proofs.Ytkhkpcigjpibiaa
