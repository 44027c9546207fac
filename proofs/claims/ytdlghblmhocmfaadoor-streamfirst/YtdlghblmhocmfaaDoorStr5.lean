/-
  Layer 3: what stream.KeyOf and NonceOf return, and the laws' Key, Nonce and awake.
-/
import Derived.Test.YtdlghblmhocmfaaDoorRef3b
namespace Go.Proofs.YtdlghblmhocmfaaDoor
open Go.RowKit
open Go.Lib (hid)

namespace Cx
/-- The first n bytes of a text, extended with noughts. -/
def padL (k : List Nat) (n : Nat) : List Nat := k.take n ++ List.replicate (n - k.length) 0
theorem padL_length (k : List Nat) (n : Nat) : (padL k n).length = n := by simp [padL]; omega
theorem padL_lt (k : List Nat) (n : Nat) (h : ∀ x ∈ k, x < 256) : ∀ x ∈ padL k n, x < 256 := by
  intro x hx
  rcases List.mem_append.1 hx with hx | hx
  · exact h x (List.mem_of_mem_take hx)
  · rw [List.mem_replicate] at hx; omega
end Cx
theorem wpList_copy_pad {w : World} {ops : Array Oper} {rest : List Oper} {o : Oper} {a : Act} {Q : Exit → Act → World → Prop} (hgd : o.guard = none) (d s : Operand)
    (ho : o.op = .call { callee := .builtin .copy, args := #[d, s], argTypes := #[34, 9] })
    (g n : Nat) (t : TypeId) (k : List Nat) (hk : ∀ x ∈ k, x < 256) (hd : a.eval d = .slice (some ⟨g, 0, none⟩) n n) (hs : a.eval s = .string (str k))
    (hrow : Row w g .u8 t (List.replicate n 0))
    (h : wpList Tryd.prog ops Q rest (a.put o.dst (goInt (min k.length n : Nat))) (w.setRow g (ints .u8 (Cx.padL k n)))) : wpList Tryd.prog ops Q (o :: rest) a w := by
  refine wpList_copy_str hgd d s _ _ ho 5 Tryd.underlying34 info5' g 0 n n (str k) hd hs _ t hrow (by rw [ints_size, List.length_replicate]; omega) ?_
  rw [str_size, nums_str k hk, List.take_zero, List.nil_append, Nat.zero_add]
  have e : ((ints .u8 (k.take (min k.length n))).toList ++ (ints .u8 (List.replicate n 0)).toList.drop (min k.length n)).toArray = ints .u8 (Cx.padL k n) := by
    apply Array.toList_inj.1
    have h1 : k.take (min k.length n) = k.take n := by
      by_cases hl : k.length ≤ n
      · rw [Nat.min_eq_left hl, List.take_length, List.take_of_length_le hl]
      · rw [Nat.min_eq_right (by omega)]
    have h2 : n - min k.length n = n - k.length := by omega
    simp only [ints, Cx.padL, List.map_append, List.map_replicate, List.drop_replicate, h1, h2]
  rw [e]
  exact h

set_option maxRecDepth 100000 in
theorem keyof_any (k : List Nat) (hk : ∀ x ∈ k, x < 256) (w : World) :
    Calls Tryd.prog 7 #[.string (str k)] w fun e w' => e = .returned (.agg (ints .u8 (Cx.padL k 32))) ∧ Below w.heap.size w w' := by
  have HK := hid hk
  have hsl := fun wx => slice_all wx 23 5 32 (w.heap.size + 1) Tryd.underlying23 (by decide) info5'
  clear hk
  go_enter Tryd.func7, Tryd.ntmps7
  go_upto_region 2 with (fail)
  generalize hw0 : (w.alloc _).alloc _ = w0 at *
  have rz : Row w0 w.heap.size .u8 23 (List.replicate 32 0) := by rw [← hw0]; unfold Row; rw [heap_alloc2_old]; kernel_rfl
  have rk : Row w0 (w.heap.size + 1) .u8 23 (List.replicate 32 0) := by rw [← hw0]; unfold Row; rw [heap_alloc2_new]; kernel_rfl
  have hb0 : Below w.heap.size w w0 := by rw [← hw0]; exact ((Below.refl _ _).alloc (Nat.le_refl _) _).alloc (by simp) _
  clear hw0
  have rk1 : Row (w0.setRow (w.heap.size + 1) (ints .u8 (Cx.padL k 32))) (w.heap.size + 1) .u8 23 (Cx.padL k 32) := setRow_heap w0 (w.heap.size + 1) _ (ints .u8 (Cx.padL k 32)) _ _ rk
  have rz1 : Row (w0.setRow (w.heap.size + 1) (ints .u8 (Cx.padL k 32))) w.heap.size .u8 23 (List.replicate 32 0) := by unfold Row; rw [setRow_other w0 (w.heap.size + 1) w.heap.size _ (by omega)]; exact rz
  have hb1 := below_setRow hb0 (show w.heap.size ≤ w.heap.size + 1 by omega) (ints .u8 (Cx.padL k 32))
  have HSZ := hid (show (ints .u8 (Cx.padL k 32)).size = 32 from by rw [ints_size, Cx.padL_length])
  have HB1 := hid hb1
  clear hb0 hb1 rz
  go_upto_region 3 with (refine wpList_copy_pad rfl _ _ rfl (w.heap.size + 1) 32 23 k HK.out rfl rfl rk ?_)
  clear rk hsl
  generalize w0.setRow _ _ = w1 at *
  go_wp2_with (first | (refine wpList_load_row rfl _ _ rfl (w.heap.size + 1) rfl _ _ _ _ rk1 Tryd.underlying23 rfl (by rw [HSZ.out]; exact info23) ?_) | (refine wpList_store_row rfl _ _ _ rfl w.heap.size _ rfl rfl _ _ rz1 (by rw [HSZ.out]; exact info23) (by rw [HSZ.out, ints_size, List.length_replicate]) (ints_one _ _) ?_))
  exact bodyPost_ret (v := .agg (ints .u8 (Cx.padL k 32)))
    (results_cell_row Tryd.results7 _ _ w.heap.size _ _ _ _ rfl (setRow_heap w1 w.heap.size _ _ _ _ rz1) Tryd.underlying23 rfl (by rw [HSZ.out]; exact info23))
    rfl ⟨rfl, below_setRow HB1.out (Nat.le_refl _) _⟩

set_option maxRecDepth 100000 in
theorem nonceof_any (k : List Nat) (hk : ∀ x ∈ k, x < 256) (w : World) :
    Calls Tryd.prog 8 #[.string (str k)] w fun e w' => e = .returned (.agg (ints .u8 (Cx.padL k 12))) ∧ Below w.heap.size w w' := by
  have HK := hid hk
  have hsl := fun wx => slice_all wx 26 5 12 (w.heap.size + 1) Tryd.underlying26 (by decide) info5'
  clear hk
  go_enter Tryd.func8, Tryd.ntmps8
  go_upto_region 2 with (fail)
  generalize hw0 : (w.alloc _).alloc _ = w0 at *
  have rz : Row w0 w.heap.size .u8 26 (List.replicate 12 0) := by rw [← hw0]; unfold Row; rw [heap_alloc2_old]; kernel_rfl
  have rk : Row w0 (w.heap.size + 1) .u8 26 (List.replicate 12 0) := by rw [← hw0]; unfold Row; rw [heap_alloc2_new]; kernel_rfl
  have hb0 : Below w.heap.size w w0 := by rw [← hw0]; exact ((Below.refl _ _).alloc (Nat.le_refl _) _).alloc (by simp) _
  clear hw0
  have rk1 : Row (w0.setRow (w.heap.size + 1) (ints .u8 (Cx.padL k 12))) (w.heap.size + 1) .u8 26 (Cx.padL k 12) := setRow_heap w0 (w.heap.size + 1) _ (ints .u8 (Cx.padL k 12)) _ _ rk
  have rz1 : Row (w0.setRow (w.heap.size + 1) (ints .u8 (Cx.padL k 12))) w.heap.size .u8 26 (List.replicate 12 0) := by unfold Row; rw [setRow_other w0 (w.heap.size + 1) w.heap.size _ (by omega)]; exact rz
  have hb1 := below_setRow hb0 (show w.heap.size ≤ w.heap.size + 1 by omega) (ints .u8 (Cx.padL k 12))
  have HSZ := hid (show (ints .u8 (Cx.padL k 12)).size = 12 from by rw [ints_size, Cx.padL_length])
  have HB1 := hid hb1
  clear hb0 hb1 rz
  go_upto_region 3 with (refine wpList_copy_pad rfl _ _ rfl (w.heap.size + 1) 12 26 k HK.out rfl rfl rk ?_)
  clear rk hsl
  generalize w0.setRow _ _ = w1 at *
  go_wp2_with (first | (refine wpList_load_row rfl _ _ rfl (w.heap.size + 1) rfl _ _ _ _ rk1 Tryd.underlying26 rfl (by rw [HSZ.out]; exact info26) ?_) | (refine wpList_store_row rfl _ _ _ rfl w.heap.size _ rfl rfl _ _ rz1 (by rw [HSZ.out]; exact info26) (by rw [HSZ.out, ints_size, List.length_replicate]) (ints_one _ _) ?_))
  exact bodyPost_ret (v := .agg (ints .u8 (Cx.padL k 12)))
    (results_cell_row Tryd.results8 _ _ w.heap.size _ _ _ _ rfl (setRow_heap w1 w.heap.size _ _ _ _ rz1) Tryd.underlying26 rfl (by rw [HSZ.out]; exact info26))
    rfl ⟨rfl, below_setRow HB1.out (Nat.le_refl _) _⟩

theorem awake_blk : (Cx.block (Cx.padL (List.range 32) 32) 1 (Cx.padL [0, 0, 0, 9, 0, 0, 0, 74, 0, 0, 0, 0] 12)).getD 0 0 = 16 ∧ (Cx.block (Cx.padL (List.range 32) 32) 1 (Cx.padL [0, 0, 0, 9, 0, 0, 0, 74, 0, 0, 0, 0] 12)).getD 1 0 = 241 ∧ (Cx.block (Cx.padL (List.range 32) 32) 1 (Cx.padL [0, 0, 0, 9, 0, 0, 0, 74, 0, 0, 0, 0] 12)).getD 2 0 = 231 ∧ (Cx.block (Cx.padL (List.range 32) 32) 1 (Cx.padL [0, 0, 0, 9, 0, 0, 0, 74, 0, 0, 0, 0] 12)).getD 7 0 = 21 ∧ (Cx.block (Cx.padL (List.range 32) 32) 1 (Cx.padL [0, 0, 0, 9, 0, 0, 0, 74, 0, 0, 0, 0] 12)).getD 63 0 = 78 := by decide +kernel

set_option maxHeartbeats 1000000 in
set_option maxRecDepth 100000 in
theorem awake3_any (w : World) (hT : TabQ w) :
    Calls Tryd.prog 4 #[] w fun e w' => e = .returned (.bool true) ∧ Below w.heap.size w w' := by
  have HT := hid hT
  have HR32 := hid (show ∀ x ∈ List.range 32, x < 256 from by intro x hx; rw [List.mem_range] at hx; omega)
  have HKO := hid (fun wx => keyof_any (List.range 32) HR32.out wx)
  have HNO := hid (fun wx => nonceof_any [0, 0, 0, 9, 0, 0, 0, 74, 0, 0, 0, 0] (by decide) wx)
  rw [show str [0, 0, 0, 9, 0, 0, 0, 74, 0, 0, 0, 0] = (⟨#[0, 0, 0, 9, 0, 0, 0, 74, 0, 0, 0, 0]⟩ : ByteArray) from rfl] at HNO
  have HBA := hid (fun wx hx => block_any (Cx.padL (List.range 32) 32) (Cx.padL [0, 0, 0, 9, 0, 0, 0, 74, 0, 0, 0, 0] 12) 1 (Cx.padL_lt _ _ HR32.out) (Cx.padL_length _ _) (Cx.padL_lt _ _ (by decide)) (Cx.padL_length _ _) (by decide) wx hx)
  have HBL := hid (Cx.block_length (Cx.padL (List.range 32) 32) 1 (Cx.padL [0, 0, 0, 9, 0, 0, 0, 74, 0, 0, 0, 0] 12))
  obtain ⟨b0, b1, b2, b7, b63⟩ := awake_blk
  generalize Cx.block (Cx.padL (List.range 32) 32) 1 (Cx.padL [0, 0, 0, 9, 0, 0, 0, 74, 0, 0, 0, 0] 12) = blk at *
  generalize Cx.padL (List.range 32) 32 = pk at *
  generalize Cx.padL [0, 0, 0, 9, 0, 0, 0, 74, 0, 0, 0, 0] 12 = pn at *
  clear hT
  have B0 := hid b0
  have B1 := hid b1
  have B2 := hid b2
  have B7 := hid b7
  have B63 := hid b63
  clear b0 b1 b2 b7 b63
  go_enter Tryd.func4, Tryd.ntmps4
  go_upto_region 3 with (fail)
  go_loopw [1, 4] (fun s i wr => ∃ k : Nat, k ≤ 32 ∧ i = .int .i64 k ∧ s = .string (str (List.range k)) ∧ Below w.heap.size w wr)
    (fun _ i _ => 32 - (intOf i).toNat)
  case atStart => exact ⟨0, by omega, rfl, rfl, Below.refl _ _⟩
  case round =>
    obtain ⟨k, hk, rfl, rfl, hbel⟩ := hrel
    by_cases hlt : k < 32
    · have HN := hid (show str (List.range k) ++ str [k] = str (List.range (k + 1)) from by rw [str_append, List.range_succ])
      have hz1 : (str (List.range k)).size = k := by rw [str_size, List.length_range]
      have hc := fun wx : World => one_str wx k
      have hz2 : (str [k]).size = 1 := rfl
      have HBEL := hid hbel
      have hsz := hbel.size
      clear hbel
      generalize str (List.range k) = S1 at *
      generalize str [k] = S2 at *
      go_wp2_with fail
      go_roundw
      case rel =>
        first
          | exact ⟨k + 1, by omega, by go_num, by rw [HN.out], HBEL.out.alloc hsz _⟩
          | ((repeat apply Exists.intro); refine ⟨?_, rfl⟩; exact ⟨k + 1, by omega, by go_num, by rw [HN.out], HBEL.out.alloc hsz _⟩)
      case measure => simp [intOf]; omega
    · obtain rfl : k = 32 := by omega
      have HBEL := hid hbel
      clear hbel
      generalize str (List.range 32) = S1 at *
      rw [show ((32 : Nat) : Int) = 32 from rfl]
      go_wp2_with fail
      refine (HKO.out _).mono ?_
      rintro e w1 ⟨rfl, hb1⟩
      go_wp2_with fail
      refine (HNO.out _).mono ?_
      rintro e w2 ⟨rfl, hb2⟩
      have HB2 := hid ((HBEL.out.next (Nat.le_refl _) hb1).next (Nat.le_refl _) hb2)
      clear hb1 hb2
      go_wp2_with fail
      refine (HBA.out _ (HT.out.below HB2.out (Nat.le_refl _))).mono ?_
      rintro e w3 ⟨rfl, hb3⟩
      go_upto_region 8 with (refine wpList_store_row rfl _ _ _ rfl _ _ rfl rfl _ _ (heap_alloc_new _ _) (by rw [ints_size, HBL.out]; exact info31) (by rw [ints_size, HBL.out]; rfl) (ints_one _ _) ?_)
      rw [World.setRow_alloc_new]
      have rb : Row (w3.alloc (.cells (ints .u8 blk) 31)) w3.heap.size .u8 31 blk := heap_alloc_new _ _
      have c0 := rb.cell 0 (by rw [HBL.out]; omega)
      have c1 := rb.cell 1 (by rw [HBL.out]; omega)
      have c2 := rb.cell 2 (by rw [HBL.out]; omega)
      have c7 := rb.cell 7 (by rw [HBL.out]; omega)
      have c63 := rb.cell 63 (by rw [HBL.out]; omega)
      rw [B0.out] at c0
      rw [B1.out] at c1
      rw [B2.out] at c2
      rw [B7.out] at c7
      rw [B63.out] at c63
      have HB4 := hid ((HB2.out.next (Nat.le_refl _) hb3).next (Nat.le_refl _) ((Below.refl w3.heap.size w3).alloc (Nat.le_refl _) (.cells (ints .u8 blk) 31)))
      clear rb
      generalize w3.alloc _ = w4 at *
      generalize w3.heap.size = bb at *
      go_wp2_with fail
      go_ret
      exact ⟨rfl, HB4.out⟩
end Go.Proofs.YtdlghblmhocmfaaDoor
