/-
  Layer 3: what stream.KeyOf and NonceOf return, and the laws' Key, Nonce and awake.
-/
import Derived.Test.YtgjkkcggcljcdaaDoorRef3b
namespace Go.Proofs.YtgjkkcggcljcdaaDoor
open Go.RowKit
open Go.Lib (hid)

namespace Cx
/-- The first n bytes of a text, extended with noughts. -/
def padL (k : List Nat) (n : Nat) : List Nat := k.take n ++ List.replicate (n - k.length) 0
theorem padL_length (k : List Nat) (n : Nat) : (padL k n).length = n := by simp [padL]; omega
theorem padL_lt (k : List Nat) (n : Nat) (h : ∀ x ∈ k, x < 256) : ∀ x ∈ padL k n, x < 256 := by
  intro x hx
  rcases List.mem_append.1 hx with hx | hx
  · exact h x (List.mem_of_mem_take hx)
  · rw [List.mem_replicate] at hx; omega
end Cx
theorem wpList_copy_pad {w : World} {ops : Array Oper} {rest : List Oper} {o : Oper} {a : Act} {Q : Exit → Act → World → Prop} (hgd : o.guard = none) (d s : Operand)
    (ho : o.op = .call { callee := .builtin .copy, args := #[d, s], argTypes := #[46, 9] })
    (g n : Nat) (t : TypeId) (k : List Nat) (hk : ∀ x ∈ k, x < 256) (hd : a.eval d = .slice (some ⟨g, 0, none⟩) n n) (hs : a.eval s = .string (str k))
    (hrow : Row w g .u8 t (List.replicate n 0))
    (h : wpList Tryd.prog ops Q rest (a.put o.dst (goInt (min k.length n : Nat))) (w.setRow g (ints .u8 (Cx.padL k n)))) : wpList Tryd.prog ops Q (o :: rest) a w := by
  refine wpList_copy_str hgd d s _ _ ho 5 Tryd.underlying46 info5' g 0 n n (str k) hd hs _ t hrow (by rw [ints_size, List.length_replicate]; omega) ?_
  rw [str_size, nums_str k hk, List.take_zero, List.nil_append, Nat.zero_add]
  have e : ((ints .u8 (k.take (min k.length n))).toList ++ (ints .u8 (List.replicate n 0)).toList.drop (min k.length n)).toArray = ints .u8 (Cx.padL k n) := by
    apply Array.toList_inj.1
    have h1 : k.take (min k.length n) = k.take n := by
      by_cases hl : k.length ≤ n
      · rw [Nat.min_eq_left hl, List.take_length, List.take_of_length_le hl]
      · rw [Nat.min_eq_right (by omega)]
    have h2 : n - min k.length n = n - k.length := by omega
    simp only [ints, Cx.padL, List.map_append, List.map_replicate, List.drop_replicate, h1, h2]
  rw [e]
  exact h

set_option maxRecDepth 100000 in
theorem keyof_any (k : List Nat) (hk : ∀ x ∈ k, x < 256) (w : World) :
    Calls Tryd.prog 35 #[.string (str k)] w fun e w' => e = .returned (.agg (ints .u8 (Cx.padL k 32))) ∧ Below w.heap.size w w' := by
  have HK := hid hk
  have hsl := fun wx => slice_all wx 60 5 32 (w.heap.size + 1) Tryd.underlying60 (by decide) info5'
  clear hk
  go_enter Tryd.func35, Tryd.ntmps35
  go_upto_region 2 with (fail)
  generalize hw0 : (w.alloc _).alloc _ = w0 at *
  have rz : Row w0 w.heap.size .u8 60 (List.replicate 32 0) := by rw [← hw0]; unfold Row; rw [heap_alloc2_old]; kernel_rfl
  have rk : Row w0 (w.heap.size + 1) .u8 60 (List.replicate 32 0) := by rw [← hw0]; unfold Row; rw [heap_alloc2_new]; kernel_rfl
  have hb0 : Below w.heap.size w w0 := by rw [← hw0]; exact ((Below.refl _ _).alloc (Nat.le_refl _) _).alloc (by simp) _
  clear hw0
  have rk1 : Row (w0.setRow (w.heap.size + 1) (ints .u8 (Cx.padL k 32))) (w.heap.size + 1) .u8 60 (Cx.padL k 32) := setRow_heap w0 (w.heap.size + 1) _ (ints .u8 (Cx.padL k 32)) _ _ rk
  have rz1 : Row (w0.setRow (w.heap.size + 1) (ints .u8 (Cx.padL k 32))) w.heap.size .u8 60 (List.replicate 32 0) := by unfold Row; rw [setRow_other w0 (w.heap.size + 1) w.heap.size _ (by omega)]; exact rz
  have hb1 := below_setRow hb0 (show w.heap.size ≤ w.heap.size + 1 by omega) (ints .u8 (Cx.padL k 32))
  have HSZ := hid (show (ints .u8 (Cx.padL k 32)).size = 32 from by rw [ints_size, Cx.padL_length])
  have HB1 := hid hb1
  clear hb0 hb1 rz
  go_upto_region 3 with (refine wpList_copy_pad rfl _ _ rfl (w.heap.size + 1) 32 60 k HK.out rfl rfl rk ?_)
  clear rk hsl
  generalize w0.setRow _ _ = w1 at *
  go_wp2_with (first | (refine wpList_load_row rfl _ _ rfl (w.heap.size + 1) rfl _ _ _ _ rk1 Tryd.underlying60 rfl (by rw [HSZ.out]; exact info23) ?_) | (refine wpList_store_row rfl _ _ _ rfl w.heap.size _ rfl rfl _ _ rz1 (by rw [HSZ.out]; exact info23) (by rw [HSZ.out, ints_size, List.length_replicate]) (ints_one _ _) ?_))
  exact bodyPost_ret (v := .agg (ints .u8 (Cx.padL k 32)))
    (results_cell_row Tryd.results35 _ _ w.heap.size _ _ _ _ rfl (setRow_heap w1 w.heap.size _ _ _ _ rz1) Tryd.underlying60 rfl (by rw [HSZ.out]; exact info23))
    rfl ⟨rfl, below_setRow HB1.out (Nat.le_refl _) _⟩

set_option maxRecDepth 100000 in
theorem nonceof_any (k : List Nat) (hk : ∀ x ∈ k, x < 256) (w : World) :
    Calls Tryd.prog 41 #[.string (str k)] w fun e w' => e = .returned (.agg (ints .u8 (Cx.padL k 12))) ∧ Below w.heap.size w w' := by
  have HK := hid hk
  have hsl := fun wx => slice_all wx 64 5 12 (w.heap.size + 1) Tryd.underlying64 (by decide) info5'
  clear hk
  go_enter Tryd.func41, Tryd.ntmps41
  go_upto_region 2 with (fail)
  generalize hw0 : (w.alloc _).alloc _ = w0 at *
  have rz : Row w0 w.heap.size .u8 64 (List.replicate 12 0) := by rw [← hw0]; unfold Row; rw [heap_alloc2_old]; kernel_rfl
  have rk : Row w0 (w.heap.size + 1) .u8 64 (List.replicate 12 0) := by rw [← hw0]; unfold Row; rw [heap_alloc2_new]; kernel_rfl
  have hb0 : Below w.heap.size w w0 := by rw [← hw0]; exact ((Below.refl _ _).alloc (Nat.le_refl _) _).alloc (by simp) _
  clear hw0
  have rk1 : Row (w0.setRow (w.heap.size + 1) (ints .u8 (Cx.padL k 12))) (w.heap.size + 1) .u8 64 (Cx.padL k 12) := setRow_heap w0 (w.heap.size + 1) _ (ints .u8 (Cx.padL k 12)) _ _ rk
  have rz1 : Row (w0.setRow (w.heap.size + 1) (ints .u8 (Cx.padL k 12))) w.heap.size .u8 64 (List.replicate 12 0) := by unfold Row; rw [setRow_other w0 (w.heap.size + 1) w.heap.size _ (by omega)]; exact rz
  have hb1 := below_setRow hb0 (show w.heap.size ≤ w.heap.size + 1 by omega) (ints .u8 (Cx.padL k 12))
  have HSZ := hid (show (ints .u8 (Cx.padL k 12)).size = 12 from by rw [ints_size, Cx.padL_length])
  have HB1 := hid hb1
  clear hb0 hb1 rz
  go_upto_region 3 with (refine wpList_copy_pad rfl _ _ rfl (w.heap.size + 1) 12 64 k HK.out rfl rfl rk ?_)
  clear rk hsl
  generalize w0.setRow _ _ = w1 at *
  go_wp2_with (first | (refine wpList_load_row rfl _ _ rfl (w.heap.size + 1) rfl _ _ _ _ rk1 Tryd.underlying64 rfl (by rw [HSZ.out]; exact info26) ?_) | (refine wpList_store_row rfl _ _ _ rfl w.heap.size _ rfl rfl _ _ rz1 (by rw [HSZ.out]; exact info26) (by rw [HSZ.out, ints_size, List.length_replicate]) (ints_one _ _) ?_))
  exact bodyPost_ret (v := .agg (ints .u8 (Cx.padL k 12)))
    (results_cell_row Tryd.results41 _ _ w.heap.size _ _ _ _ rfl (setRow_heap w1 w.heap.size _ _ _ _ rz1) Tryd.underlying64 rfl (by rw [HSZ.out]; exact info26))
    rfl ⟨rfl, below_setRow HB1.out (Nat.le_refl _) _⟩

theorem awake_blk : (Cx.block (Cx.padL (List.range 32) 32) 1 (Cx.padL [0, 0, 0, 9, 0, 0, 0, 74, 0, 0, 0, 0] 12)).getD 0 0 = 16 ∧ (Cx.block (Cx.padL (List.range 32) 32) 1 (Cx.padL [0, 0, 0, 9, 0, 0, 0, 74, 0, 0, 0, 0] 12)).getD 1 0 = 241 ∧ (Cx.block (Cx.padL (List.range 32) 32) 1 (Cx.padL [0, 0, 0, 9, 0, 0, 0, 74, 0, 0, 0, 0] 12)).getD 2 0 = 231 ∧ (Cx.block (Cx.padL (List.range 32) 32) 1 (Cx.padL [0, 0, 0, 9, 0, 0, 0, 74, 0, 0, 0, 0] 12)).getD 7 0 = 21 ∧ (Cx.block (Cx.padL (List.range 32) 32) 1 (Cx.padL [0, 0, 0, 9, 0, 0, 0, 74, 0, 0, 0, 0] 12)).getD 63 0 = 78 := by decide +kernel

end Go.Proofs.YtgjkkcggcljcdaaDoor
