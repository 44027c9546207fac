/-
  Layer 8: Label and Drawn of an ideal suite.
-/
import Derived.Test.YtgjkkcggcljcdaaDoorSu4
namespace Go.Proofs.YtgjkkcggcljcdaaDoor
open Go.ChangeShapes Go.WideShapes Go.ChangeAt Go.RowKit
open Go.Lib (hid)

theorem run_named (w : World) (s : ByteArray) (n p : Int) : (Instr.build 72 #[(0, .string s), (1, .int .i64 n), (2, .int .i64 p)]).run Tryd.prog w = .ok (.agg #[.string s, .int .i64 n, .int .i64 p]) w := run_build w _ _ _ (by kernel_rfl)
theorem Iv.labelOf_length (v : Iv.V) (x : ByteArray × Nat × Nat) (h : ∀ p ∈ v.L, p.2.length = 16) : (Iv.labelOf v x).1.length = 16 := by
  unfold Iv.labelOf
  split
  · rename_i l hl
    exact h _ (Mp.get_mem hl)
  · exact Iv.fresh_length _ _ _

theorem info_a16 : (Tryd.prog.info? 44).map (·.size) = some 16 := by kernel_rfl
set_option maxHeartbeats 1000000 in
set_option maxRecDepth 100000 in
theorem label_any (b b1 b2 b3 : Nat) (v : Iv.V) (hT : ∀ x ∈ v.T, x < 256) (hT0 : 0 < v.T.length) (hTl : v.T.length ≤ 1000000) (hd : v.d ≤ 4000000000000000000) (hL : v.L.length ≤ 1000000000) (hL16 : ∀ p ∈ v.L, p.2.length = 16)
    (s : ByteArray) (n p : Int) (hs : s.size ≤ maxLen) (hn : n < 9223372036854775808) (hp : p < 9223372036854775808) (w : World) (h : IsI w b b1 b2 b3 v) :
    Calls Tryd.prog 15 #[.pointer (some ⟨b, 0, none⟩), .string s, .int .i64 n, .int .i64 p] w fun e w' => e = .returned (.agg (ints .u8 (Iv.labelOf v (s, n.toNat, p.toNat)).1)) ∧
      IsI w' b b1 b2 b3 (Iv.labelOf v (s, n.toNat, p.toNat)).2 ∧ KeptP (fun k => k = b ∨ k = b2) w w' := by
  have HD := hid (fun wx hx => labelOf_any b b1 b2 b3 v hT hT0 hTl hd hL hL16 (s, n.toNat, p.toNat) ⟨hs, by show n.toNat < _; omega, by show p.toNat < _; omega⟩ wx hx)
  have hrl := Iv.labelOf_length v (s, n.toNat, p.toNat) hL16
  unfold namedV at HD
  simp only [] at HD
  rw [show ((n.toNat : Nat) : Int) = max 0 n from by omega, show ((p.toNat : Nat) : Int) = max 0 p from by omega] at HD
  generalize Iv.labelOf v (s, n.toNat, p.toNat) = r at *
  have HH := hid h
  have hbl := (Array.getElem?_eq_some_iff.1 h.row).1
  clear h hT hT0 hTl hd hL hL16
  go_enter Tryd.func15, Tryd.ntmps15
  go_upto_region 1 with (fail)
  have HC1 := hid (show (w.alloc (.cells #[.int .u8 0, .int .u8 0, .int .u8 0, .int .u8 0, .int .u8 0, .int .u8 0, .int .u8 0, .int .u8 0, .int .u8 0, .int .u8 0, .int .u8 0, .int .u8 0, .int .u8 0, .int .u8 0, .int .u8 0, .int .u8 0] 44)).heap[w.heap.size]? = some (.cells #[.int .u8 0, .int .u8 0, .int .u8 0, .int .u8 0, .int .u8 0, .int .u8 0, .int .u8 0, .int .u8 0, .int .u8 0, .int .u8 0, .int .u8 0, .int .u8 0, .int .u8 0, .int .u8 0, .int .u8 0, .int .u8 0] 44 (0, 0)) from heap_alloc_new w _)
  have HB1 := hid (show Below w.heap.size w (w.alloc (.cells #[.int .u8 0, .int .u8 0, .int .u8 0, .int .u8 0, .int .u8 0, .int .u8 0, .int .u8 0, .int .u8 0, .int .u8 0, .int .u8 0, .int .u8 0, .int .u8 0, .int .u8 0, .int .u8 0, .int .u8 0, .int .u8 0] 44)) from (Below.refl _ _).alloc (Nat.le_refl _) _)
  have hz1 : (w.alloc (.cells #[.int .u8 0, .int .u8 0, .int .u8 0, .int .u8 0, .int .u8 0, .int .u8 0, .int .u8 0, .int .u8 0, .int .u8 0, .int .u8 0, .int .u8 0, .int .u8 0, .int .u8 0, .int .u8 0, .int .u8 0, .int .u8 0] 44)).heap.size = w.heap.size + 1 := World.size_alloc _ _
  generalize w.alloc _ = w1 at *
  have H1 := hid (HH.out.below HB1.out)
  obtain ⟨_, _, _, _, _, c5⟩ := suC_cells H1.out.row
  go_wp2_with (first
    | (refine wpList_build rfl _ _ rfl _ rfl _ (run_named _ _ _ _) ?_)
    | (go_at_call 29; refine (HD.out _ H1.out).mono ?_; rintro e w2 ⟨rfl, h2, hk2⟩)
    | (refine wpList_store_ints rfl _ _ _ rfl r.1 (by rw [hrl]; exact info_a16) w.heap.size rfl rfl _ _ ((hk2.block w.heap.size (by omega) (fun h => (h.elim (fun h => by omega) (fun h => by have := HH.out.m2.lt; omega)))).trans HC1.out) (by rw [hrl]; rfl) ?_; intro w3 hr3 hk3))
  have hszr : (ints .u8 r.1).size = 16 := by rw [ints_size, hrl]
  refine bodyPost_ret (v := .agg _) (results_cell_row Tryd.results15 _ _ w.heap.size _ _ _ _ rfl hr3 Tryd.underlying44 rfl (by rw [hszr]; kernel_rfl)) rfl ?_
  have m1 := HH.out.m1.lt
  have m2 := HH.out.m2.lt
  have m3 := HH.out.m3.lt
  have hs2 := hk2.size
  have hs3 := hk3.size
  have k3 : KeptP (fun k => k = w.heap.size) w2 w3 := KeptP.of_keptB hk3 rfl
  refine ⟨rfl, h2.kept k3 (by omega) (by omega) (by omega) (by omega), ?_⟩
  have kB := HB1.out
  exact ⟨k3.os.trans (hk2.os.trans kB.os), k3.tape.trans (hk2.tape.trans kB.tape), k3.output.trans (hk2.output.trans kB.output), by omega, fun k h1 h2 => (k3.block k (by omega) (by omega)).trans ((hk2.block k (by omega) h2).trans (kB.block k h1))⟩

set_option maxRecDepth 100000 in
set_option maxHeartbeats 1000000 in
theorem drawn_any (b b1 b2 b3 : Nat) (v : Iv.V) (hd : v.d ≤ 4000000000000000000) (w : World) (h : IsI w b b1 b2 b3 v) :
    Calls Tryd.prog 16 #[.pointer (some ⟨b, 0, none⟩)] w fun e w' => e = .returned (.int .i64 (v.d : Int)) ∧ w' = w := by
  obtain ⟨_, c1, _, _, _, _⟩ := suC_cells h.row
  clear h
  go_enter Tryd.func16, Tryd.ntmps16
  go_wp2
  go_ret
  exact ⟨rfl, rfl⟩
end Go.Proofs.YtgjkkcggcljcdaaDoor
