/-
  Layer 3: what stream.start and Block return.
-/
import Derived.Test.YtgjkkcggcljcdaaDoorStr2
namespace Go.Proofs.YtgjkkcggcljcdaaDoor
open Go.RowKit
open Go.Lib (hid)

namespace Cx
def c4 : List Nat := [1634760805, 857760878, 2036477234, 1797285236]
theorem les_length (l : List Nat) (k : Nat) : (les l k).length = k := by simp [les]
theorem les_succ (l : List Nat) (k : Nat) : les l (k + 1) = les l k ++ [le4 l k] := by simp [les, List.range_succ]
/-- With the first k numbers of the key, and the first m of the nonce. -/
def initP (key : List Nat) (c : Nat) (nonce : List Nat) (k m : Nat) : List Nat := c4 ++ (les key k ++ List.replicate (8 - k) 0) ++ [c] ++ (les nonce m ++ List.replicate (3 - m) 0)
theorem initP_length (key : List Nat) (c : Nat) (nonce : List Nat) (k m : Nat) (hk : k ≤ 8) (hm : m ≤ 3) : (initP key c nonce k m).length = 16 := by
  simp [initP, c4, les_length]; omega
theorem lay_next (l : List Nat) (k n : Nat) (h : k < n) : (les l k ++ List.replicate (n - k) 0).set k (le4 l k) = les l (k + 1) ++ List.replicate (n - (k + 1)) 0 := by
  rw [List.set_append_right _ _ (by rw [les_length]; omega), les_length, Nat.sub_self, show n - k = (n - (k + 1)) + 1 from by omega, List.replicate_succ, List.set_cons_zero, les_succ]
  simp
theorem initP_key (key : List Nat) (c : Nat) (nonce : List Nat) (k : Nat) (h : k < 8) : (initP key c nonce k 0).set (4 + k) (le4 key k) = initP key c nonce (k + 1) 0 := by
  unfold initP
  rw [List.append_assoc, List.append_assoc, List.set_append_right _ _ (by simp [c4]), show 4 + k - c4.length = k from by simp [c4], List.set_append_left _ _ (by simp [les_length]; omega), lay_next key k 8 h, ← List.append_assoc, ← List.append_assoc]
theorem initP_nonce (key : List Nat) (c : Nat) (nonce : List Nat) (m : Nat) (h : m < 3) : (initP key c nonce 8 m).set (13 + m) (le4 nonce m) = initP key c nonce 8 (m + 1) := by
  have hl : (c4 ++ (les key 8 ++ List.replicate (8 - 8) 0) ++ [c]).length = 13 := by simp [c4, les_length]
  unfold initP
  generalize c4 ++ (les key 8 ++ List.replicate (8 - 8) 0) ++ [c] = A at *
  rw [List.set_append_right _ _ (by omega), hl, Nat.add_sub_cancel_left, lay_next nonce m 3 h]
theorem initP_full (key : List Nat) (c : Nat) (nonce : List Nat) : initP key c nonce 8 3 = init key c nonce := by
  simp [initP, init, c4]
theorem init_length (key : List Nat) (c : Nat) (nonce : List Nat) : (init key c nonce).length = 16 := by rw [← initP_full, initP_length _ _ _ _ _ (by omega) (by omega)]
theorem init_ok (key : List Nat) (c : Nat) (nonce : List Nat) (hk : ∀ x ∈ key, x < 256) (hn : ∀ x ∈ nonce, x < 256) (hc : c < Sx.M) : Ok (init key c nonce) := by
  intro v hv
  simp only [init, List.mem_append, List.mem_cons, List.not_mem_nil, or_false, les, List.mem_map] at hv
  rcases hv with ((h | h) | h) | h
  · unfold Sx.M; omega
  · obtain ⟨i, _, rfl⟩ := h; exact le4_lt key hk i
  · rw [h]; exact hc
  · obtain ⟨i, _, rfl⟩ := h; exact le4_lt nonce hn i
end Cx

/-- arr[l:] of an array of numbers in memory. -/
theorem slice_lo (w : World) (t : TypeId) (e : TypeId) (n l : Nat) (b : Nat) (hu : Tryd.prog.underlying t = some (.array n e)) (hl : l < n) (hs : (Tryd.prog.info? e).map (·.size) = some 1) :
    (Instr.sliceAt t (.pointer (some ⟨b, 0, none⟩)) (some (.int .i64 (l : Int))) none none).run Tryd.prog w = .ok (.slice (some ⟨b, l, none⟩) (n - l) (n - l)) w := by
  obtain ⟨f, hf, hf1⟩ := Option.map_eq_some_iff.1 hs
  have h0 : (0 : Int) ≤ (l : Int) := by omega
  have h1 : (l : Int) ≤ (n : Int) := by omega
  have h2 : ¬ n = l := by omega
  have hb := run_sliceBound (P := Tryd.prog) w .i64 (l : Int) n .sliceB h0 h1
  simp [Instr.sliceAt, Instr.sureAddr, run_underlying hu, Instr.sliceBounds, sizeOf, typeInfo, hf, hf1, Addr.add_mid]
  rw [hb]
  simp [h2]

set_option maxHeartbeats 1000000 in
set_option maxRecDepth 100000 in
theorem start_any (key nonce : List Nat) (c : Nat) (hk : ∀ x ∈ key, x < 256) (hkl : key.length = 32) (hn : ∀ x ∈ nonce, x < 256) (hnl : nonce.length = 12) (w : World) :
    Calls Tryd.prog 67 #[.agg (ints .u8 key), .int .u32 (c : Int), .agg (ints .u8 nonce)] w fun e w' => e = .returned (.agg (ints .u32 (Cx.init key c nonce))) ∧ Below w.heap.size w w' := by
  have hs1 : (ints .u8 key).size = 32 := by rw [ints_size, hkl]
  have hs2 : (ints .u8 nonce).size = 12 := by rw [ints_size, hnl]
  have HK := hid hk
  have HN := hid hn
  clear hk hn
  have EC : Hid ((.cells #[.int .u32 1634760805, .int .u32 857760878, .int .u32 2036477234, .int .u32 1797285236, .int .u32 0, .int .u32 0, .int .u32 0, .int .u32 0, .int .u32 0, .int .u32 0, .int .u32 0, .int .u32 0, .int .u32 (c : Int), .int .u32 0, .int .u32 0, .int .u32 0] 132 : Obj) = .cells (ints .u32 (Cx.initP key c nonce 0 0)) 132) := rfl
  have HIL := hid (Cx.initP_length key c nonce 0 0 (by omega) (by omega))
  go_enter Tryd.func67, Tryd.ntmps67
  go_upto_region 1 with (fail)
  generalize hw0 : (((w.alloc _).alloc _).alloc _) = w0
  have rk : Row w0 w.heap.size .u8 60 key := by rw [← hw0]; unfold Row; rw [heap_alloc3_0]
  have rn : Row w0 (w.heap.size + 1) .u8 64 nonce := by rw [← hw0]; unfold Row; rw [heap_alloc3_1]
  have rz : Row w0 (w.heap.size + 1 + 1) .u32 132 (List.replicate 16 0) := by rw [← hw0]; unfold Row; rw [heap_alloc3_2]; kernel_rfl
  have hb0 : Below w.heap.size w w0 := by rw [← hw0]; exact (((Below.refl _ _).alloc (Nat.le_refl _) _).alloc (by simp) _).alloc (by simp; omega) _
  have hsz0 : w.heap.size + 1 + 1 < w0.heap.size := rz.lt
  clear hw0
  go_upto_region 3 with (fail)
  rw [EC.out]
  clear EC
  have HRK := hid (rk.alloc (.cells (ints .u32 (Cx.initP key c nonce 0 0)) 132))
  have HRN := hid (rn.alloc (.cells (ints .u32 (Cx.initP key c nonce 0 0)) 132))
  have HRZ := hid (rz.alloc (.cells (ints .u32 (Cx.initP key c nonce 0 0)) 132))
  have HRX := hid (show Row (w0.alloc (.cells (ints .u32 (Cx.initP key c nonce 0 0)) 132)) w0.heap.size .u32 132 (Cx.initP key c nonce 0 0) from heap_alloc_new _ _)
  have HB1 := hid (hb0.alloc hb0.size (.cells (ints .u32 (Cx.initP key c nonce 0 0)) 132))
  clear rk rn rz hb0
  generalize w0.alloc _ = w1 at *
  generalize w0.heap.size = bx at *
  go_loopw [12] (fun i wr => ∃ k : Nat, k ≤ 8 ∧ i = .int .i64 k ∧ Row wr w.heap.size .u8 60 key ∧ Row wr (w.heap.size + 1) .u8 64 nonce ∧ Row wr (w.heap.size + 1 + 1) .u32 132 (List.replicate 16 0) ∧ Row wr bx .u32 132 (Cx.initP key c nonce k 0) ∧ Below w.heap.size w wr)
    (fun i _ => 8 - (intOf i).toNat)
  case atStart => exact ⟨0, by omega, rfl, HRK.out, HRN.out, HRZ.out, HRX.out, HB1.out⟩
  case round =>
    clear HRK HRN HRZ HRX HB1
    obtain ⟨k, hk, rfl, rk, rn, rz, rx, hbel⟩ := hrel
    by_cases hlt : k < 8
    · have HNM := hid (number_any wr w.heap.size (4 * k) (32 - 4 * k) (32 - 4 * k) 60 key k rfl (by omega) HK.out (by omega) rk)
      have hsl := fun wx => slice_lo wx 60 5 32 (4 * k) w.heap.size Tryd.underlying60 (by omega) info5'
      rw [show ((4 * k : Nat) : Int) = 4 * (k : Int) from by omega] at hsl
      have cx := fun m => show (wr.drewN m).cell? ⟨bx, 4 + k, none⟩ = _ from rx.cell (4 + k) (by rw [Cx.initP_length _ _ _ _ _ hk (by omega)]; omega)
      have fx := fun m => show (wr.drewN m).frozen? ⟨bx, 4 + k, none⟩ = false from rx.free (4 + k)
      have rx' := fun m => show Row ((wr.drewN m).setCell ⟨bx, 4 + k, none⟩ (.int .u32 (Cx.le4 key k : Nat))) bx .u32 132 _ from Row.set (w := wr.drewN m) rx (4 + k) (Cx.le4 key k)
      rw [Cx.initP_key key c nonce k hlt] at rx'
      have hbb := fun m => (show Below w.heap.size w (wr.drewN m) from hbel.trans ⟨rfl, rfl, rfl, Nat.le_refl _, fun _ _ => rfl⟩).setCell (p := ⟨bx, 4 + k, none⟩) (by simp; omega) (.int .u32 (Cx.le4 key k : Nat))
      have rk' := fun m => Row.set_other (w := wr.drewN m) rk ⟨bx, 4 + k, none⟩ (.int .u32 (Cx.le4 key k : Nat)) (by simp; omega)
      have rn' := fun m => Row.set_other (w := wr.drewN m) rn ⟨bx, 4 + k, none⟩ (.int .u32 (Cx.le4 key k : Nat)) (by simp; omega)
      have rz' := fun m => Row.set_other (w := wr.drewN m) rz ⟨bx, 4 + k, none⟩ (.int .u32 (Cx.le4 key k : Nat)) (by simp; omega)
      have HX := hid rx'
      have HBB := hid hbb
      have HK' := hid rk'
      have HN' := hid rn'
      have HZ' := hid rz'
      clear rk rn rz rx hbel rx' hbb rk' rn' rz'
      generalize Cx.le4 key k = v at *
      generalize (Cx.initP key c nonce k 0).getD (4 + k) 0 = old at *
      go_wp2_with (go_at_call 78; refine HNM.out.mono ?_; rintro e w' ⟨rfl, m, rfl⟩)
      go_roundw
      case rel =>
        first
          | exact ⟨k + 1, by omega, by go_num, HK'.out m, HN'.out m, HZ'.out m, HX.out m, HBB.out m⟩
          | ((repeat apply Exists.intro); refine ⟨?_, rfl⟩; exact ⟨k + 1, by omega, by go_num, HK'.out m, HN'.out m, HZ'.out m, HX.out m, HBB.out m⟩)
      case measure => simp [intOf]; omega
    · obtain rfl : k = 8 := by omega
      have HRN := hid rn
      have HRZ := hid rz
      have HRX := hid rx
      have HB1 := hid hbel
      clear rk rn rz rx hbel HIL
      rw [show ((8 : Nat) : Int) = 8 from rfl]
      go_upto_region 8 with (fail)
      go_loopw [23] (fun i wq => ∃ m : Nat, m ≤ 3 ∧ i = .int .i64 m ∧ Row wq (w.heap.size + 1) .u8 64 nonce ∧ Row wq (w.heap.size + 1 + 1) .u32 132 (List.replicate 16 0) ∧ Row wq bx .u32 132 (Cx.initP key c nonce 8 m) ∧ Below w.heap.size w wq)
        (fun i _ => 3 - (intOf i).toNat)
      case atStart => exact ⟨0, by omega, rfl, HRN.out, HRZ.out, HRX.out, HB1.out⟩
      case round =>
        clear HRN HRZ HRX HB1
        obtain ⟨k, hk, rfl, rn, rz, rx, hbel⟩ := hrel
        by_cases hlt2 : k < 3
        · have HNM := hid (number_any wr (w.heap.size + 1) (4 * k) (12 - 4 * k) (12 - 4 * k) 64 nonce k rfl (by omega) HN.out (by omega) rn)
          have hsl := fun wx => slice_lo wx 64 5 12 (4 * k) (w.heap.size + 1) Tryd.underlying64 (by omega) info5'
          rw [show ((4 * k : Nat) : Int) = 4 * (k : Int) from by omega] at hsl
          have cx := fun m => show (wr.drewN m).cell? ⟨bx, 13 + k, none⟩ = _ from rx.cell (13 + k) (by rw [Cx.initP_length _ _ _ _ _ (by omega) hk]; omega)
          have fx := fun m => show (wr.drewN m).frozen? ⟨bx, 13 + k, none⟩ = false from rx.free (13 + k)
          have rx' := fun m => show Row ((wr.drewN m).setCell ⟨bx, 13 + k, none⟩ (.int .u32 (Cx.le4 nonce k : Nat))) bx .u32 132 _ from Row.set (w := wr.drewN m) rx (13 + k) (Cx.le4 nonce k)
          rw [Cx.initP_nonce key c nonce k hlt2] at rx'
          have hbb := fun m => (show Below w.heap.size w (wr.drewN m) from hbel.trans ⟨rfl, rfl, rfl, Nat.le_refl _, fun _ _ => rfl⟩).setCell (p := ⟨bx, 13 + k, none⟩) (by simp; omega) (.int .u32 (Cx.le4 nonce k : Nat))
          have rn' := fun m => Row.set_other (w := wr.drewN m) rn ⟨bx, 13 + k, none⟩ (.int .u32 (Cx.le4 nonce k : Nat)) (by simp; omega)
          have rz' := fun m => Row.set_other (w := wr.drewN m) rz ⟨bx, 13 + k, none⟩ (.int .u32 (Cx.le4 nonce k : Nat)) (by simp; omega)
          have HX := hid rx'
          have HBB := hid hbb
          have HN' := hid rn'
          have HZ' := hid rz'
          clear rn rz rx hbel rx' hbb rn' rz'
          generalize Cx.le4 nonce k = v at *
          generalize (Cx.initP key c nonce 8 k).getD (13 + k) 0 = old at *
          go_wp2_with (go_at_call 78; refine HNM.out.mono ?_; rintro e w' ⟨rfl, m, rfl⟩)
          go_roundw
          case rel =>
            first
              | exact ⟨k + 1, by omega, by go_num, HN'.out m, HZ'.out m, HX.out m, HBB.out m⟩
              | ((repeat apply Exists.intro); refine ⟨?_, rfl⟩; exact ⟨k + 1, by omega, by go_num, HN'.out m, HZ'.out m, HX.out m, HBB.out m⟩)
          case measure => simp [intOf]; omega
        · obtain rfl : k = 3 := by omega
          rw [Cx.initP_full] at rx
          have hsz : (ints .u32 (Cx.init key c nonce)).size = 16 := by rw [ints_size, Cx.init_length]
          have HSZ := hid hsz
          clear hsz
          rw [show ((3 : Nat) : Int) = 3 from rfl]
          go_wp2_with (first | (refine wpList_load_row rfl _ _ rfl bx rfl _ _ _ _ rx Tryd.underlying132 rfl (by rw [HSZ.out]; exact info61) ?_) | (refine wpList_store_row rfl _ _ _ rfl (w.heap.size + 1 + 1) _ rfl rfl _ _ rz (by rw [HSZ.out]; exact info61) (by rw [HSZ.out, ints_size, List.length_replicate]) (ints_one _ _) ?_))
          exact bodyPost_ret (v := .agg (ints .u32 (Cx.init key c nonce)))
            (results_cell_row Tryd.results67 _ _ (w.heap.size + 1 + 1) _ _ _ _ rfl (setRow_heap wr (w.heap.size + 1 + 1) _ _ _ _ rz) Tryd.underlying132 rfl (by rw [HSZ.out]; exact info61))
            rfl ⟨rfl, below_setRow hbel (by omega) _⟩

namespace Cx
theorem addM_length (l r : List Nat) : (addM l r).length = min l.length r.length := by simp [addM]
def addP (xs r : List Nat) (k : Nat) : List Nat := addM (xs.take k) (r.take k) ++ xs.drop k
theorem addP_length (xs r : List Nat) (k : Nat) (hk : k ≤ 16) (hl : xs.length = 16) (hr : r.length = 16) : (addP xs r k).length = 16 := by
  simp [addP, addM_length, hr, hl]; omega
theorem addP_get (xs r : List Nat) (k : Nat) (hk : k < 16) (hl : xs.length = 16) (hr : r.length = 16) : (addP xs r k).getD k 0 = xs.getD k 0 := by
  have h1 : (addM (xs.take k) (r.take k)).length = k := by simp [addM_length, hr, hl]; omega
  simp [addP, List.getElem?_append, h1, List.getElem?_drop]
theorem addP_set (xs r : List Nat) (k : Nat) (hk : k < 16) (hl : xs.length = 16) (hr : r.length = 16) : (addP xs r k).set k ((xs.getD k 0 + r.getD k 0) % Sx.M) = addP xs r (k + 1) := by
  have h1 : (addM (xs.take k) (r.take k)).length = k := by simp [addM_length, hr, hl]; omega
  have hx : k < xs.length := by omega
  have hh : k < r.length := by omega
  unfold addP
  rw [List.set_append_right _ _ (by omega), h1, Nat.sub_self, List.drop_eq_getElem_cons hx, List.set_cons_zero]
  have e : addM (xs.take (k + 1)) (r.take (k + 1)) = addM (xs.take k) (r.take k) ++ [(xs.getD k 0 + r.getD k 0) % Sx.M] := by
    unfold addM
    rw [List.take_succ_eq_append_getElem hx, List.take_succ_eq_append_getElem hh, List.zipWith_append (by simp; omega)]
    simp [hx, hh]
  rw [e]; simp
theorem addP_full (xs r : List Nat) (hl : xs.length = 16) (hr : r.length = 16) : addP xs r 16 = addM xs r := by
  unfold addP
  rw [List.take_of_length_le (by omega), List.take_of_length_le (by omega), List.drop_of_length_le (by omega), List.append_nil]
theorem addP_zero (xs r : List Nat) : addP xs r 0 = xs := by simp [addP, addM]
theorem addM_ok (l r : List Nat) : Ok (addM l r) := by
  intro v hv
  simp only [addM] at hv
  rw [List.mem_iff_getElem] at hv
  obtain ⟨i, hi, rfl⟩ := hv
  rw [List.getElem_zipWith]
  exact Nat.mod_lt _ (by decide)
theorem block_length (key : List Nat) (c : Nat) (nonce : List Nat) : (block key c nonce).length = 64 := by
  unfold block
  rw [out_length, addM_length, rounds_length, init_length]; rfl
theorem block_lt (key : List Nat) (c : Nat) (nonce : List Nat) : ∀ x ∈ block key c nonce, x < 256 := by
  intro x hx
  simp only [block, out, List.mem_flatMap] at hx
  obtain ⟨y, _, hx⟩ := hx
  simp only [bytes4, List.mem_cons, List.not_mem_nil, or_false] at hx
  omega
end Cx
end Go.Proofs.YtgjkkcggcljcdaaDoor
