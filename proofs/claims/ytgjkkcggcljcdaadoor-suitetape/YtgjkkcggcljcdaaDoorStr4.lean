/-
  Layer 3: what stream.Block returns.
-/
import Derived.Test.YtgjkkcggcljcdaaDoorStr3
namespace Go.Proofs.YtgjkkcggcljcdaaDoor
open Go.RowKit
open Go.Lib (hid)

theorem info23 : (Tryd.prog.info? 60).map (·.size) = some 32 := by kernel_rfl
theorem info26 : (Tryd.prog.info? 64).map (·.size) = some 12 := by kernel_rfl

set_option maxHeartbeats 2000000 in
set_option maxRecDepth 100000 in
theorem block_any (key nonce : List Nat) (c : Nat) (hk : ∀ x ∈ key, x < 256) (hkl : key.length = 32) (hn : ∀ x ∈ nonce, x < 256) (hnl : nonce.length = 12) (hc : c < Sx.M) (w : World) (hT : TabQ w) :
    Calls Tryd.prog 55 #[.agg (ints .u8 key), .int .u32 (c : Int), .agg (ints .u8 nonce)] w fun e w' => e = .returned (.agg (ints .u8 (Cx.block key c nonce))) ∧ Below w.heap.size w w' := by
  have hs1 : (ints .u8 key).size = 32 := by rw [ints_size, hkl]
  have hs2 : (ints .u8 nonce).size = 12 := by rw [ints_size, hnl]
  have HT := hid hT
  have HST := hid (fun wx => start_any key nonce c hk hkl hn hnl wx)
  have HOK := hid (Cx.init_ok key c nonce hk hn hc)
  have HIL := hid (Cx.init_length key c nonce)
  have HBK : Hid (∀ n, n = 10 → Cx.out (Cx.addM (Cx.rounds (Cx.init key c nonce) n) (Cx.init key c nonce)) = Cx.block key c nonce) := fun n h => by rw [h]; rfl
  generalize Cx.init key c nonce = ini at *
  generalize Cx.block key c nonce = blk at *
  clear hT hk hn
  go_enter Tryd.func55, Tryd.ntmps55
  go_upto_region 1 with (fail)
  generalize hw0 : (((w.alloc _).alloc _).alloc _) = w0
  have rk : Row w0 w.heap.size .u8 60 key := by rw [← hw0]; unfold Row; rw [heap_alloc3_0]
  have rn : Row w0 (w.heap.size + 1) .u8 64 nonce := by rw [← hw0]; unfold Row; rw [heap_alloc3_1]
  have rz : Row w0 (w.heap.size + 1 + 1) .u8 100 (List.replicate 64 0) := by rw [← hw0]; unfold Row; rw [heap_alloc3_2]; kernel_rfl
  have hb0 : Below w.heap.size w w0 := by rw [← hw0]; exact (((Below.refl _ _).alloc (Nat.le_refl _) _).alloc (by simp) _).alloc (by simp; omega) _
  have hsz0 : w.heap.size + 1 + 1 < w0.heap.size := rz.lt
  clear hw0
  go_upto_region 2 with (first
    | (refine wpList_load_row rfl _ _ rfl w.heap.size rfl _ _ _ _ rk Tryd.underlying60 rfl (by rw [hs1]; exact info23) ?_)
    | (refine wpList_load_row rfl _ _ rfl (w.heap.size + 1) rfl _ _ _ _ rn Tryd.underlying64 rfl (by rw [hs2]; exact info26) ?_)
    | (go_at_call 67; refine (HST.out _).mono ?_; rintro e w1 ⟨rfl, hb1⟩)
    | (refine wpList_store_row rfl _ _ _ rfl _ _ rfl rfl _ _ (heap_alloc_new _ _) (by rw [ints_size, HIL.out]; exact info61) (by rw [ints_size, HIL.out]; rfl) (ints_one _ _) ?_))
  rw [World.setRow_alloc_new]
  have hz1 := hb1.size
  have ri : Row (w1.alloc (.cells (ints .u32 ini) 132)) w1.heap.size .u32 132 ini := heap_alloc_new _ _
  have rz1 := (rz.below hb1 rz.lt).alloc (.cells (ints .u32 ini) 132)
  have hb2 := (hb0.next (Nat.le_refl _) hb1).alloc (Nat.le_trans hb0.size hb1.size) (.cells (ints .u32 ini) 132)
  clear rk rn rz hb0 hb1
  generalize hw2 : w1.alloc _ = w2 at *
  have hbi2 := ri.lt
  have hbi : w.heap.size + 1 + 1 < w1.heap.size := by omega
  generalize w1.heap.size = bi at *
  clear hw2
  go_upto_region 4 with (first
    | (refine wpList_load_row rfl _ _ rfl bi rfl _ _ _ _ ri Tryd.underlying132 rfl (by rw [ints_size, HIL.out]; exact info61) ?_)
    | (refine wpList_store_row rfl _ _ _ rfl _ _ rfl rfl _ _ (heap_alloc_new _ _) (by rw [ints_size, HIL.out]; exact info61) (by rw [ints_size, HIL.out]; rfl) (ints_one _ _) ?_))
  rw [World.setRow_alloc_new]
  have HRI := hid (ri.alloc (.cells (ints .u32 ini) 132))
  have HRZ := hid (rz1.alloc (.cells (ints .u32 ini) 132))
  have HRX := hid (show Row (w2.alloc (.cells (ints .u32 ini) 132)) w2.heap.size .u32 132 ini from heap_alloc_new _ _)
  have HB3 := hid (hb2.alloc hb2.size (.cells (ints .u32 ini) 132))
  clear ri rz1 hb2
  generalize w2.alloc _ = w3 at *
  generalize w2.heap.size = bx at *
  have hgl := HT.out.lt
  go_loopw [15] (fun i wr => ∃ k : Nat, k ≤ 10 ∧ i = .int .i64 k ∧ Row wr bi .u32 132 ini ∧ Row wr (w.heap.size + 1 + 1) .u8 100 (List.replicate 64 0) ∧ Row wr bx .u32 132 (Cx.rounds ini k) ∧ Below w.heap.size w wr)
    (fun i _ => 10 - (intOf i).toNat)
  case atStart => exact ⟨0, by omega, rfl, HRI.out, HRZ.out, HRX.out, HB3.out⟩
  case round =>
    clear HRI HRZ HRX HB3
    obtain ⟨k, hk, rfl, ri, rz, rx, hbel⟩ := hrel
    by_cases hlt : k < 10
    · have HRD := hid (round_any bx (Cx.rounds ini k) (HOK.out.rounds k) (by rw [Cx.rounds_length, HIL.out]) wr (HT.out.below hbel (Nat.le_refl _)) 132 rx)
      rw [show Cx.round (Cx.rounds ini k) = Cx.rounds ini (k + 1) from rfl] at HRD
      have HRI := hid ri
      have HRZ := hid rz
      have HBL := hid hbel
      clear ri rz rx hbel
      go_wp2_with fail
      refine HRD.out.mono ?_
      rintro e w' ⟨rfl, r', k'⟩
      go_wp2_with fail
      go_roundw
      case rel =>
        first
          | exact ⟨k + 1, by omega, by go_num, HRI.out.keptB k' (by omega), HRZ.out.keptB k' (by omega), r', HBL.out.trans (k'.below (by omega) HBL.out.size)⟩
          | ((repeat apply Exists.intro); refine ⟨?_, rfl⟩; exact ⟨k + 1, by omega, by go_num, HRI.out.keptB k' (by omega), HRZ.out.keptB k' (by omega), r', HBL.out.trans (k'.below (by omega) HBL.out.size)⟩)
      case measure => simp [intOf]; omega
    · obtain rfl : k = 10 := by omega
      have HRI := hid ri
      have HRZ := hid rz
      have HRX := hid rx
      have HB1 := hid hbel
      have hrl : (Cx.rounds ini 10).length = 16 := by rw [Cx.rounds_length, HIL.out]
      have HBK2 : Hid (∀ n : Nat, n = 10 → Cx.out (Cx.addM (Cx.rounds ini 10) ini) = blk) := fun n h => HBK.out 10 rfl
      clear ri rz rx hbel HBK
      generalize Cx.rounds ini 10 = xr at *
      rw [show ((10 : Nat) : Int) = 10 from rfl]
      go_upto_region 8 with (fail)
      go_loopw [19] (fun i wq => ∃ k : Nat, k ≤ 16 ∧ i = .int .i64 k ∧ Row wq bi .u32 132 ini ∧ Row wq (w.heap.size + 1 + 1) .u8 100 (List.replicate 64 0) ∧ Row wq bx .u32 132 (Cx.addP xr ini k) ∧ Below w.heap.size w wq)
        (fun i _ => 16 - (intOf i).toNat)
      case atStart => exact ⟨0, by omega, rfl, HRI.out, HRZ.out, by rw [Cx.addP_zero]; exact HRX.out, HB1.out⟩
      case round =>
        clear HRI HRZ HRX HB1
        obtain ⟨k, hk, rfl, ri, rz, rx, hbel⟩ := hrel
        by_cases hlt2 : k < 16
        · have cx := rx.cell k (by rw [Cx.addP_length xr ini k hk hrl HIL.out]; exact hlt2)
          rw [Cx.addP_get xr ini k hlt2 hrl HIL.out] at cx
          have ci := ri.cell k (by rw [HIL.out]; exact hlt2)
          have fx := rx.free k
          have hw := add32 (xr.getD k 0) (ini.getD k 0)
          have rx' := fun m => show Row ((wr.drewN m).setCell ⟨bx, k, none⟩ (.int .u32 ((xr.getD k 0 + ini.getD k 0) % Sx.M : Nat))) bx .u32 132 _ from Row.set (w := wr.drewN m) rx k ((xr.getD k 0 + ini.getD k 0) % Sx.M)
          rw [Cx.addP_set xr ini k hlt2 hrl HIL.out] at rx'
          have hbb := fun m => (show Below w.heap.size w (wr.drewN m) from hbel.trans ⟨rfl, rfl, rfl, Nat.le_refl _, fun _ _ => rfl⟩).setCell (p := ⟨bx, k, none⟩) (by simp; omega) (.int .u32 ((xr.getD k 0 + ini.getD k 0) % Sx.M : Nat))
          have ri' := fun m => Row.set_other (w := wr.drewN m) ri ⟨bx, k, none⟩ (.int .u32 ((xr.getD k 0 + ini.getD k 0) % Sx.M : Nat)) (by simp; omega)
          have rz' := fun m => Row.set_other (w := wr.drewN m) rz ⟨bx, k, none⟩ (.int .u32 ((xr.getD k 0 + ini.getD k 0) % Sx.M : Nat)) (by simp; omega)
          have HX := hid rx'
          have HBB := hid hbb
          have HI' := hid ri'
          have HZ' := hid rz'
          clear ri rz rx hbel rx' hbb ri' rz'
          generalize (xr.getD k 0 + ini.getD k 0) % Sx.M = z at *
          generalize xr.getD k 0 = x1 at *
          generalize ini.getD k 0 = x2 at *
          go_upto_region 10 with (fail)
          refine wp_region_noPanic ?_
          refine wp_region_hd1 7 2 rfl (by kernel_rfl) (by kernel_rfl) (fun _ _ _ _ _ h => h) ?_
          simp only [List.take_succ_cons, List.take_zero, List.drop_succ_cons, List.drop_zero]
          repeat (go_big_quiet_step (fail))
          refine wpQuiet_nil ?_
          intro m
          go_wp2
          refine NoPanic.normal ?_
          go_wp2
          go_roundw
          case rel =>
            first
              | exact ⟨k + 1, by omega, by go_num, HI'.out m, HZ'.out m, HX.out m, HBB.out m⟩
              | ((repeat apply Exists.intro); refine ⟨?_, rfl⟩; exact ⟨k + 1, by omega, by go_num, HI'.out m, HZ'.out m, HX.out m, HBB.out m⟩)
          case measure => simp [intOf]; omega
        · obtain rfl : k = 16 := by omega
          rw [Cx.addP_full xr ini hrl HIL.out] at rx
          have hsa : (ints .u32 (Cx.addM xr ini)).size = 16 := by rw [ints_size, Cx.addM_length, hrl, HIL.out]; rfl
          have HBY := hid (fun wx => bytes_any (Cx.addM xr ini) (Cx.addM_ok _ _) (by rw [Cx.addM_length, hrl, HIL.out]; rfl) wx)
          have hbl : (ints .u8 blk).size = 64 := by rw [ints_size, ← HBK2.out 10 rfl, Cx.out_length, Cx.addM_length, hrl, HIL.out]; rfl
          rw [HBK2.out 10 rfl] at HBY
          have HSA := hid hsa
          have HBZ := hid hbl
          have HRZ := hid rz
          have HBL := hid hbel
          clear hsa hbl rz hbel ri
          rw [show ((16 : Nat) : Int) = 16 from rfl]
          go_wp2_with (first
            | (refine wpList_load_row rfl _ _ rfl bx rfl _ _ _ _ rx Tryd.underlying132 rfl (by rw [HSA.out]; exact info61) ?_)
            | (go_at_call 69; refine (HBY.out _).mono ?_; rintro e w5 ⟨rfl, hb5⟩)
            | (refine wpList_store_row rfl _ _ _ rfl (w.heap.size + 1 + 1) _ rfl rfl _ _ (HRZ.out.below hb5 HRZ.out.lt) (by rw [HBZ.out]; exact info31) (by rw [HBZ.out, ints_size, List.length_replicate]) (ints_one _ _) ?_))
          exact bodyPost_ret (v := .agg (ints .u8 blk))
            (results_cell_row Tryd.results55 _ _ (w.heap.size + 1 + 1) _ _ _ _ rfl (setRow_heap _ (w.heap.size + 1 + 1) _ _ _ _ (HRZ.out.below hb5 HRZ.out.lt)) Tryd.underlying100 rfl (by rw [HBZ.out]; exact info31))
            rfl ⟨rfl, below_setRow (HBL.out.next (Nat.le_refl _) hb5) (by omega) _⟩
end Go.Proofs.YtgjkkcggcljcdaaDoor
