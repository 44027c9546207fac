/-
  Layer 3: what stream.Xor returns.
-/
import Derived.Test.YtgjkkcggcljcdaaDoorXor1
namespace Go.Proofs.YtgjkkcggcljcdaaDoor
open Go.RowKit
open Go.Lib (hid)

theorem Bld.below {w w' : World} {B b : Nat} {l : List Nat} (h : Bld w B b l) (hb : Below w.heap.size w w') : Bld w' B b l := by
  obtain ⟨hB, v, hbk, hown, hne⟩ := h
  refine ⟨hB, v, ?_, ?_, hne⟩
  · rw [hb.block b (Array.getElem?_eq_some_iff.1 hbk).1]; exact hbk
  · rw [ints_llen] at hown ⊢
    exact Own.below (w := w) hown hb
theorem Bld.lt {w : World} {B b : Nat} {l : List Nat} (h : Bld w B b l) : b < w.heap.size := by
  obtain ⟨_, v, hbk, _⟩ := h
  exact (Array.getElem?_eq_some_iff.1 hbk).1

theorem Bld.set {w : World} {B b : Nat} {l : List Nat} (h : Bld w B b l) {bb i : Nat} {T : TypeId} {cs : Array Value} (hr : w.heap[bb]? = some (.cells cs T (0, 0))) (hT : T ≠ 5) (hne : b ≠ bb) (u : Value) : Bld (w.setCell ⟨bb, i, none⟩ u) B b l := by
  obtain ⟨hB, v, hbk, hown, hno⟩ := h
  refine ⟨hB, v, ?_, ?_, hno⟩
  · rw [heap_setCell_other w ⟨bb, i, none⟩ b u hne]; exact hbk
  · exact ownsRow_setCell_other hown (Lib.ownBlock_ne hown hr hT) u
theorem ne_arr64 : (100 : TypeId) ≠ 5 := by decide

set_option maxHeartbeats 2000000 in
set_option maxRecDepth 100000 in
theorem xor_any (key nonce s : List Nat) (c : Nat) (hk : ∀ x ∈ key, x < 256) (hkl : key.length = 32) (hn : ∀ x ∈ nonce, x < 256) (hnl : nonce.length = 12) (hc : c < Sx.M) (hs : ∀ x ∈ s, x < 256) (hl : s.length ≤ 1000000) (w : World) (hT : TabQ w) :
    Calls Tryd.prog 37 #[.agg (ints .u8 key), .int .u32 (c : Int), .agg (ints .u8 nonce), .string (str s)] w fun e w' => e = .returned (.string (str (Cx.xors key c nonce s))) ∧ Below w.heap.size w w' := by
  have hs1 : (ints .u8 key).size = 32 := by rw [ints_size, hkl]
  have hs2 : (ints .u8 nonce).size = 12 := by rw [ints_size, hnl]
  have HT := hid hT
  have HBA := hid (fun c' hc' wx hTx => block_any key nonce c' hk hkl hn hnl hc' wx hTx)
  have HS := hid hs
  have HXB := hid (Cx.xors_lt key c nonce s hs)
  have HXL := hid (Cx.xors_length key c nonce s)
  have hz := str_size s
  clear hT hk hn hs
  go_enter Tryd.func37, Tryd.ntmps37
  go_upto_region 2 with (fail)
  generalize hw0 : (((w.alloc _).alloc _).alloc _) = w0
  have rk : Row w0 w.heap.size .u8 60 key := by rw [← hw0]; unfold Row; rw [heap_alloc3_0]
  have rn : Row w0 (w.heap.size + 1) .u8 64 nonce := by rw [← hw0]; unfold Row; rw [heap_alloc3_1]
  have ro : w0.heap[w.heap.size + 1 + 1]? = some (.cells #[.pointer none, .slice none 0 0] 120 (0, 0)) := by rw [← hw0, heap_alloc3_2]
  have hb0 : Below w.heap.size w w0 := by rw [← hw0]; exact (((Below.refl _ _).alloc (Nat.le_refl _) _).alloc (by simp) _).alloc (by simp; omega) _
  have hsz0 : w.heap.size + 1 + 1 < w0.heap.size := (Array.getElem?_eq_some_iff.1 ro).1
  clear hw0
  have HG := hid (Tryd.Builder_Grow_fresh (w.heap.size + 1 + 1) (w.heap.size + 1 + 1) s.length w0 (Nat.le_refl _) ro (by omega) (by omega))
  have HRK := hid rk
  have HRN := hid rn
  have HB0 := hid hb0
  clear rk rn ro hb0
  go_upto_region 3 with (go_at_call 54; refine HG.out.mono ?_; rintro e w1 ⟨rfl, hbl1, hb1⟩)
  clear HG
  have HRK1 := hid (HRK.out.below hb1 (by omega))
  have HRN1 := hid (HRN.out.below hb1 (by omega))
  have HB1 := hid (HB0.out.trans (hb1.mono (by omega)))
  have HO1 : Hid (Bld w1 (w.heap.size + 1 + 1) (w.heap.size + 1 + 1) []) := hbl1
  have hz1 := hb1.size
  clear hb1 hbl1 HRK HRN HB0
  obtain ⟨xs, hxs⟩ : ∃ xs, xs = Cx.xors key c nonce s := ⟨_, rfl⟩
  have HXS := hid hxs
  rw [← hxs] at HXB HXL
  clear hxs
  go_loopw [1, 3] (fun cc ss wr => ∃ q : Nat, (64 * q ≤ s.length ∨ 64 * q < s.length + 64) ∧ cc = .int .u32 (((c + q) % Sx.M : Nat) : Int) ∧ ss = .string (str (s.drop (64 * q))) ∧ Row wr w.heap.size .u8 60 key ∧ Row wr (w.heap.size + 1) .u8 64 nonce ∧ Bld wr (w.heap.size + 1 + 1) (w.heap.size + 1 + 1) (xs.take (64 * q)) ∧ Below w.heap.size w wr)
    (fun _ ss _ => (match ss with | .string s => s.size | _ => 0))
  case atStart => exact ⟨0, by omega, by rw [Nat.add_zero, Nat.mod_eq_of_lt hc], by simp, HRK1.out, HRN1.out, by simpa using HO1.out, HB1.out⟩
  case round =>
    clear HRK1 HRN1 HB1 HO1 hz1 hz hsz0
    obtain ⟨q, hq, rfl, rfl, rk, rn, ro, hbel⟩ := hrel
    have hzd : (str (s.drop (64 * q))).size = s.length - 64 * q := by rw [str_size, List.length_drop]
    by_cases hlt : 64 * q < s.length
    · have hcq : (c + q) % Sx.M < Sx.M := Nat.mod_lt _ (by decide)
      have HBK := hid (HBA.out _ hcq wr (HT.out.below hbel (Nat.le_refl _)))
      have hbl := Cx.block_length key ((c + q) % Sx.M) nonce
      have HBT := hid (Cx.block_lt key ((c + q) % Sx.M) nonce)
      have HTX := hid (show ∀ j, j < 64 → 64 * q + j < s.length → (xs.drop (64 * q)).getD j 0 = (s.drop (64 * q)).getD j 0 ^^^ (Cx.block key ((c + q) % Sx.M) nonce).getD j 0 from fun j h1 h2 => by rw [HXS.out]; exact Cx.xors_drop key nonce s c q j h1 h2)
      have HTK := hid (show ∀ m, xs.take (64 * q) ++ (xs.drop (64 * q)).take m = xs.take (64 * q + m) from fun m => by rw [List.take_add])
      have hTL : (xs.drop (64 * q)).length = s.length - 64 * q := by rw [List.length_drop, HXL.out]
      have hPL : (xs.take (64 * q)).length = 64 * q := by rw [List.length_take, HXL.out]; omega
      have HSD := hid (show ∀ x ∈ s.drop (64 * q), x < 256 from fun x hx => HS.out x (List.mem_of_mem_drop hx))
      have HNX := hid (show ∀ m, (str (s.drop (64 * q))).extract m (s.length - 64 * q) = str (s.drop (64 * q + m)) from fun m => by
        have := extract_mid (s.drop (64 * q)) HSD.out m (s.length - 64 * q - m)
        by_cases hm : m ≤ s.length - 64 * q
        · rw [show m + (s.length - 64 * q - m) = s.length - 64 * q from by omega] at this
          rw [this, List.drop_drop, List.take_of_length_le (by simp; omega)]
        · rw [show str (s.drop (64 * q + m)) = str [] from by rw [List.drop_eq_nil_of_le (by omega)]]
          apply ByteArray.ext
          simp [str]
          omega)
      have HCN := hid (show ((c + q) % Sx.M + 1) % Sx.M = (c + (q + 1)) % Sx.M from by rw [← Nat.add_assoc, Nat.add_mod, Nat.mod_mod, ← Nat.add_mod])
      have HCC := hid (fun _ : Nat => hcq)
      generalize (c + q) % Sx.M = cq at *
      generalize Cx.block key cq nonce = blk at *
      generalize xs.drop (64 * q) = T at *
      generalize xs.take (64 * q) = Pq at *
      have HSG : Hid (∀ j (hj : j < (str (s.drop (64 * q))).size), (str (s.drop (64 * q)))[j].toNat = (s.drop (64 * q)).getD j 0) := fun j hj => str_get _ HSD.out j hj
      generalize str (s.drop (64 * q)) = S1 at *
      generalize s.drop (64 * q) = sd at *
      obtain ⟨r, hr⟩ : ∃ r, r = s.length - 64 * q := ⟨_, rfl⟩
      rw [← hr] at hzd hTL HNX
      have HR := hid hr
      have hr1 : 1 ≤ r := by omega
      have hr2 : r ≤ 1000000 := by omega
      clear hr
      have hsz := hbel.size
      have HBEL := hid hbel
      have HO := hid ro
      have HRK := hid rk
      have HRN := hid rn
      have hbs : (ints .u8 blk).size = 64 := by rw [ints_size, hbl]
      have HBS := hid hbs
      clear ro hbel hcq hbs
      go_upto_region 5 with (first
        | (refine wpList_load_row rfl _ _ rfl w.heap.size rfl _ _ _ _ HRK.out Tryd.underlying60 rfl (by rw [hs1]; exact info23) ?_)
        | (refine wpList_load_row rfl _ _ rfl (w.heap.size + 1) rfl _ _ _ _ HRN.out Tryd.underlying64 rfl (by rw [hs2]; exact info26) ?_)
        | (go_at_call 55; refine HBK.out.mono ?_; rintro e w2 ⟨rfl, hb2⟩)
        | (refine wpList_store_row rfl _ _ _ rfl _ _ rfl rfl _ _ (heap_alloc_new _ _) (by rw [HBS.out]; exact info31) (by rw [HBS.out]; rfl) (ints_one _ _) ?_))
      rw [World.setRow_alloc_new]
      have HRB := hid (show Row (w2.alloc (.cells (ints .u8 blk) 100)) w2.heap.size .u8 100 blk from heap_alloc_new _ _)
      have hsz2 := hb2.size
      have HB3 := hid ((HBEL.out.trans (hb2.mono hsz)).alloc (by omega) (.cells (ints .u8 blk) 100))
      have HO3 := hid ((HO.out.below hb2).below ((Below.refl w2.heap.size w2).alloc (Nat.le_refl _) (.cells (ints .u8 blk) 100)))
      have HRK3 := hid ((HRK.out.below hb2 HRK.out.lt).alloc (.cells (ints .u8 blk) 100))
      have HRN3 := hid ((HRN.out.below hb2 HRN.out.lt).alloc (.cells (ints .u8 blk) 100))
      have hlo := HO.out.lt
      clear hb2 HO HRK HRN HBEL HBK rk rn
      generalize w2.alloc _ = w3 at *
      obtain ⟨bb, hbb⟩ : ∃ bb, bb = w2.heap.size := ⟨_, rfl⟩
      rw [← hbb] at hsz2 HRB ⊢
      have hbo : w.heap.size + 1 + 1 < bb := by omega
      clear hbb hsz2 hlo
      obtain ⟨cnt, hcnt⟩ : ∃ cnt, cnt = min 64 r := ⟨_, rfl⟩
      have hcn1 : cnt ≤ 64 := by omega
      have hcn2 : cnt ≤ r := by omega
      have hcn3 : 1 ≤ cnt := by omega
      have HCT := hid hcnt
      have hmin : min 64 (r : Int) = (cnt : Int) := by omega
      clear hcnt
      go_upto_region 7 with (fail)
      clear hmin
      go_loopw [27] (fun i wq => ∃ k : Nat, k ≤ cnt ∧ i = .int .i64 k ∧ Row wq bb .u8 100 (Cx.mixd T blk k) ∧ Row wq w.heap.size .u8 60 key ∧ Row wq (w.heap.size + 1) .u8 64 nonce ∧ Bld wq (w.heap.size + 1 + 1) (w.heap.size + 1 + 1) Pq ∧ Below w.heap.size w wq)
        (fun i _ => cnt - (intOf i).toNat)
      case atStart => exact ⟨0, by omega, rfl, by rw [Cx.mixd_zero]; exact HRB.out, HRK3.out, HRN3.out, HO3.out, HB3.out⟩
      case round =>
        clear HRB HRK3 HRN3 HO3 HB3
        obtain ⟨k, hk, rfl, rb, rk, rn, ro, hbel⟩ := hrel
        by_cases hlt2 : k < cnt
        · have cb := rb.cell k (by rw [Cx.mixd_length _ _ _ (by omega) (by omega)]; omega)
          rw [Cx.mixd_get _ _ _ (by omega)] at cb
          have fb := rb.free k
          have g1 := getD_lt (by omega) HBT.out k
          have g2 := getD_lt (by omega) HSD.out k
          have hx := HTX.out k (by omega) (by have := HR.out; omega)
          rw [Nat.xor_comm] at hx
          have hxo := xor8 _ _ g1 g2
          rw [← hx] at hxo
          have hks : k < S1.size := by omega
          have hsg := HSG.out k hks
          have hbd := fun m => show Below w.heap.size w (wr.drewN m) from hbel.trans ⟨rfl, rfl, rfl, Nat.le_refl _, fun _ _ => rfl⟩
          have HX := hid (fun m => show Row ((wr.drewN m).setCell ⟨bb, k, none⟩ (.int .u8 (T.getD k 0 : Nat))) bb .u8 100 (Cx.mixd T blk (k + 1)) from by
            rw [← Cx.mixd_set T blk k (by omega) (by omega)]
            exact Row.set (w := wr.drewN m) rb k _)
          have HK' := hid (fun m => Row.set_other (w := wr.drewN m) rk ⟨bb, k, none⟩ (.int .u8 (T.getD k 0 : Nat)) (by simp; omega))
          have HN' := hid (fun m => Row.set_other (w := wr.drewN m) rn ⟨bb, k, none⟩ (.int .u8 (T.getD k 0 : Nat)) (by simp; omega))
          have HO' := hid (fun m => Bld.set (w := wr.drewN m) ro (i := k) rb ne_arr64 (by omega) (.int .u8 (T.getD k 0 : Nat)))
          have HBB := hid (fun m => (hbd m).setCell (p := ⟨bb, k, none⟩) (by simp; omega) (.int .u8 (T.getD k 0 : Nat)))
          clear rb rk rn ro hbel hbd hx
          generalize T.getD k 0 = z at *
          generalize blk.getD k 0 = x1 at *
          generalize sd.getD k 0 = x2 at *
          go_upto_region 9 with (fail)
          refine wp_region_noPanic ?_
          refine wp_region_hd1 8 1 rfl (by kernel_rfl) (by kernel_rfl) (fun _ _ _ _ _ h => h) ?_
          simp only [List.take_succ_cons, List.take_zero, List.drop_succ_cons, List.drop_zero]
          repeat (go_big_quiet_step (fail))
          refine wpQuiet_nil ?_
          intro m
          go_wp2
          refine NoPanic.normal ?_
          go_wp2
          go_roundw
          case rel =>
            first
              | exact ⟨k + 1, by omega, by go_num, HX.out m, HK'.out m, HN'.out m, HO'.out m, HBB.out m⟩
              | ((repeat apply Exists.intro); refine ⟨?_, rfl⟩; exact ⟨k + 1, by omega, by go_num, HX.out m, HK'.out m, HN'.out m, HO'.out m, HBB.out m⟩)
          case measure => simp [intOf]; omega
        · obtain rfl : k = cnt := by omega
          have hsl := fun wx => slice_hi wx 100 5 64 k bb Tryd.underlying100 hcn1 (by decide) info5'
          have hsz3 := hbel.size
          have hlo := ro.lt
          have HWR := hid (bwrite_any (w.heap.size + 1 + 1) (w.heap.size + 1 + 1) Pq ⟨bb, 0, none⟩ k 64 (T.take k) wr ro (by rw [List.length_take]; omega) (fun j hj => by
            rw [Addr.add_mid, Nat.zero_add, rb.cell j (by rw [Cx.mixd_length _ _ _ (by omega) (by omega)]; omega), Cx.mixd_take _ _ _ _ (by omega) hj]
            simp [List.getD_eq_getElem?_getD, hj]) (by omega) (by omega))
          have HRK := hid rk
          have HRN := hid rn
          have HBL := hid hbel
          have hcw := add32 cq 1
          have hcz : cq < 4294967296 := HCC.out 0
          clear rk rn hbel ro rb
          go_upto_region 12 with (go_at_call 56; refine HWR.out.mono ?_; rintro e w5 ⟨rfl, ho5, hb5⟩)
          clear hsl
          have HO5 := hid ho5
          have HB5 := hid hb5
          clear ho5 hb5 HWR
          go_wp2
          have hk64 : k = 64 ∨ (k = r ∧ r < 64) := by have := HCT.out; omega
          have hrs := HR.out
          refine ⟨⟨q + 1, by omega, ?_, ?_, HRK.out.below HB5.out (by omega), HRN.out.below HB5.out (by omega), ?_, HBL.out.trans (HB5.out.mono (by omega))⟩, ?_⟩
          · congr 1
            rw [← HCN.out]
            unfold Sx.M
            omega
          · rw [HNX.out k]
            rcases hk64 with h | ⟨h, h'⟩
            · rw [h, Nat.mul_succ]
            · rw [List.drop_eq_nil_of_le (by omega), List.drop_eq_nil_of_le (by omega)]
          · have ho := HO5.out
            rw [HTK.out k] at ho
            rcases hk64 with h | ⟨h, h'⟩
            · rw [h] at ho
              rw [Nat.mul_succ]
              exact ho
            · have hxl := HXL.out
              rw [List.take_of_length_le (by omega)] at ho ⊢
              exact ho
          · show (S1.extract k r).size < S1.size
            rw [HNX.out k, hzd, str_size, List.length_drop]
            omega
    · have hz0 : (str (s.drop (64 * q))).size = 0 := by omega
      have hxl := HXL.out
      rw [List.take_of_length_le (by omega)] at ro
      have hro : Lib.BuilderAt 120 5 (w.heap.size + 1 + 1) (w.heap.size + 1 + 1) (.pointer (some ⟨w.heap.size + 1 + 1, 0, none⟩)) (ints .u8 xs).toList wr := ro
      rw [byteCells_ints xs HXB.out] at hro
      have hlo := ro.lt
      have HST := hid (Tryd.Builder_String_any (w.heap.size + 1 + 1) (w.heap.size + 1 + 1) (xs.map UInt8.ofNat) wr (Or.inr hro) (by omega))
      have HBL := hid hbel
      clear ro hro rk rn hbel hzd
      generalize str (s.drop (64 * q)) = S1 at *
      go_wp2_with (go_at_call 57; refine HST.out.mono ?_; rintro e w5 ⟨rfl, hb5⟩)
      go_ret
      exact ⟨by rw [← HXS.out]; rfl, HBL.out.trans (hb5.mono (by omega))⟩
end Go.Proofs.YtgjkkcggcljcdaaDoor
