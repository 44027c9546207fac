/-
  Layer 8: Mac of an ideal suite.
-/
import Derived.Test.YtgjkkcggcljcdaaDoorSu5
import Derived.Test.YtgjkkcggcljcdaaDoorWireA
namespace Go.Proofs.YtgjkkcggcljcdaaDoor
open Go.ChangeShapes Go.WideShapes Go.ChangeAt Go.RowKit
open Go.Lib (hid)

theorem info_sum : (Tryd.prog.info? 37).map (·.size) = some 32 := by kernel_rfl
theorem run_madeB (w : World) (s : ByteArray) : (Instr.build 97 #[(0, .string s)]).run Tryd.prog w = .ok (.agg #[.string s]) w := run_build w _ _ _ (by kernel_rfl)
/-- strings.Join(l, ""). -/
theorem join_any (bk so cap : Nat) (L : List (List Nat)) (w : World) (hA : Strs w (some ⟨bk, so, none⟩) L) (hL : L.length ≤ 1000) (hL0 : 0 < L.length) (hcap : L.length ≤ cap) (hb : L.flatten.length ≤ 1000000) :
    Calls Tryd.prog 44 #[.slice (some ⟨bk, so, none⟩) L.length cap, .string ⟨#[]⟩] w fun e w' => e = .returned (.string (str L.flatten)) ∧ Below w.heap.size w w' := by
  have hj : Lib.join ((L.map str).map (·.data.toList)) (⟨#[]⟩ : ByteArray).data.toList = L.flatten.map UInt8.ofNat := by
    unfold Lib.join
    rw [List.map_map, List.map_flatten]
    exact inter_nil _
  have HJ := Tryd.strings_Join bk so cap (L.map str) (⟨#[]⟩ : ByteArray) w (fun j y hy => by
    have hlt : j < L.length := by have := (List.getElem?_eq_some_iff.1 hy).1; rwa [List.length_map] at this
    obtain ⟨sb, s2, ha, hc⟩ := hA j hlt
    injection ha with ha
    injection ha with h1 h2 _
    subst h1 h2
    rw [hc]
    rw [List.getElem?_map, List.getElem?_eq_getElem hlt] at hy
    rw [List.getD_eq_getElem?_getD, List.getElem?_eq_getElem hlt]
    simpa using hy) (by
    obtain ⟨sb, s2, ha, hc⟩ := hA 0 hL0
    injection ha with ha
    injection ha with h1 h2 _
    subst h1
    exact block_lt_of_cell hc) (by rw [List.length_map]; omega) (by rw [List.length_map]; omega) (by rw [hj, List.length_map]; omega)
  rw [hj, List.length_map, show (⟨(L.flatten.map UInt8.ofNat).toArray⟩ : ByteArray) = str L.flatten from rfl] at HJ
  exact HJ
/-- A Mac. -/
def Iv.sign (v : V) (t : ByteArray) : List Nat × V := (fresh v 24 v.M.length, { v with d := v.d + 24, M := Mp.put v.M (fresh v 24 v.M.length) t })

set_option maxHeartbeats 1000000 in
set_option maxRecDepth 100000 in
theorem sign_any (b b1 b2 b3 : Nat) (v : Iv.V) (hT : ∀ x ∈ v.T, x < 256) (hT0 : 0 < v.T.length) (hTl : v.T.length ≤ 1000000) (hd : v.d ≤ 4000000000000000000) (hM : v.M.length ≤ 1000000000)
    (bk so cap : Nat) (L : List (List Nat)) (hL : L.length ≤ 1000) (hL0 : 0 < L.length) (hcap : L.length ≤ cap) (hLb : L.flatten.length ≤ 1000000) (hbk : bk ≠ b) (w : World) (hA : Strs w (some ⟨bk, so, none⟩) L) (h : IsI w b b1 b2 b3 v) :
    Calls Tryd.prog 25 #[.pointer (some ⟨b, 0, none⟩), .slice (some ⟨bk, so, none⟩) L.length cap] w fun e w' => e = .returned (.agg (ints .u8 (Iv.sign v (str L.flatten)).1)) ∧
      IsI w' b b1 b2 b3 (Iv.sign v (str L.flatten)).2 ∧ KeptP (fun k => k = b ∨ k = b3) w w' := by
  have HH := hid h
  have hbl := (Array.getElem?_eq_some_iff.1 h.row).1
  have HA := hid hA
  have hbkl : bk < w.heap.size := by
    obtain ⟨sb, s2, ha, hc⟩ := hA 0 hL0
    injection ha with ha
    injection ha with h1 h2 _
    subst h1
    exact block_lt_of_cell hc
  obtain ⟨r, hr⟩ : ∃ r, r = Iv.sign v (str L.flatten) := ⟨_, rfl⟩
  rw [← hr]
  have HRR := hid (show r = (Iv.fresh v 24 v.M.length, { v with d := v.d + 24, M := Mp.put v.M (Iv.fresh v 24 v.M.length) (str L.flatten) }) from by rw [hr, Iv.sign])
  clear h hr hA
  go_enter Tryd.func25, Tryd.ntmps25
  go_upto_region 2 with (fail)
  have hzA : (w.alloc (.cells #[.int .u8 0, .int .u8 0, .int .u8 0, .int .u8 0, .int .u8 0, .int .u8 0, .int .u8 0, .int .u8 0, .int .u8 0, .int .u8 0, .int .u8 0, .int .u8 0, .int .u8 0, .int .u8 0, .int .u8 0, .int .u8 0, .int .u8 0, .int .u8 0, .int .u8 0, .int .u8 0, .int .u8 0, .int .u8 0, .int .u8 0, .int .u8 0, .int .u8 0, .int .u8 0, .int .u8 0, .int .u8 0, .int .u8 0, .int .u8 0, .int .u8 0, .int .u8 0] 37)).heap.size = w.heap.size + 1 := World.size_alloc _ _
  have HC0 := hid (show (w.alloc (.cells #[.int .u8 0, .int .u8 0, .int .u8 0, .int .u8 0, .int .u8 0, .int .u8 0, .int .u8 0, .int .u8 0, .int .u8 0, .int .u8 0, .int .u8 0, .int .u8 0, .int .u8 0, .int .u8 0, .int .u8 0, .int .u8 0, .int .u8 0, .int .u8 0, .int .u8 0, .int .u8 0, .int .u8 0, .int .u8 0, .int .u8 0, .int .u8 0, .int .u8 0, .int .u8 0, .int .u8 0, .int .u8 0, .int .u8 0, .int .u8 0, .int .u8 0, .int .u8 0] 37)).heap[w.heap.size]? = some (.cells #[.int .u8 0, .int .u8 0, .int .u8 0, .int .u8 0, .int .u8 0, .int .u8 0, .int .u8 0, .int .u8 0, .int .u8 0, .int .u8 0, .int .u8 0, .int .u8 0, .int .u8 0, .int .u8 0, .int .u8 0, .int .u8 0, .int .u8 0, .int .u8 0, .int .u8 0, .int .u8 0, .int .u8 0, .int .u8 0, .int .u8 0, .int .u8 0, .int .u8 0, .int .u8 0, .int .u8 0, .int .u8 0, .int .u8 0, .int .u8 0, .int .u8 0, .int .u8 0] 37 (0, 0)) from heap_alloc_new _ _)
  have HB0 := hid (show Below w.heap.size w (w.alloc (.cells #[.int .u8 0, .int .u8 0, .int .u8 0, .int .u8 0, .int .u8 0, .int .u8 0, .int .u8 0, .int .u8 0, .int .u8 0, .int .u8 0, .int .u8 0, .int .u8 0, .int .u8 0, .int .u8 0, .int .u8 0, .int .u8 0, .int .u8 0, .int .u8 0, .int .u8 0, .int .u8 0, .int .u8 0, .int .u8 0, .int .u8 0, .int .u8 0, .int .u8 0, .int .u8 0, .int .u8 0, .int .u8 0, .int .u8 0, .int .u8 0, .int .u8 0, .int .u8 0] 37)) from (Below.refl _ _).alloc (Nat.le_refl _) _)
  generalize w.alloc _ = w4 at *
  have HB6 := hid (HB0.out.alloc HB0.out.size (.cells #[.int .u8 0, .int .u8 0, .int .u8 0, .int .u8 0, .int .u8 0, .int .u8 0, .int .u8 0, .int .u8 0, .int .u8 0, .int .u8 0, .int .u8 0, .int .u8 0, .int .u8 0, .int .u8 0, .int .u8 0, .int .u8 0, .int .u8 0, .int .u8 0, .int .u8 0, .int .u8 0, .int .u8 0, .int .u8 0, .int .u8 0, .int .u8 0, .int .u8 0, .int .u8 0, .int .u8 0, .int .u8 0, .int .u8 0, .int .u8 0, .int .u8 0, .int .u8 0] 37))
  have HC6 := hid (show (w4.alloc (.cells #[.int .u8 0, .int .u8 0, .int .u8 0, .int .u8 0, .int .u8 0, .int .u8 0, .int .u8 0, .int .u8 0, .int .u8 0, .int .u8 0, .int .u8 0, .int .u8 0, .int .u8 0, .int .u8 0, .int .u8 0, .int .u8 0, .int .u8 0, .int .u8 0, .int .u8 0, .int .u8 0, .int .u8 0, .int .u8 0, .int .u8 0, .int .u8 0, .int .u8 0, .int .u8 0, .int .u8 0, .int .u8 0, .int .u8 0, .int .u8 0, .int .u8 0, .int .u8 0] 37)).heap[w.heap.size]? = some (.cells #[.int .u8 0, .int .u8 0, .int .u8 0, .int .u8 0, .int .u8 0, .int .u8 0, .int .u8 0, .int .u8 0, .int .u8 0, .int .u8 0, .int .u8 0, .int .u8 0, .int .u8 0, .int .u8 0, .int .u8 0, .int .u8 0, .int .u8 0, .int .u8 0, .int .u8 0, .int .u8 0, .int .u8 0, .int .u8 0, .int .u8 0, .int .u8 0, .int .u8 0, .int .u8 0, .int .u8 0, .int .u8 0, .int .u8 0, .int .u8 0, .int .u8 0, .int .u8 0] 37 (0, 0)) from (Below.heap_alloc w4 _ _ (by omega)).trans HC0.out)
  have HF6 := hid (show (w4.alloc (.cells #[.int .u8 0, .int .u8 0, .int .u8 0, .int .u8 0, .int .u8 0, .int .u8 0, .int .u8 0, .int .u8 0, .int .u8 0, .int .u8 0, .int .u8 0, .int .u8 0, .int .u8 0, .int .u8 0, .int .u8 0, .int .u8 0, .int .u8 0, .int .u8 0, .int .u8 0, .int .u8 0, .int .u8 0, .int .u8 0, .int .u8 0, .int .u8 0, .int .u8 0, .int .u8 0, .int .u8 0, .int .u8 0, .int .u8 0, .int .u8 0, .int .u8 0, .int .u8 0] 37)).heap[w.heap.size + 1]? = some (.cells #[.int .u8 0, .int .u8 0, .int .u8 0, .int .u8 0, .int .u8 0, .int .u8 0, .int .u8 0, .int .u8 0, .int .u8 0, .int .u8 0, .int .u8 0, .int .u8 0, .int .u8 0, .int .u8 0, .int .u8 0, .int .u8 0, .int .u8 0, .int .u8 0, .int .u8 0, .int .u8 0, .int .u8 0, .int .u8 0, .int .u8 0, .int .u8 0, .int .u8 0, .int .u8 0, .int .u8 0, .int .u8 0, .int .u8 0, .int .u8 0, .int .u8 0, .int .u8 0] 37 (0, 0)) from hzA ▸ heap_alloc_new _ _)
  have hz6 : (w4.alloc (.cells #[.int .u8 0, .int .u8 0, .int .u8 0, .int .u8 0, .int .u8 0, .int .u8 0, .int .u8 0, .int .u8 0, .int .u8 0, .int .u8 0, .int .u8 0, .int .u8 0, .int .u8 0, .int .u8 0, .int .u8 0, .int .u8 0, .int .u8 0, .int .u8 0, .int .u8 0, .int .u8 0, .int .u8 0, .int .u8 0, .int .u8 0, .int .u8 0, .int .u8 0, .int .u8 0, .int .u8 0, .int .u8 0, .int .u8 0, .int .u8 0, .int .u8 0, .int .u8 0] 37)).heap.size = w.heap.size + 2 := by rw [World.size_alloc, hzA]
  clear HB0 HC0 hzA
  generalize w4.alloc _ = w6 at *
  have H6 := hid (HH.out.below HB6.out)
  obtain ⟨_, _, _, _, c4, _⟩ := suC_cells H6.out.row
  have hlen := fun m => (H6.out.m3.at (w' := w6.drewN m) rfl).len Tryd.underlying51 3
  have hsl := fun wx => slice_all wx 37 5 32 (w.heap.size + 1) Tryd.underlying37 (by decide) info5'
  have HNU := hid (fun wx => snumber_any v.M.length (by omega) wx)
  have HDR := hid (fun wx hx => draw_any b v.T v.d b1 b2 b3 24 hT hT0 hTl hd (by omega) 57 wx hx)
  have HXB := hid (Iv.fresh_lt v 24 v.M.length hT)
  clear hT hT0 hTl hd
  refine wp_region_noPanic ?_
  refine wp_region_fht [0, 7] [1, 2, 3, 4, 5] [6, 8, 9, 10] (by kernel_rfl) (by kernel_rfl) (fun _ _ _ _ _ h => h) (by simp only [List.filterMap_cons, List.filterMap_nil, List.getElem?_cons_succ, List.getElem?_cons_zero]; rfl) (by simp only [List.filterMap_cons, List.filterMap_nil, List.getElem?_cons_succ, List.getElem?_cons_zero]; rfl) (by simp only [List.filterMap_cons, List.filterMap_nil, List.getElem?_cons_succ, List.getElem?_cons_zero]; rfl) (fun hne => ?_)
  show wpQuiet _ _ _ _ [_, _] _
  go_big_quiet_step (fail)
  go_big_quiet_step (fail)
  refine wpQuiet_nil ?_
  show wpQuiet _ _ _ _ [_, _, _, _, _] _
  go_big_quiet_step (fail)
  go_big_quiet_step (fail)
  go_big_quiet_step (fail)
  go_big_quiet_step (fail)
  go_big_quiet_step (fail)
  refine wpQuiet_nil ?_
  intro m
  show wpList _ _ _ [_, _, _, _] _ _
  clear hlen hsl hne c4
  have H6m : IsI (w6.drewN m) b b1 b2 b3 v := H6.out.kept (p := fun _ => False) ⟨rfl, rfl, rfl, Nat.le_refl _, fun _ _ _ => rfl⟩ id id id id
  have hk6 : KeptP (fun k => k = b) w6 (w6.drewN m) := ⟨rfl, rfl, rfl, Nat.le_refl _, fun _ _ _ => rfl⟩
  generalize hw7 : w6.drewN m = w7 at *
  go_wp2_with fail
  refine (HNU.out _).mono ?_
  rintro e w8 ⟨rfl, hb8⟩
  go_wp2_with fail
  refine (HDR.out _ (H6m.below hb8).row).mono ?_
  rintro e w9 ⟨rfl, hr9, hk9⟩
  have hs1 : (str (Wx.num8 v.M.length)).size = 8 := by rw [str_size, Wx.num8_length]
  have hs2 : (str (Iv.take v.T v.d 24)).size = 24 := by rw [str_size, Iv.take_length]
  have hap : str (Wx.num8 v.M.length) ++ str (Iv.take v.T v.d 24) = str (Iv.fresh v 24 v.M.length) := str_append _ _
  have hXl : (Iv.fresh v 24 v.M.length).length = 32 := Iv.fresh_length _ _ _
  have hk79 : KeptB b w7 w9 := (KeptB.of_below hb8).trans hk9
  have hk69 : KeptP (fun k => k = b) w6 w9 := hk6.trans (KeptP.of_keptB hk79 rfl)
  have hF9 : w9.heap[w.heap.size + 1]? = _ := (hk69.block _ (by omega) (by omega)).trans HF6.out
  go_wp2_with (refine wpList_copy_whole rfl _ _ rfl (w.heap.size + 1) 32 _ HXB.out hXl rfl (congrArg Value.string hap) _ _ hF9 rfl ?_; intro w10 hr10 hk10)
  refine NoPanic.normal ?_
  have hk910 : KeptP (fun k => k = w.heap.size + 1) w9 w10 := KeptP.of_keptB hk10 rfl
  have l2 := HH.out.m2.lt
  have l1 := HH.out.m1.lt
  have l3 := HH.out.m3.lt
  have hB6 := HB6.out.size
  have hs69 := hk69.size
  have hs910 := hk910.size
  have hkA : ∀ k, k < w.heap.size + 1 → k ≠ b → w10.heap[k]? = w6.heap[k]? := fun k h1 h2 => (hk910.block k (by omega) (by omega)).trans (hk69.block k (by omega) h2)
  have HR10 := hid (show w10.heap[b]? = some (.cells (suC v.T (v.d + 24) b1 b2 b3) 57 (0, 0)) from (hk910.block b (by omega) (by omega)).trans hr9)
  have hne := H6.out.ne
  have M1 := hid (H6.out.m1.at (hkA b1 (by omega) hne.1))
  have M2 := hid (H6.out.m2.at (hkA b2 (by omega) hne.2.1))
  have M3 := hid (H6.out.m3.at (hkA b3 (by omega) hne.2.2))
  have HC10 := hid ((hkA w.heap.size (by omega) (by omega)).trans HC6.out)
  have HL10 := hid hr10
  have HK10 := hid (show KeptP (fun k => k = b) w w10 from by
    refine ⟨hk910.os.trans (hk69.os.trans HB6.out.os), hk910.tape.trans (hk69.tape.trans HB6.out.tape), hk910.output.trans (hk69.output.trans HB6.out.output), by omega, fun k h1 h2 => ?_⟩
    rw [hkA k (by omega) h2, HB6.out.block k h1])
  have HA10 := hid (show Strs w10 (some ⟨bk, so, none⟩) L from by
    intro i hi
    obtain ⟨sb, s2, ha, hc⟩ := HA.out i hi
    refine ⟨sb, s2, ha, ?_⟩
    injection ha with ha
    injection ha with h1 h2 _
    subst h1
    rw [← hc]
    simp only [World.cell?, HK10.out.block bk hbkl hbk])
  have hneH := hid (show b1 ≠ b ∧ b2 ≠ b ∧ b3 ≠ b from hne)
  have hs10 : w.heap.size + 2 ≤ w10.heap.size := by omega
  clear HC6 HF6 H6 HNU HDR H6m hk6 hb8 hr9 hk9 hs1 hs2 hap hk79 hk69 hF9 hr10 hk10 hk910 hkA hB6 hs69 hs910 hw7 hz6 HB6 hne
  have hszX : (ints .u8 (Iv.fresh v 24 v.M.length)).size = 32 := by rw [ints_size, hXl]
  generalize Iv.fresh v 24 v.M.length = X at *
  have HJ := hid (fun wx hx => join_any bk so cap L wx hx hL hL0 hcap hLb)
  generalize str L.flatten = SF at *
  go_upto_region 3 with (fail)
  refine wp_region_noPanic ?_
  refine wp_region_hd (fun u => Below w10.heap.size w10 u) 8 1 rfl (by kernel_rfl) (by kernel_rfl) ((Below.refl _ _).drew) (fun _ _ _ _ _ h => h) ?_
  intro Z φ hne hSφ hφ
  have HSZ := hid hSφ
  have C1 := hid (fun z => calls_class hφ ((HJ.out (φ z) (HA10.out.below (hSφ z))).mono fun e w' h => ⟨h.1, (hSφ z).trans (h.2.mono (hSφ z).size)⟩))
  have cz : ∀ z, (φ z).cell? ⟨b, 4, none⟩ = some (.map (some b3)) := fun z => (suC_cells (((hSφ z).block b (by omega)).trans HR10.out)).2.2.2.2.1
  have RX := hid (show ∀ u : World, (∃ z, u = φ z) → u.heap[w.heap.size + 1]? = some (.cells (ints .u8 X) 37 (0, 0)) from fun u ⟨z, hz⟩ => by rw [hz]; exact ((hSφ z).block _ (by omega)).trans HL10.out)
  clear hSφ hφ
  simp only [List.take_succ_cons, List.take_zero, List.drop_succ_cons, List.drop_zero]
  repeat (go_big_quiet_step (fail))
  refine wpQuiet_load_whole rfl _ _ rfl (w.heap.size + 1) rfl _ _ _ _ RX.out Tryd.underlying37 rfl (by rw [ints_llen, hXl]; exact info_sum) ?_
  simp only [Act.put, List.setIfInBounds_toArray, List.set_cons_zero, List.set_cons_succ]
  repeat (go_big_quiet_step (first | (go_at_call 44; exact C1.out _) | (refine wpQuiet_mk rfl _ _ rfl _ rfl _ (fun w _ => run_madeB w _) ?_)))
  refine wpQuiet_nil ?_
  intro z
  have HB := hid (HSZ.out z)
  have M3m : MapM wayM (φ z) b3 v.M := M3.out.at (HB.out.block b3 (by omega))
  clear cz RX C1 HSZ
  generalize φ z = w20 at *
  go_wp2_with (refine wpList_put _ rfl _ _ _ _ rfl wayM 97 law_Sum Tryd.underlying51 b3 v.M rfl M3m X rfl ⟨hXl, HXB.out⟩ SF rfl ?_; intro w11 hm11 hk11)
  refine NoPanic.normal ?_
  have hsB := HB.out.size
  have HL11 := hid ((hk11.block (w.heap.size + 1) (by omega) (by omega)).trans ((HB.out.block _ (by omega)).trans HL10.out))
  have HC11 := hid ((hk11.block w.heap.size (by omega) (by omega)).trans ((HB.out.block _ (by omega)).trans HC10.out))
  have HM11 := hid hm11
  have HK11 := hid hk11
  clear hm11 hk11 M3m
  go_wp2_with (first
    | (refine wpList_load_row_g rfl _ _ rfl (w.heap.size + 1) rfl _ _ _ _ HL11.out Tryd.underlying37 rfl (by rw [hszX]; exact info_sum) ?_)
    | (refine wpList_store_ints rfl _ _ _ rfl X (by rw [hXl]; exact info_sum) w.heap.size rfl rfl _ _ HC11.out (by rw [hXl]; rfl) ?_; intro w12 hr12 hk12))
  refine bodyPost_ret (v := .agg _) (results_cell_row Tryd.results25 _ _ w.heap.size _ _ _ _ rfl hr12 Tryd.underlying37 rfl (by rw [hszX]; kernel_rfl)) rfl ?_
  have hK := HK11.out
  have hs11 := hK.size
  have hnn := hneH.out
  have hnm := HH.out
  have kB := HB.out
  have hk : ∀ k, k < w.heap.size → k ≠ b → k ≠ b3 → w12.heap[k]? = w.heap[k]? := fun k h1 h2 h3 =>
    (hk12.block k (by omega) (by omega)).trans ((hK.block k (by omega) h3).trans ((kB.block k (by omega)).trans (HK10.out.block k h1 h2)))
  have hq : ∀ k, k < w.heap.size → k ≠ b3 → w12.heap[k]? = w10.heap[k]? := fun k h1 h3 => (hk12.block k (by omega) (by omega)).trans ((hK.block k (by omega) h3).trans (kB.block k (by omega)))
  rw [HRR.out]
  refine ⟨rfl, ⟨(hq b (by omega) (Ne.symm hnn.2.2)).trans HR10.out, M1.out.at (hq b1 (by omega) hnm.n13), M2.out.at (hq b2 (by omega) hnm.n23), HM11.out.at (hk12.block b3 (by omega) (by omega)), hnm.n12, hnm.n13, hnm.n23⟩, ?_⟩
  exact ⟨hk12.os.trans (hK.os.trans (kB.os.trans HK10.out.os)), hk12.tape.trans (hK.tape.trans (kB.tape.trans HK10.out.tape)), hk12.output.trans (hK.output.trans (kB.output.trans HK10.out.output)), by have := hk12.size; omega, fun k h1 h2 => hk k h1 (fun e => h2 (Or.inl e)) (fun e => h2 (Or.inr e))⟩

set_option maxHeartbeats 1000000 in
set_option maxRecDepth 100000 in
theorem smac_any (b b1 b2 b3 : Nat) (v : Iv.V) (hT : ∀ x ∈ v.T, x < 256) (hT0 : 0 < v.T.length) (hTl : v.T.length ≤ 1000000) (hd : v.d ≤ 4000000000000000000) (hM : v.M.length ≤ 1000000000)
    (bk so cap : Nat) (L : List (List Nat)) (hL : L.length ≤ 1000) (hL0 : 0 < L.length) (hcap : L.length ≤ cap) (hLb : L.flatten.length ≤ 1000000) (hbk : bk ≠ b) (w : World) (hA : Strs w (some ⟨bk, so, none⟩) L) (h : IsI w b b1 b2 b3 v) :
    Calls Tryd.prog 12 #[.pointer (some ⟨b, 0, none⟩), .slice (some ⟨bk, so, none⟩) L.length cap] w fun e w' => e = .returned (.agg (ints .u8 (Iv.sign v (str L.flatten)).1)) ∧
      IsI w' b b1 b2 b3 (Iv.sign v (str L.flatten)).2 ∧ KeptP (fun k => k = b ∨ k = b3) w w' := by
  have HD := hid (fun wx hy hx => sign_any b b1 b2 b3 v hT hT0 hTl hd hM bk so cap L hL hL0 hcap hLb hbk wx hy hx)
  have hrl : (Iv.sign v (str L.flatten)).1.length = 32 := Iv.fresh_length _ _ _
  generalize Iv.sign v (str L.flatten) = r at *
  have HH := hid h
  have HA := hid hA
  have hbl := (Array.getElem?_eq_some_iff.1 h.row).1
  clear h hA hT hT0 hTl hd hM
  go_enter Tryd.func12, Tryd.ntmps12
  go_upto_region 1 with (fail)
  have HC1 := hid (show (w.alloc (.cells #[.int .u8 0, .int .u8 0, .int .u8 0, .int .u8 0, .int .u8 0, .int .u8 0, .int .u8 0, .int .u8 0, .int .u8 0, .int .u8 0, .int .u8 0, .int .u8 0, .int .u8 0, .int .u8 0, .int .u8 0, .int .u8 0, .int .u8 0, .int .u8 0, .int .u8 0, .int .u8 0, .int .u8 0, .int .u8 0, .int .u8 0, .int .u8 0, .int .u8 0, .int .u8 0, .int .u8 0, .int .u8 0, .int .u8 0, .int .u8 0, .int .u8 0, .int .u8 0] 37)).heap[w.heap.size]? = some (.cells #[.int .u8 0, .int .u8 0, .int .u8 0, .int .u8 0, .int .u8 0, .int .u8 0, .int .u8 0, .int .u8 0, .int .u8 0, .int .u8 0, .int .u8 0, .int .u8 0, .int .u8 0, .int .u8 0, .int .u8 0, .int .u8 0, .int .u8 0, .int .u8 0, .int .u8 0, .int .u8 0, .int .u8 0, .int .u8 0, .int .u8 0, .int .u8 0, .int .u8 0, .int .u8 0, .int .u8 0, .int .u8 0, .int .u8 0, .int .u8 0, .int .u8 0, .int .u8 0] 37 (0, 0)) from heap_alloc_new w _)
  have HB1 := hid (show Below w.heap.size w (w.alloc (.cells #[.int .u8 0, .int .u8 0, .int .u8 0, .int .u8 0, .int .u8 0, .int .u8 0, .int .u8 0, .int .u8 0, .int .u8 0, .int .u8 0, .int .u8 0, .int .u8 0, .int .u8 0, .int .u8 0, .int .u8 0, .int .u8 0, .int .u8 0, .int .u8 0, .int .u8 0, .int .u8 0, .int .u8 0, .int .u8 0, .int .u8 0, .int .u8 0, .int .u8 0, .int .u8 0, .int .u8 0, .int .u8 0, .int .u8 0, .int .u8 0, .int .u8 0, .int .u8 0] 37)) from (Below.refl _ _).alloc (Nat.le_refl _) _)
  have hz1 : (w.alloc (.cells #[.int .u8 0, .int .u8 0, .int .u8 0, .int .u8 0, .int .u8 0, .int .u8 0, .int .u8 0, .int .u8 0, .int .u8 0, .int .u8 0, .int .u8 0, .int .u8 0, .int .u8 0, .int .u8 0, .int .u8 0, .int .u8 0, .int .u8 0, .int .u8 0, .int .u8 0, .int .u8 0, .int .u8 0, .int .u8 0, .int .u8 0, .int .u8 0, .int .u8 0, .int .u8 0, .int .u8 0, .int .u8 0, .int .u8 0, .int .u8 0, .int .u8 0, .int .u8 0] 37)).heap.size = w.heap.size + 1 := World.size_alloc _ _
  generalize w.alloc _ = w1 at *
  have H1 := hid (HH.out.below HB1.out)
  have HA1 := hid (HA.out.below HB1.out)
  obtain ⟨_, _, _, _, _, c5⟩ := suC_cells H1.out.row
  have m1 := HH.out.m1.lt
  have m2 := HH.out.m2.lt
  have m3 := HH.out.m3.lt
  go_wp2_with (first
    | (go_at_call 25; refine (HD.out _ HA1.out H1.out).mono ?_; rintro e w2 ⟨rfl, h2, hk2⟩)
    | (refine wpList_store_ints rfl _ _ _ rfl r.1 (by rw [hrl]; exact info_sum) w.heap.size rfl rfl _ _ ((hk2.block w.heap.size (by omega) (fun h => (h.elim (fun h => by omega) (fun h => by omega)))).trans HC1.out) (by rw [hrl]; rfl) ?_; intro w3 hr3 hk3))
  have hszr : (ints .u8 r.1).size = 32 := by rw [ints_size, hrl]
  refine bodyPost_ret (v := .agg _) (results_cell_row Tryd.results12 _ _ w.heap.size _ _ _ _ rfl hr3 Tryd.underlying37 rfl (by rw [hszr]; kernel_rfl)) rfl ?_
  have hs2 := hk2.size
  have hs3 := hk3.size
  have k3 : KeptP (fun k => k = w.heap.size) w2 w3 := KeptP.of_keptB hk3 rfl
  refine ⟨rfl, h2.kept k3 (by omega) (by omega) (by omega) (by omega), ?_⟩
  have kB := HB1.out
  exact ⟨k3.os.trans (hk2.os.trans kB.os), k3.tape.trans (hk2.tape.trans kB.tape), k3.output.trans (hk2.output.trans kB.output), by omega, fun k h1 h2 => (k3.block k (by omega) (by omega)).trans ((hk2.block k (by omega) h2).trans (kB.block k h1))⟩
end Go.Proofs.YtgjkkcggcljcdaaDoor
