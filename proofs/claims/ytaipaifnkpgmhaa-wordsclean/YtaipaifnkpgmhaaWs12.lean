/-
  Layer 15: Sort, Sorted, Compact and Clean.
-/
import Derived.Test.YtaipaifnkpgmhaaWs11
namespace Go.Proofs.Ytaipaifnkpgmhaa
open Go.ChangeShapes Go.WideShapes Go.ChangeAt Go.RowKit Go.Shelf
open Go.Lib (hid)

attribute [local go_sem] Oper.semAt_some

theorem putCells_take (d : Array (List UInt8)) (cs : Array Value) (h : d.size ≤ cs.size) : (Sort.putCells encStr 0 d cs).toList.take d.size = d.toList.map encStr := by
  apply List.ext_getElem
  · simp [Sort.putCells]; omega
  · intro i h1 h2
    have hi : i < d.size := by simpa using h2
    simp only [List.getElem_take, Sort.putCells, Array.getElem_toList, Array.getElem_mapIdx, Nat.zero_add, Nat.zero_le, true_and, hi, if_true, Nat.sub_zero, List.getElem_map]
    rw [getElem!_pos d i hi]
theorem ownS_slice {w : World} {base : Nat} {v : Value} {L : List (List Nat)} (h : OwnS w base v L) : ∃ ao cap, v = .slice ao L.length cap := ownsRow_sl h
theorem map_nm_str (Z : List (List UInt8)) : (Z.map nm).map (fun l => Value.string (str l)) = Z.map encStr := by
  rw [List.map_map]
  apply List.map_congr_left
  intro z _
  show Value.string (str (nm z)) = Value.string ⟨z.toArray⟩
  have : str (nm z) = ⟨(bts (nm z)).toArray⟩ := rfl
  rw [this, bts_nm]
theorem sortS_any (w : World) (base : Nat) (v : Value) (L : List (List Nat)) (hown : OwnS w base v L) (hL : L.length ≤ 1000) :
    Calls Try.prog 38 #[v] w fun e w' => e = .returned (.tuple #[]) ∧ OwnS w' base v ((srt L).map nm) ∧ w.grownBy w' v.ownBlock := by
  have hown0 := hown
  by_cases h0 : 0 < L.length
  · obtain ⟨hl, ⟨rfl, h1⟩ | ⟨g, cap, cur, rfl, hg, hh, hn, hc, hs, ht⟩⟩ := hown
    · omega
    · obtain ⟨g', cap', hv, _, _, _, hfr, hcell⟩ := hown0.cell h0
      simp only [Value.slice.injEq, Option.some.injEq, Addr.mk.injEq] at hv
      obtain ⟨⟨rfl, _⟩, _, rfl⟩ := hv
      have hH : Sort.Holds encStr w g 0 (L.map bts).toArray := by
        intro j hj
        have hj' : j < L.length := by simpa using hj
        rw [Nat.zero_add, hcell j hj', getElem!_pos _ j hj]
        refine ⟨?_, hfr j⟩
        simp only [List.getElem_toArray, List.getElem_map, List.getD_eq_getElem?_getD, List.getElem?_eq_getElem hj']
        rfl
      have hlt : g < w.heap.size := (Array.getElem?_eq_some_iff.1 hh).1
      have hS := Try.slices_Sort_string g 0 cap (L.map bts) w hH hlt (by rw [List.length_map]; omega)
      rw [List.length_map] at hS
      refine hS.mono ?_
      rintro e w' ⟨rfl, n, os, rfl⟩
      have hz : ((L.map bts).mergeSort fun x y => decide (x ≤ y)) = srt L := rfl
      rw [hz]
      have hrow := heap_putRow encStr (Sort.ahead w n) g 0 (srt L).toArray cur 9 hh
      have hsz : (Sort.putRow encStr (Sort.ahead w n) g 0 (srt L).toArray).heap.size = w.heap.size := Sort.size_putRow _ _ _ _ _
      have hgr : ∀ k, k < w.heap.size → (Sort.grow (Sort.putRow encStr (Sort.ahead w n) g 0 (srt L).toArray) os).heap[k]? = (Sort.putRow encStr (Sort.ahead w n) g 0 (srt L).toArray).heap[k]? := fun k hk => by
        show ((Sort.putRow encStr (Sort.ahead w n) g 0 (srt L).toArray).heap ++ os)[k]? = _
        rw [Array.getElem?_append_left (by rw [hsz]; exact hk)]
      refine ⟨rfl, ⟨?_, .inr ⟨g, cap, _, ?_, hg, (hgr g hlt).trans hrow, ?_, hc, ?_, ?_⟩⟩, ⟨rfl, rfl, rfl, ?_, fun k hk hne => ?_⟩⟩
      · simp
      · rw [List.length_map, srt_length]
      · rw [List.length_map, srt_length]; exact hn
      · simp only [Sort.putCells, Array.size_mapIdx]; exact hs
      · rw [map_nm_str, List.length_map, Nat.mul_one]
        exact putCells_take (srt L).toArray cur (by simp only [List.size_toArray, srt_length]; omega)
      · show w.heap.size ≤ ((Sort.putRow encStr (Sort.ahead w n) g 0 (srt L).toArray).heap ++ os).size
        rw [Array.size_append, hsz]; omega
      · rw [hgr k hk]
        exact heap_putRow_other _ _ _ _ _ _ (fun e => hne (by rw [e]; rfl))
  · obtain rfl : L = [] := List.eq_nil_of_length_eq_zero (by omega)
    obtain ⟨ao, cap, rfl⟩ := ownS_slice hown
    refine (Try.slices_Sort_string_none ao cap w).mono ?_
    rintro e w' ⟨rfl, rfl⟩
    have : (srt []).map nm = [] := by
      have := srt_length []
      rw [List.eq_nil_of_length_eq_zero this]
      rfl
    rw [this]
    exact ⟨rfl, hown0, ⟨rfl, rfl, rfl, Nat.le_refl _, fun _ _ _ => rfl⟩⟩
set_option maxRecDepth 100000 in
theorem collect_any (tb : Nat) (ao : Option Addr) (L : List (List Nat)) (cap : Nat) (hL : L.length ≤ 1000) (w : World) (hbx : w.heap[tb]? = some (.cells #[.slice ao L.length cap] 22 (0, 0))) (hst : Strs w ao L) :
    Calls Try.prog 37 #[.func (.func 39) #[] #[.pointer (some ⟨tb, 0, none⟩)]] w fun e w' => ∃ v, e = .returned v ∧ OwnS w' w.heap.size v L ∧ Below w.heap.size w w' := by
  have HA := hid (appendSeq_any tb ao L cap hL w hbx hst)
  clear hbx hst
  go_enter Try.func37, Try.ntmps37
  go_wp2_with (go_at_call 42; refine HA.out.mono ?_; rintro e w1 ⟨v, rfl, ho, hb⟩)
  exact bodyPost_ret (results_tmp rfl _ _ _) rfl ⟨v, rfl, ho, hb⟩
set_option maxRecDepth 100000 in
theorem sorted_any (tb : Nat) (ao : Option Addr) (L : List (List Nat)) (cap : Nat) (hL : L.length ≤ 1000) (w : World) (hbx : w.heap[tb]? = some (.cells #[.slice ao L.length cap] 22 (0, 0))) (hst : Strs w ao L) :
    Calls Try.prog 27 #[.func (.func 39) #[] #[.pointer (some ⟨tb, 0, none⟩)]] w fun e w' => ∃ v, e = .returned v ∧ OwnS w' w.heap.size v ((srt L).map nm) ∧ Below w.heap.size w w' := by
  have HC := hid (collect_any tb ao L cap hL w hbx hst)
  clear hbx hst
  go_enter Try.func27, Try.ntmps27
  go_upto_region 2 with (go_at_call 37; refine HC.out.mono ?_; rintro e w1 ⟨v, rfl, ho, hb⟩)
  have HS := hid (sortS_any w1 _ v L ho hL)
  have HLT := hid (fun b hb' => World.ownsRow.lt ho b hb')
  have HB := hid hb
  clear ho hb HC
  go_wp2_with (go_at_call 38; refine HS.out.mono ?_; rintro e w2 ⟨rfl, ho2, hg2⟩)
  exact bodyPost_ret (results_tmp rfl _ _ _) rfl ⟨v, rfl, ho2, HB.out.grown hg2 HB.out.size (fun b hb => (HLT.out b hb).1)⟩
theorem compactS_any (w : World) (base : Nat) (v : Value) (L : List (List Nat)) (hown : OwnS w base v ((srt L).map nm)) (hL : L.length ≤ 1000) (hb : ∀ l ∈ L, ∀ b ∈ l, b < 256) :
    Calls Try.prog 26 #[v] w fun e w' => ∃ v', e = .returned v' ∧ OwnS w' base v' (L.foldl Wd.ins []) ∧ w.grownBy w' v.ownBlock := by
  have hown0 := hown
  have hln : ((srt L).map nm).length = L.length := by rw [List.length_map, srt_length]
  by_cases h0 : 0 < L.length
  · obtain ⟨hl, ⟨rfl, h1⟩ | ⟨g, cap, cur, rfl, hg, hh, hn, hc, hs, ht⟩⟩ := hown
    · omega
    · obtain ⟨g', cap', hv, _, _, _, hfr, hcell⟩ := hown0.cell (by omega)
      simp only [Value.slice.injEq, Option.some.injEq, Addr.mk.injEq] at hv
      obtain ⟨⟨rfl, _⟩, _, rfl⟩ := hv
      rw [hln] at hn hcell ⊢
      have hS := Try.slices_Compact_string_cells g 0 L.length cap (fun i => str (((srt L).map nm).getD i [])) w (by omega) hn (fun j hj => by rw [Nat.zero_add]; exact hcell j hj) (fun j _ => hfr _)
      have hst : Lib.strsOf (fun i => str (((srt L).map nm).getD i [])) L.length = srt L := by
        refine List.ext_getElem? fun i => ?_
        unfold Lib.strsOf
        rw [List.getElem?_map]
        by_cases hi : i < L.length
        · have hi2 : i < (srt L).length := by rw [srt_length]; exact hi
          have hi3 : i < ((srt L).map nm).length := by rw [List.length_map]; exact hi2
          rw [List.getElem?_range hi, List.getElem?_eq_getElem hi2, Option.map_some]
          have hgd : ((srt L).map nm).getD i [] = nm (srt L)[i] := by rw [List.getD_eq_getElem?_getD, List.getElem?_eq_getElem hi3, List.getElem_map]; rfl
          show some (str (((srt L).map nm).getD i [])).data.toList = some (srt L)[i]
          rw [hgd]
          exact congrArg some (bts_nm _)
        · rw [List.getElem?_eq_none (by rw [List.length_range]; omega), List.getElem?_eq_none (by rw [srt_length]; omega)]
          rfl
      rw [hst] at hS
      refine hS.mono ?_
      rintro e w' ⟨rfl, q, rfl⟩
      have hcl := Lib.compact_length_le (srt L)
      rw [srt_length] at hcl
      have hml : ((Lib.compact (srt L) ++ List.replicate (L.length - (Lib.compact (srt L)).length) []).map encStr).length = L.length := by
        rw [List.length_map, List.length_append, List.length_replicate]; omega
      have hz : ((w.drewN q).setCells g 0 ((Lib.compact (srt L) ++ List.replicate (L.length - (Lib.compact (srt L)).length) []).map encStr)).heap[g]? = _ := heap_setCells g 9 _ 0 (w.drewN q) cur hh (by rw [hml]; omega)
      rw [← compact_srt L hb]
      refine ⟨_, rfl, ⟨?_, .inr ⟨g, cap, _, ?_, hg, hz, ?_, hc, ?_, ?_⟩⟩, ?_⟩
      · simp
      · rw [List.length_map]
      · rw [List.length_map]; omega
      · rw [List.size_toArray, List.length_append, List.length_append, List.length_take, List.length_drop, hml, Array.length_toList]; omega
      · rw [map_nm_str, List.length_map, Nat.mul_one]
        simp only [List.take_zero, List.nil_append, List.toList_toArray]
        rw [List.map_append, List.append_assoc, List.take_left' (by rw [List.length_map])]
      · have hd : w.grownBy (w.drewN q) (Value.slice (some ⟨g, 0, none⟩) L.length cap).ownBlock := ⟨rfl, rfl, rfl, Nat.le_refl _, fun _ _ _ => rfl⟩
        exact hd.trans' (grownBy_setCells _ _ rfl)
  · obtain rfl : L = [] := List.eq_nil_of_length_eq_zero (by omega)
    have hnil : (srt []).map nm = [] := List.eq_nil_of_length_eq_zero hln
    rw [hnil] at hown hown0
    obtain ⟨ao, cap, rfl⟩ := ownS_slice hown
    refine (Try.slices_Compact_string_empty ao cap w).mono ?_
    rintro e w' ⟨rfl, rfl⟩
    exact ⟨_, rfl, hown0, ⟨rfl, rfl, rfl, Nat.le_refl _, fun _ _ _ => rfl⟩⟩
/-- What is asked for, cleaned: the error's number, and the words. -/
def cleanE (L : List (List Nat)) : Nat := if 1 ≤ L.length ∧ L.length ≤ 8 ∧ ∀ x ∈ L, Wd.chk x = true then 0 else 4
def cleanL (L : List (List Nat)) : List (List Nat) := if cleanE L = 0 then L.foldl Wd.ins [] else []
theorem cleanE_ok {L : List (List Nat)} (h : 1 ≤ L.length ∧ L.length ≤ 8 ∧ ∀ x ∈ L, Wd.chk x = true) : cleanE L = 0 ∧ cleanL L = L.foldl Wd.ins [] := by
  have h1 : cleanE L = 0 := if_pos h
  exact ⟨h1, if_pos h1⟩
theorem cleanE_no {L : List (List Nat)} (h : ¬ (1 ≤ L.length ∧ L.length ≤ 8 ∧ ∀ x ∈ L, Wd.chk x = true)) : cleanE L = 4 ∧ cleanL L = [] := by
  have h1 : cleanE L = 4 := if_neg h
  exact ⟨h1, if_neg (by rw [h1]; decide)⟩
set_option maxHeartbeats 2000000 in
set_option maxRecDepth 100000 in
theorem clean_any (ao : Option Addr) (L : List (List Nat)) (cap : Nat) (w : World) (hA : Strs w ao L) (hL : L.length ≤ 1000) (hb : ∀ l ∈ L, ∀ b ∈ l, b < 256) (hl20 : ∀ l ∈ L, l.length ≤ 1000) :
    Calls Try.prog 18 #[.slice ao L.length cap] w fun e w' => ∃ v, e = .returned (.tuple #[v, .int .i64 (cleanE L : Int)]) ∧ OwnS w' w.heap.size v (cleanL L) ∧ Below w.heap.size w w' := by
  have HA := hid hA
  clear hA
  have hn := hid (fun (h : ¬ (1 ≤ L.length ∧ L.length ≤ 8 ∧ ∀ x ∈ L, Wd.chk x = true)) => cleanE_no h)
  go_enter Try.func18, Try.ntmps18
  by_cases h1 : 1 ≤ L.length
  · have g1 : ¬ (L.length : Int) < 1 := by omega
    by_cases h8 : L.length ≤ 8
    · have g8 : ¬ (8 : Int) < L.length := by omega
      go_wp2
      go_loopw [16] (fun i wr => ∃ k : Nat, k ≤ L.length ∧ i = .int .i64 (k : Nat) ∧ (∀ j, j < k → Wd.chk (L.getD j []) = true) ∧ wr = w)
        (fun i _ => L.length - (intOf i).toNat)
      case atStart => exact ⟨0, by omega, rfl, fun j h => by omega, rfl⟩
      case round =>
        obtain ⟨k, hk, rfl, hall, rfl⟩ := hrel
        have HALL := hid hall
        clear hall
        by_cases hkl : k < L.length
        · have gk : (k : Int) < L.length := by omega
          obtain ⟨sb, so, rfl, hc⟩ := HA.out k hkl
          have hmem : L.getD k [] ∈ L := by rw [List.getD_eq_getElem?_getD, List.getElem?_eq_getElem hkl]; exact List.getElem_mem hkl
          have HCH := hid (fun wx => check_any (L.getD k []) (hb _ hmem) (by have := hl20 _ hmem; omega) wx)
          by_cases hw : Wd.chk (L.getD k []) = true
          · rw [hw] at HCH
            have HW := hid hw
            generalize hx : L.getD k [] = x at *
            have HX := hid hx
            clear hw hx hmem
            go_wp2_with (go_at_call 16; refine (HCH.out _).mono ?_; rintro e wz ⟨rfl, hwz⟩; replace hwz := hwz.symm; subst hwz)
            have hkk : (k : Int) + 1 = ((k + 1 : Nat) : Int) := by omega
            have hal : ∀ j, j < k + 1 → Wd.chk (L.getD j []) = true := by
              intro j hj
              by_cases h3 : j = k
              · subst h3; rw [HX.out]; exact HW.out
              · exact HALL.out j (by omega)
            refine ⟨?_, ?_⟩
            · skip
              first
                | exact ⟨k + 1, by omega, congrArg (Value.int .i64) hkk, hal, by trivial⟩
                | ((repeat apply Exists.intro); refine ⟨?_, rfl⟩; exact ⟨k + 1, by omega, congrArg (Value.int .i64) hkk, hal, by trivial⟩)
            · simp [intOf]
              omega
          · rw [show Wd.chk (L.getD k []) = false from by rw [Bool.eq_false_iff]; exact hw] at HCH
            obtain ⟨he, hl⟩ := hn.out (fun h => hw (h.2.2 _ hmem))
            have HE := hid he
            have HLL := hid hl
            generalize L.getD k [] = x at *
            clear hw hmem he hl
            go_wp2_with (go_at_call 16; refine (HCH.out _).mono ?_; rintro e wz ⟨rfl, hwz⟩; replace hwz := hwz.symm; subst hwz)
            refine bodyPost_ret (results_tmp2 rfl _ _ _) rfl ⟨_, by rw [HE.out]; rfl, by rw [HLL.out]; exact OwnS.nil _ _, Below.refl _ _⟩
        · obtain rfl : k = L.length := by omega
          have hok : 1 ≤ L.length ∧ L.length ≤ 8 ∧ ∀ x ∈ L, Wd.chk x = true := ⟨h1, h8, fun x hx => by
            obtain ⟨j, hj, rfl⟩ := List.mem_iff_getElem.1 hx
            have := HALL.out j hj
            rwa [List.getD_eq_getElem?_getD, List.getElem?_eq_getElem hj] at this⟩
          obtain ⟨he, hl⟩ := cleanE_ok hok
          have HE := hid he
          have HLL := hid hl
          have hb2 : Below wr.heap.size wr (wr.alloc (.cells #[.slice ao L.length cap] 22)) := (Below.refl _ _).alloc (Nat.le_refl _) _
          have hn2 := heap_alloc_new wr (.cells #[.slice ao L.length cap] 22)
          have HSO := hid (sorted_any wr.heap.size ao L cap hL _ hn2 (HA.out.below hb2))
          have HVA := hid (values_any (.slice ao L.length cap) ao L.length cap rfl wr)
          have HB2 := hid hb2
          clear he hl hok hb2 hn2
          generalize wr.alloc (.cells #[.slice ao L.length cap] 22) = w2 at *
          go_wp2_with fail
          refine HVA.out.mono ?_
          rintro e wz ⟨rfl, hwz⟩
          subst hwz
          go_wp2_with fail
          refine HSO.out.mono ?_
          rintro e w3 ⟨v3, rfl, ho3, hb3⟩
          have HCO := hid (compactS_any w3 _ v3 L ho3 hL hb)
          have HLT := hid (fun b hb' => World.ownsRow.lt ho3 b hb')
          have HB3 := hid hb3
          clear ho3 hb3
          go_wp2_with fail
          refine HCO.out.mono ?_
          rintro e w4 ⟨v4, rfl, ho4, hg4⟩
          have HO4 := hid ho4
          have HB4 := hid (HB3.out.grown hg4 HB3.out.size (fun b hb => (HLT.out b hb).1))
          clear ho4 hg4
          go_wp2
          have hs2 := HB2.out.size
          refine bodyPost_ret (results_tmp2 rfl _ _ _) rfl ⟨v4, by rw [HE.out]; rfl, by rw [HLL.out]; exact HO4.out.mono hs2, HB2.out.trans (HB4.out.mono hs2)⟩
    · have g8 : (8 : Int) < L.length := by omega
      obtain ⟨he, hl⟩ := hn.out (fun h => h8 h.2.1)
      have HE := hid he
      have HLL := hid hl
      clear he hl
      go_wp2
      refine bodyPost_ret (results_tmp2 rfl _ _ _) rfl ⟨_, by rw [HE.out]; rfl, by rw [HLL.out]; exact OwnS.nil _ _, Below.refl _ _⟩
  · have g1 : (L.length : Int) < 1 := by omega
    obtain ⟨he, hl⟩ := hn.out (fun h => h1 h.1)
    have HE := hid he
    have HLL := hid hl
    clear he hl
    go_wp2
    refine bodyPost_ret (results_tmp2 rfl _ _ _) rfl ⟨_, by rw [HE.out]; rfl, by rw [HLL.out]; exact OwnS.nil _ _, Below.refl _ _⟩
end Go.Proofs.Ytaipaifnkpgmhaa
