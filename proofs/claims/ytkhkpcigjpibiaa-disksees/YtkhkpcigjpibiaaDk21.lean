/-
  Layer 9: View: what was written, one behind the other, in a row of its own.
-/
import Derived.Test.YtkhkpcigjpibiaaDk18
import Derived.Shelf.Spec.SlicesGrow
import Derived.Test.YtkhkpcigjpibiaaRg2
namespace Go.Proofs.Ytkhkpcigjpibiaa
open Go.ChangeShapes Go.WideShapes Go.ChangeAt Go.RowKit Go.Shelf
open Go.Conc
open Go.Lib (hid)

attribute [local go_sem] Oper.semAt_some

theorem zcellsOp (n : Nat) : (Builtin.zeroCells (Value.agg #[.int .i64 0, .int .i64 0, .string ByteArray.empty]).cells n).size = n * 3 := by simp [Builtin.zeroCells, Value.cells]
theorem growOp_any (n : Nat) (hn : n ≤ 5000) (w : World) :
    Calls Try.prog 63 #[.slice none 0 0, .int .i64 (n : Int)] w fun e w' => ∃ v, e = .returned v ∧ w'.ownsRow w.heap.size 78 3 v 0 [] ∧ (0 < n ∨ v = .slice none 0 0) ∧ Below w.heap.size w w' := by
  by_cases h0 : n = 0
  · subst h0
    refine (Any8.slices_Grow_room Try.laysGrowOp none 0 0 0 w (Nat.le_refl _) (by decide) (by decide) (Nat.le_refl _)).mono ?_
    rintro e w' ⟨rfl, rfl⟩
    exact ⟨_, rfl, World.ownsRow_nil _ _ _ _, Or.inr rfl, Below.refl _ _⟩
  · obtain ⟨i, hi, hz0, hz1, hz2⟩ := info_parts infoOp
    refine (Any8.slices_Grow_grow Try.laysGrowOp i _ hi hz0 (by rw [hz1]; decide) none 0 0 n [] w (Nat.le_refl _) (by omega) (by rw [hz2]; omega) (by omega) (by simp) (fun _ => rfl) (fun a h => by cases h)).mono ?_
    rintro e w' ⟨he, hw⟩
    obtain ⟨G, hG⟩ : ∃ G, G = grownCap w (0 + n) 0 78 := ⟨_, rfl⟩
    have hG1 : n ≤ G := by rw [hG, Nat.zero_add]; exact grownCap_ge w n 0 _
    have hG2 : G ≤ maxLen := by rw [hG, Nat.zero_add]; exact grownCap_le_maxLen w n 0 _ (by unfold maxLen; omega)
    change e = Ending.returned (.slice (some ⟨w.heap.size, 0, none⟩) 0 (grownCap w (0 + n) 0 78)) at he
    change w' = w.drew.alloc (.cells (([] : List Value).toArray ++ Builtin.zeroCells (Value.agg #[.int .i64 0, .int .i64 0, .string ByteArray.empty]).cells (0 + n - 0) ++ Builtin.zeroCells (Value.agg #[.int .i64 0, .int .i64 0, .string ByteArray.empty]).cells (grownCap w (0 + n) 0 78 - (0 + n))) 78) at hw
    rw [← hG] at he hw
    subst he hw
    have hb : Below w.heap.size w w.drew := ⟨rfl, rfl, rfl, Nat.le_refl _, fun _ _ => rfl⟩
    refine ⟨_, rfl, ⟨rfl, .inr ⟨w.heap.size, G, _, rfl, Nat.le_refl _, heap_alloc_new _ _, Nat.zero_le _, hG2, ?_, ?_⟩⟩, Or.inl (by omega), hb.alloc (Nat.le_refl _) _⟩
    · rw [Array.size_append, Array.size_append, zcellsOp, zcellsOp]
      simp
      omega
    · simp
set_option maxRecDepth 100000 in
theorem concatN_any (g : Nat) (w : World) (hg : w.heap[g]? = some (.cells #[.slice none 0 0, .slice none 0 0] 54 (0, 0))) :
    Calls Try.prog 52 #[.slice (some ⟨g, 0, none⟩) 2 2] w fun e w' => e = .returned (.slice none 0 0) ∧ Below w.heap.size w w' := by
  have HGR := hid (growOp_any 0 (by decide) w)
  have c0 : w.cell? ⟨g, 0, none⟩ = some (.slice none 0 0) := by rw [cell_of_row _ _ _ _ _ _ hg]; rfl
  have c1 : w.cell? ⟨g, 1, none⟩ = some (.slice none 0 0) := by rw [cell_of_row _ _ _ _ _ _ hg]; rfl
  have hgl := (Array.getElem?_eq_some_iff.1 hg).1
  clear hg
  go_enter Try.func52, Try.ntmps52
  go_wp2
  go_loopw [3, 11] (fun sv i wr => ∃ k : Nat, k ≤ 2 ∧ i = .int .i64 (k : Nat) ∧ sv = .int .i64 0 ∧ wr = w)
    (fun _ i _ => 2 - (intOf i).toNat)
  case atStart => exact ⟨0, by omega, rfl, rfl, rfl⟩
  case round =>
    obtain ⟨k, hk, rfl, rfl, rfl⟩ := hrel
    by_cases hk2 : k < 2
    · have g1 : (k : Int) < 2 := by omega
      have hc : wr.cell? ⟨g, k, none⟩ = some (.slice none 0 0) := by
        obtain rfl | rfl : k = 0 ∨ k = 1 := by omega
        · exact c0
        · exact c1
      go_wp2
      refine ⟨⟨k + 1, by omega, congrArg (Value.int .i64) (by omega), by first | rfl | trivial, by trivial⟩, by simp only [intOf]; omega⟩
    · obtain rfl : k = 2 := by omega
      go_upto_region 10 with (go_at_call 63; refine HGR.out.mono ?_; rintro e w2 ⟨v, rfl, ho, hv, hb⟩)
      obtain rfl : v = .slice none 0 0 := hv.resolve_left (by omega)
      have c0b := (hb.cell (p := ⟨g, 0, none⟩) hgl).trans c0
      have c1b := (hb.cell (p := ⟨g, 1, none⟩) hgl).trans c1
      have HB := hid hb
      clear hb ho hv HGR c0 c1
      go_wp2
      go_loopw [6, 27] (fun sv i wq => ∃ k : Nat, k ≤ 2 ∧ i = .int .i64 (k : Nat) ∧ sv = .slice none 0 0 ∧ wq = w2)
        (fun _ i _ => 2 - (intOf i).toNat)
      case atStart => exact ⟨0, by omega, rfl, rfl, rfl⟩
      case round =>
        obtain ⟨k, hk, rfl, rfl, rfl⟩ := hrel
        by_cases hk2 : k < 2
        · have g1 : (k : Int) < 2 := by omega
          have hc : wr.cell? ⟨g, k, none⟩ = some (.slice none 0 0) := by
            obtain rfl | rfl : k = 0 ∨ k = 1 := by omega
            · exact c0b
            · exact c1b
          go_wp2
          refine ⟨⟨k + 1, by omega, congrArg (Value.int .i64) (by omega), by first | rfl | trivial, by trivial⟩, by simp only [intOf]; omega⟩
        · obtain rfl : k = 2 := by omega
          go_wp2
          exact bodyPost_ret (results_tmp rfl _ _ _) rfl ⟨rfl, HB.out⟩
theorem opsC_one (l : List Dv.O) : ∀ u ∈ opsC l, u.oneCell' = true := by
  intro u hu
  obtain ⟨l', hl', hu'⟩ := List.mem_flatten.1 hu
  obtain ⟨o, _, rfl⟩ := List.mem_map.1 hl'
  simp only [opC, List.mem_cons, List.not_mem_nil, or_false] at hu'
  rcases hu' with rfl | rfl | rfl <;> rfl
set_option maxRecDepth 100000 in
set_option maxHeartbeats 1000000 in
theorem concatS_any (g gv n cap : Nat) (xs : List Dv.O) (w : World) (hn : xs.length = n) (hn4 : n ≤ 4500)
    (hg : w.heap[g]? = some (.cells #[.slice (some ⟨gv, 0, none⟩) n cap, .slice (some ⟨gv, 0, none⟩) 0 cap] 54 (0, 0)))
    (hv : w.ownsRow 0 78 3 (.slice (some ⟨gv, 0, none⟩) n cap) n (opsC xs)) :
    Calls Try.prog 52 #[.slice (some ⟨g, 0, none⟩) 2 2] w fun e w' => ∃ v, e = .returned v ∧ w'.ownsRow w.heap.size 78 3 v n (opsC xs) ∧ Below w.heap.size w w' := by
  have HGR := hid (growOp_any n (by omega) w)
  have c0 : w.cell? ⟨g, 0, none⟩ = some (.slice (some ⟨gv, 0, none⟩) n cap) := by rw [cell_of_row _ _ _ _ _ _ hg]; rfl
  have c1 : w.cell? ⟨g, 1, none⟩ = some (.slice (some ⟨gv, 0, none⟩) 0 cap) := by rw [cell_of_row _ _ _ _ _ _ hg]; rfl
  have hgl := (Array.getElem?_eq_some_iff.1 hg).1
  have hgv : gv < w.heap.size ∧ ∀ j u, (opsC xs)[j]? = some u → w.cell? ⟨gv, j, none⟩ = some u := by
    obtain ⟨hl, ⟨h0, _⟩ | ⟨g', cap', cur, hv', _, hh, hnc, hc, hs, ht⟩⟩ := hv
    · cases h0
    · simp only [Value.slice.injEq, Option.some.injEq, Addr.mk.injEq] at hv'
      obtain ⟨⟨rfl, _⟩, _, rfl⟩ := hv'
      refine ⟨(Array.getElem?_eq_some_iff.1 hh).1, fun j u hj => ?_⟩
      have hjl : j < n * 3 := by have := (List.getElem?_eq_some_iff.1 hj).1; omega
      rw [cell_of_row w gv j _ _ _ hh, ← Array.getElem?_toList]
      rw [← ht, List.getElem?_take, if_pos hjl] at hj
      exact hj
  have HC := hid hgv.2
  have hgvl := hgv.1
  clear hg hv hgv
  go_enter Try.func52, Try.ntmps52
  go_wp2
  go_loopw [3, 11] (fun sv i wr => ∃ k s : Nat, k ≤ 2 ∧ i = .int .i64 (k : Nat) ∧ sv = .int .i64 (s : Nat) ∧ s ≤ n ∧ (k = 0 → s = 0) ∧ (0 < k → s = n) ∧ wr = w)
    (fun _ i _ => 2 - (intOf i).toNat)
  case atStart => exact ⟨0, 0, by omega, rfl, rfl, by omega, fun _ => rfl, fun h => by omega, rfl⟩
  case round =>
    obtain ⟨k, s, hk, rfl, rfl, hsn, hs0, hs1, rfl⟩ := hrel
    have HS0 := hid hs0
    have HS1 := hid hs1
    clear hs0 hs1
    by_cases hk2 : k < 2
    · have g1 : (k : Int) < 2 := by omega
      have g4 : (s : Int) ≤ 4500 := by omega
      have g5 : (n : Int) ≤ 4500 := by omega
      obtain rfl | rfl : k = 0 ∨ k = 1 := by omega
      · obtain rfl : s = 0 := HS0.out rfl
        go_wp2
        refine ⟨?_, ?_⟩
        · skip
          first
            | exact ⟨1, n, by omega, rfl, rfl, by omega, fun h => by omega, fun _ => rfl, by trivial⟩
            | ((repeat apply Exists.intro); refine ⟨?_, rfl⟩; exact ⟨1, n, by omega, rfl, rfl, by omega, fun h => by omega, fun _ => rfl, by trivial⟩)
        · simp [intOf]
      · obtain rfl : s = n := HS1.out (by omega)
        go_wp2
        refine ⟨?_, ?_⟩
        · skip
          first
            | exact ⟨2, s, by omega, rfl, rfl, by omega, fun h => by omega, fun _ => rfl, by trivial⟩
            | ((repeat apply Exists.intro); refine ⟨?_, rfl⟩; exact ⟨2, s, by omega, rfl, rfl, by omega, fun h => by omega, fun _ => rfl, by trivial⟩)
        · simp [intOf]
    · obtain rfl : k = 2 := by omega
      obtain rfl : s = n := HS1.out (by omega)
      go_upto_region 10 with (go_at_call 63; refine HGR.out.mono ?_; rintro e w2 ⟨v, rfl, ho, _, hb⟩)
      have HB := hid hb
      have HO := hid ho
      have C0 := hid c0
      have C1 := hid c1
      clear hb ho HGR c0 c1
      go_wp2
      go_loopw [6, 27] (fun sv i wq => ∃ k : Nat, k ≤ 2 ∧ i = .int .i64 (k : Nat) ∧ (k = 0 → wq.ownsRow wr.heap.size 78 3 sv 0 []) ∧ (0 < k → wq.ownsRow wr.heap.size 78 3 sv s (opsC xs)) ∧ Below wr.heap.size wr wq)
        (fun _ i _ => 2 - (intOf i).toNat)
      case atStart => exact ⟨0, by omega, rfl, fun _ => HO.out, fun h => by omega, HB.out⟩
      case round =>
        obtain ⟨k, hk, rfl, ho0, ho1, hbl⟩ := hrel
        have HO0 := hid ho0
        have HO1 := hid ho1
        have HBL := hid hbl
        clear ho0 ho1 hbl HO HB
        by_cases hk2 : k < 2
        · have g1 : (k : Int) < 2 := by omega
          obtain ⟨iO, hiO, hO0, hO1, hO2⟩ := info_parts infoOp
          obtain rfl | rfl : k = 0 ∨ k = 1 := by omega
          · have ho := HO0.out rfl
            have hc := (HBL.out.cell (p := ⟨g, 0, none⟩) hgl).trans C0.out
            go_upto_region 13 with (fail)
            refine wp_region_to ?_
            refine listTo_wp (pre := [_, _]) (post := [_, _]) ?_
            go_wp2
            refine listTo_of ?_
            refine wpList_append_own _ rfl _ _ 54 rfl _ 78 iO _ 3 32 Try.underlying54 hiO hO0 hO1 hO2 rfl (by decide) _ 0 [] rfl ho ⟨gv, 0, none⟩ s cap (opsC xs) rfl (by rw [opsC_length, hn]) (fun j u hj => by
              rw [Addr.add_mid, Nat.zero_add, HBL.out.cell (p := ⟨gv, j, none⟩) hgvl]
              exact HC.out j u hj) (opsC_one xs) (by unfold maxLen; omega) (by omega) HBL.out.size ?_
            intro v' w' ho' hg' _
            have hbl' := HBL.out.grown hg' HBL.out.size (fun b hb => (World.ownsRow.lt ho b hb).1)
            rw [List.nil_append, Nat.zero_add] at ho'
            have HO' := hid ho'
            have HBL' := hid hbl'
            clear ho' hbl' hg' ho hc
            go_wp2
            refine ⟨?_, ?_⟩
            · skip
              first
                | exact ⟨1, by omega, rfl, fun h => by omega, fun _ => HO'.out, HBL'.out⟩
                | ((repeat apply Exists.intro); refine ⟨?_, rfl⟩; exact ⟨1, by omega, rfl, fun h => by omega, fun _ => HO'.out, HBL'.out⟩)
            · simp [intOf]
          · have ho := HO1.out (by omega)
            have hc := (HBL.out.cell (p := ⟨g, 1, none⟩) hgl).trans C1.out
            go_upto_region 13 with (fail)
            refine wp_region_to ?_
            refine listTo_wp (pre := [_, _]) (post := [_, _]) ?_
            go_wp2
            refine listTo_of ?_
            refine wpList_append_own _ rfl _ _ 54 rfl _ 78 iO _ 3 32 Try.underlying54 hiO hO0 hO1 hO2 rfl (by decide) _ s (opsC xs) rfl ho ⟨gv, 0, none⟩ 0 cap [] rfl rfl (fun j u hj => by simp at hj) (fun u hu => by simp at hu) (by unfold maxLen; omega) (by omega) HBL.out.size ?_
            intro v' w' ho' hg' _
            have hbl' := HBL.out.grown hg' HBL.out.size (fun b hb => (World.ownsRow.lt ho b hb).1)
            rw [List.append_nil, Nat.add_zero] at ho'
            have HO' := hid ho'
            have HBL' := hid hbl'
            clear ho' hbl' hg' ho hc
            go_wp2
            refine ⟨?_, ?_⟩
            · skip
              first
                | exact ⟨2, by omega, rfl, fun h => by omega, fun _ => HO'.out, HBL'.out⟩
                | ((repeat apply Exists.intro); refine ⟨?_, rfl⟩; exact ⟨2, by omega, rfl, fun h => by omega, fun _ => HO'.out, HBL'.out⟩)
            · simp [intOf]
        · obtain rfl : k = 2 := by omega
          have ho := HO1.out (by omega)
          go_wp2
          exact bodyPost_ret (results_tmp rfl _ _ _) rfl ⟨_, rfl, by exact ho, HBL.out⟩
set_option maxHeartbeats 1000000 in
set_option maxRecDepth 100000 in
theorem view_any {d gs c : Nat} {vv : Value} {D : Dv.D} {w : World} (hs : D.steps < 4096) (hl : D.view.length ≤ 4500) (h : IsD w d gs c vv D) :
    Calls Try.prog 25 #[.pointer (some ⟨d, 0, none⟩)] w fun e w' => ∃ v, e = .returned v ∧ w'.ownsRow w.heap.size 78 3 v D.view.length (opsC D.view) ∧ Below w.heap.size w w' := by
  obtain ⟨_, _, _, _, _, c5, c6, _⟩ := dkC_cells h.row
  have hvw := h.vw
  have hsi : (D.steps : Int) < 4096 := by omega
  have HV := hid hvw
  clear h
  generalize hn : D.view.length = n at *
  have hn0 : 0 ≤ (n : Int) := by omega
  obtain ⟨_, ⟨rfl, h0⟩ | ⟨gv, cap, cur, rfl, _, _, hnc, hcm, _, _⟩⟩ := hvw
  · have hxs : opsC D.view = [] := by rw [List.eq_nil_of_length_eq_zero (by omega : D.view.length = 0)]; rfl
    rw [hxs]
    subst h0
    clear HV hxs hn
    go_enter Try.func25, Try.ntmps25
    go_upto_region 4 with (fail)
    refine wp_region_noPanic ?_
    refine wp_region_hd1 12 3 rfl (by kernel_rfl) (by kernel_rfl) (fun _ _ _ _ _ h => h) ?_
    simp only [List.take_succ_cons, List.take_zero, List.drop_succ_cons, List.drop_zero]
    repeat (go_big_quiet_step (fail))
    refine wpQuiet_nil ?_
    intro mq
    have hb2 : Below w.heap.size w ((w.drewN mq).alloc (.cells #[.slice none 0 0, .slice none 0 0] 54)) := by
      have h1 : Below w.heap.size w (w.drewN mq) := ⟨rfl, rfl, rfl, Nat.le_refl _, fun _ _ => rfl⟩
      exact h1.alloc (Nat.le_refl _) _
    have hg2 := heap_alloc_new (w.drewN mq) (.cells #[.slice none 0 0, .slice none 0 0] 54)
    have HCC := hid (concatN_any _ _ hg2)
    go_wp2_with (go_at_call 52; refine HCC.out.mono ?_; rintro e w3 ⟨rfl, hb3⟩)
    refine NoPanic.normal ?_
    go_wp2
    exact bodyPost_ret (results_tmp rfl _ _ _) rfl ⟨_, rfl, World.ownsRow_nil _ _ _ _, hb2.trans (hb3.mono hb2.size)⟩
  · have hnci : (n : Int) ≤ cap := by omega
    have hci : 0 ≤ (cap : Int) := by omega
    have hlt : gv < w.heap.size := (World.ownsRow.lt HV.out gv rfl).2
    go_enter Try.func25, Try.ntmps25
    go_upto_region 4 with (fail)
    refine wp_region_noPanic ?_
    refine wp_region_hd1 12 3 rfl (by kernel_rfl) (by kernel_rfl) (fun _ _ _ _ _ h => h) ?_
    simp only [List.take_succ_cons, List.take_zero, List.drop_succ_cons, List.drop_zero]
    repeat (go_big_quiet_step (fail))
    refine wpQuiet_nil ?_
    intro mq
    have hb2 : Below w.heap.size w ((w.drewN mq).alloc (.cells #[.slice (some ⟨gv, 0, none⟩) n cap, .slice (some ⟨gv, 0, none⟩) 0 cap] 54)) := by
      have h1 : Below w.heap.size w (w.drewN mq) := ⟨rfl, rfl, rfl, Nat.le_refl _, fun _ _ => rfl⟩
      exact h1.alloc (Nat.le_refl _) _
    have hg2 := heap_alloc_new (w.drewN mq) (.cells #[.slice (some ⟨gv, 0, none⟩) n cap, .slice (some ⟨gv, 0, none⟩) 0 cap] 54)
    have hv2 : ((w.drewN mq).alloc (.cells #[.slice (some ⟨gv, 0, none⟩) n cap, .slice (some ⟨gv, 0, none⟩) 0 cap] 54)).ownsRow 0 78 3 (.slice (some ⟨gv, 0, none⟩) n cap) n (opsC D.view) :=
      ownsRow_at HV.out fun g hg => by
        simp only [Value.ownBlock, Option.some.injEq] at hg
        subst hg
        exact hb2.block _ hlt
    have HCC := hid (concatS_any _ gv n cap D.view _ hn hl hg2 hv2)
    clear hv2 hg2
    go_wp2_with (go_at_call 52; refine HCC.out.mono ?_; rintro e w3 ⟨v, rfl, ho3, hb3⟩)
    refine NoPanic.normal ?_
    have HO := hid (show w3.ownsRow w.heap.size 78 3 v n (opsC D.view) from by
      obtain ⟨hl', h1 | ⟨g', cap', cur', hv', hg', rest⟩⟩ := ho3
      · exact ⟨hl', .inl h1⟩
      · exact ⟨hl', .inr ⟨g', cap', cur', hv', Nat.le_trans hb2.size hg', rest⟩⟩)
    clear ho3
    go_wp2
    exact bodyPost_ret (results_tmp rfl _ _ _) rfl ⟨_, rfl, by exact HO.out, hb2.trans (hb3.mono hb2.size)⟩
end Go.Proofs.Ytkhkpcigjpibiaa
