/-
  Layer 15: the document's answer.
-/
import Derived.Test.YtaipaifnkpgmhaaWs5
import Derived.Test.YtaipaifnkpgmhaaRg2
namespace Go.Proofs.Ytaipaifnkpgmhaa
open Go.ChangeShapes Go.WideShapes Go.ChangeAt Go.RowKit Go.Shelf
open Go.Lib (hid)

attribute [local go_sem] Oper.semAt_some

/-- append(s, x...), s the call's own, x some texts in memory: at the operation itself. -/
theorem wp_appM {w : World} {o : Oper} {a : Act} {K : Act → World → Prop} {Q : Exit → Act → World → Prop} (s x : Operand)
    (ho : o.op = .call { callee := .builtin .append, args := #[s, x], argTypes := #[22, 22] })
    (base : Nat) (v : Value) (L B : List (List Nat)) (hs : a.eval s = v) (hown : OwnS w base v L)
    (n : Nat) (hBn : B.length = n) (g off c : Nat) (hx : a.eval x = .slice (some ⟨g, off, none⟩) n c) (hnews : ∀ j, j < B.length → w.cell? ⟨g, off + j, none⟩ = some (.string (str (B.getD j []))))
    (hlen : L.length + B.length ≤ 1000000) (hbase : base ≤ w.heap.size)
    (h : ∀ v' w', OwnS w' base v' (L ++ B) → w.grownBy w' v.ownBlock → (v ≠ .slice none 0 0 → v' ≠ .slice none 0 0) → (∀ b, some b = v.ownBlock → base ≤ b) → K (a.put o.dst v') w') : o.wp Try.prog a w K Q := by
  subst hBn
  obtain ⟨i, hi, hz0, hz1, hz2⟩ := info_parts info9
  obtain ⟨v', w', hr, h2, h3, h4⟩ := run_append_own (P := Try.prog) w base 22 o.type 9 i _ 1 16 Try.underlying22 hi hz0 hz1 hz2 rfl (by decide) v L.length _ hown ⟨g, off, none⟩ B.length c (B.map fun l => Value.string (str l)) (by simp) (fun j u hj => by
    have hlt : j < B.length := by have := (List.getElem?_eq_some_iff.1 hj).1; simpa using this
    rw [Addr.add_mid, hnews j hlt, ← hj, List.getElem?_map, List.getElem?_eq_getElem hlt, List.getD_eq_getElem?_getD, List.getElem?_eq_getElem hlt]
    rfl) (oneS B) (by unfold maxLen; omega) (by omega) hbase
  unfold Oper.wp execOp
  simp only [ho, resolve, invoke, builtin, Sem.run_bind, Sem.run_pure, Result.andThen_ok, List.map_toArray, List.map_cons, List.map_nil, hs, hx, hr]
  refine h v' w' ?_ h3 (fun hv hv' => hv (h4.1 hv').1) ?_
  · unfold OwnS
    rw [List.length_append, List.map_append]
    exact h2
  · intro k hk
    have hk := hk.symm
    obtain ⟨_, h2' | ⟨g, cap, cur, hv, hg, _⟩⟩ := hown
    · rw [h2'.1] at hk; cases hk
    · rw [hv] at hk; simp only [Value.ownBlock, Option.some.injEq] at hk; omega
/-- A row of no texts. -/
theorem ownS_empty (w : World) (base : Nat) (hb : base ≤ w.heap.size) : OwnS (w.alloc (.cells #[] 9)) base (.slice (some ⟨w.heap.size, 0, none⟩) 0 0) [] :=
  ⟨rfl, .inr ⟨w.heap.size, 0, #[], rfl, hb, heap_alloc_new _ _, Nat.le_refl _, by decide, rfl, rfl⟩⟩
set_option maxHeartbeats 4000000 in
set_option maxRecDepth 100000 in
theorem rput_any (w : World) (base : Nat) (v : Value) (L : List (List Nat)) (hown : OwnS w base v L) (hbase : base ≤ w.heap.size) (x : List Nat) (hs : Wd.Sorted L) (hL : L.length ≤ 1000) (hb : ∀ l ∈ L, ∀ b ∈ l, b < 256) (hx : ∀ b ∈ x, b < 256) (hnn : v ≠ .slice none 0 0) :
    Calls Try.prog 23 #[v, .string (str x)] w fun e w' => ∃ v', e = .returned v' ∧ OwnS w' base v' (Wd.ins L x) ∧ v' ≠ .slice none 0 0 ∧ Below w.heap.size w w' := by
  obtain ⟨g, cap, rfl, hgb, hcl, hA⟩ : ∃ g cap, v = .slice (some ⟨g, 0, none⟩) L.length cap ∧ base ≤ g ∧ L.length ≤ cap ∧ Strs w (some ⟨g, 0, none⟩) L := by
    obtain ⟨ao, cap, hv, hA⟩ := hown.strs
    obtain ⟨_, ⟨h1, _⟩ | ⟨g, cap', cur, hv', hg, _, hn, _⟩⟩ := hown
    · exact absurd h1 hnn
    · rw [hv'] at hv
      simp only [Value.slice.injEq] at hv
      exact ⟨g, cap', hv', hg, hn, by rw [hv.1]; exact hA⟩
  have hins := Wd.ins_at L x hs
  have HINS := hid hins
  have hcli : (L.length : Int) ≤ cap := by omega
  have HOWN := hid hown
  have HA := hid hA
  have HCELL := hid (show ∀ k, k < L.length → w.cell? ⟨g, k, none⟩ = some (.string (str (L.getD k []))) from fun k hk => by
    obtain ⟨sb, so, hao, hc⟩ := HA.out k hk
    simp only [Option.some.injEq, Addr.mk.injEq] at hao
    obtain ⟨rfl, rfl, _⟩ := hao
    rwa [Nat.zero_add] at hc)
  have HPL := hid (Wd.pos_lt L x)
  have HPG := hid (Wd.pos_ge L x hs)
  have HPS := hid (Wd.pos_le L x)
  clear hins hown hA
  generalize Wd.pos L x = ps at *
  have hmem : ∀ k, k < L.length → ∀ b ∈ L.getD k [], b < 256 := fun k hk => hb _ (by rw [List.getD_eq_getElem?_getD, List.getElem?_eq_getElem hk]; exact List.getElem_mem hk)
  have HMEM := hid hmem
  clear hmem
  go_enter Try.func23, Try.ntmps23
  go_wp2
  go_loopw [5] (fun i wr => ∃ k : Nat, k ≤ ps ∧ i = .int .i64 (k : Nat) ∧ wr = w)
    (fun i _ => ps - (intOf i).toNat)
  case atStart => exact ⟨0, by omega, rfl, rfl⟩
  case round =>
    obtain ⟨k, hk, rfl, rfl⟩ := hrel
    have hpl := HPS.out
    by_cases hkp : k < ps
    · have g1 : (k : Int) < L.length := by omega
      have hc := HCELL.out k (by omega)
      have hless : Op.bytesLess (str (L.getD k [])).toList (str x).toList = true := by rw [less_str _ _ (HMEM.out k (by omega)) hx]; exact HPL.out k hkp
      generalize L.getD k [] = y at *
      go_wp2
      have hkk : (k : Int) + 1 = ((k + 1 : Nat) : Int) := by omega
      refine ⟨⟨k + 1, by omega, congrArg (Value.int .i64) hkk, by trivial⟩, by simp [intOf]; omega⟩
    · obtain rfl : k = ps := by omega
      by_cases hkl : k < L.length
      · have g1 : (k : Int) < L.length := by omega
        have hc := HCELL.out k (by omega)
        have hless : Op.bytesLess (str (L.getD k [])).toList (str x).toList = false := by rw [less_str _ _ (HMEM.out k (by omega)) hx]; exact HPG.out k (Nat.le_refl _) hkl
        have hbq := str_beq (L.getD k []) x (HMEM.out k hkl) hx
        by_cases hxy : L.getD k [] = x
        · have HF := hid (show Wd.ins L x = L from by rw [HINS.out, if_pos ⟨hkl, hxy⟩])
          rw [hxy] at hc hless
          clear hbq hxy
          go_wp2
          exact bodyPost_ret (results_tmp rfl _ _ _) rfl ⟨_, rfl, by rw [HF.out]; exact HOWN.out, by simp, Below.refl _ _⟩
        · have HF := hid (show Wd.ins L x = L.take k ++ [x] ++ L.drop k from by rw [HINS.out, if_neg (fun h => hxy h.2)])
          rw [beq_eq_false_iff_ne.2 hxy] at hbq
          generalize L.getD k [] = y at *
          clear hxy
          clear HPL HPG
          obtain ⟨ts, hts⟩ : ∃ ts, ts = L.length - k := ⟨_, rfl⟩
          have hkc : (k : Int) ≤ (cap : Int) := by omega
          obtain ⟨oS, hos, hos2⟩ : ∃ oS : Nat, (if cap = k then some (⟨g, 0, none⟩ : Addr) else some ⟨g, k, none⟩) = some ⟨g, oS, none⟩ ∧ (cap ≠ k → oS = k) := by
            by_cases h : cap = k
            · exact ⟨0, by rw [if_pos h], fun h' => absurd h h'⟩
            · exact ⟨k, by rw [if_neg h], fun _ => rfl⟩
          go_upto_region 6 with (fail)
          clear hc
          refine wp_region_noPanic ?_
          refine wp_region_held_drew (S := Below wr.heap.size wr) (by kernel_rfl) ((Below.refl _ _).drew) (fun hS1 => ?_)
          change wpAnyH _ _ _ _ _ 13 _ _ _
          refine wpAnyH_take (i := 1) (oi := ?oi2) (v := .slice (some ⟨g, 0, none⟩) L.length cap) ?hi2 (by kernel_rfl) (by kernel_rfl) (by kernel_rfl) (fun _ _ _ h => h) ?hy2 hS1 ?rest2
          case hi2 => simp only [List.getElem?_toArray, List.getElem?_cons_succ, List.getElem?_cons_zero]; rfl
          case hy2 => exact Or.inl ⟨rfl, fun _ hSw => rfl⟩
          simp only [Act.put, List.setIfInBounds_toArray, List.set_cons_zero, List.set_cons_succ]
          refine wpAnyH_take (i := 2) (oi := ?oi3) (v := .int .i64 (k : Int)) ?hi3 (by kernel_rfl) (by kernel_rfl) (by kernel_rfl) (fun _ _ _ h => h) ?hy3 hS1 ?rest3
          case hi3 => simp only [List.getElem?_toArray, List.getElem?_cons_succ, List.getElem?_cons_zero]; rfl
          case hy3 => exact Or.inl ⟨rfl, fun _ hSw => rfl⟩
          simp only [Act.put, List.setIfInBounds_toArray, List.set_cons_zero, List.set_cons_succ]
          refine wpAnyH_take (i := 3) (oi := ?oi4) (v := .slice (some ⟨g, 0, none⟩) k cap) ?hi4 (by kernel_rfl) (by kernel_rfl) (by kernel_rfl) (fun _ _ _ h => h) ?hy4 hS1 ?rest4
          case hi4 => simp only [List.getElem?_toArray, List.getElem?_cons_succ, List.getElem?_cons_zero]; rfl
          case hy4 => exact Or.inl ⟨rfl, fun _ hSw => by go_simp⟩
          simp only [Act.put, List.setIfInBounds_toArray, List.set_cons_zero, List.set_cons_succ]
          refine wpAnyH_take (i := 5) (oi := ?oi5) (v := .string (str x)) ?hi5 (by kernel_rfl) (by kernel_rfl) (by kernel_rfl) (fun _ _ _ h => h) ?hy5 hS1 ?rest5
          case hi5 => simp only [List.getElem?_toArray, List.getElem?_cons_succ, List.getElem?_cons_zero]; rfl
          case hy5 => exact Or.inl ⟨rfl, fun _ hSw => rfl⟩
          simp only [Act.put, List.setIfInBounds_toArray, List.set_cons_zero, List.set_cons_succ]
          refine wpAnyH_take (i := 8) (oi := ?oi6) (v := .slice (some ⟨g, 0, none⟩) L.length cap) ?hi6 (by kernel_rfl) (by kernel_rfl) (by kernel_rfl) (fun _ _ _ h => h) ?hy6 hS1 ?rest6
          case hi6 => simp only [List.getElem?_toArray, List.getElem?_cons_succ, List.getElem?_cons_zero]; rfl
          case hy6 => exact Or.inl ⟨rfl, fun _ hSw => rfl⟩
          simp only [Act.put, List.setIfInBounds_toArray, List.set_cons_zero, List.set_cons_succ]
          refine wpAnyH_take (i := 9) (oi := ?oi7) (v := .int .i64 (k : Int)) ?hi7 (by kernel_rfl) (by kernel_rfl) (by kernel_rfl) (fun _ _ _ h => h) ?hy7 hS1 ?rest7
          case hi7 => simp only [List.getElem?_toArray, List.getElem?_cons_succ, List.getElem?_cons_zero]; rfl
          case hy7 => exact Or.inl ⟨rfl, fun _ hSw => rfl⟩
          simp only [Act.put, List.setIfInBounds_toArray, List.set_cons_zero, List.set_cons_succ]
          refine wpAnyH_take (i := 10) (oi := ?oi8) (v := .slice (some ⟨g, oS, none⟩) (L.length - k) (cap - k)) ?hi8 (by kernel_rfl) (by kernel_rfl) (by kernel_rfl) (fun _ _ _ h => h) ?hy8 hS1 ?rest8
          case hi8 => simp only [List.getElem?_toArray, List.getElem?_cons_succ, List.getElem?_cons_zero]; rfl
          case hy8 => exact Or.inl ⟨rfl, fun _ hSw => by go_simp⟩
          simp only [Act.put, List.setIfInBounds_toArray, List.set_cons_zero, List.set_cons_succ]
          have HS1 := hid hS1
          refine wpAnyH_ready (rs := [0, 6]) (by kernel_rfl) (by simp) ?_
          refine AllReadyH.cons (o := ?oiu9_0) ?hiu9_0 ?stepu9_0 (AllReadyH.cons (o := ?oiu9_6) ?hiu9_6 ?stepu9_6 AllReadyH.nil)
          case hiu9_0 => simp only [List.getElem?_toArray, List.getElem?_cons_succ, List.getElem?_cons_zero]; rfl
          case hiu9_6 => simp only [List.getElem?_toArray, List.getElem?_cons_succ, List.getElem?_cons_zero]; rfl
          · intro K hK
            go_simp
            have o0 : OwnS (wr.alloc (.cells #[] 9)).drew wr.heap.size (.slice (some ⟨wr.heap.size, 0, none⟩) 0 0) [] := ownS_empty wr _ (Nat.le_refl _)
            refine hK.out _ _ (hS1.alloc hS1.size _) (fun hS2 => ?_)
            clear hK K
            try simp only [Act.put, List.setIfInBounds_toArray, List.set_cons_zero, List.set_cons_succ]
            replace hS2 : Below wr.heap.size wr (wr.alloc (.cells #[] 9)).drew := hS2
            generalize (wr.alloc (.cells #[] 9)).drew = W2 at *
            generalize hb0 : wr.heap.size = b0 at *
            refine wpAnyH_ready (rs := [4, 6]) (by kernel_rfl) (by simp) ?_
            refine AllReadyH.cons (o := ?oiu10_4) ?hiu10_4 ?stepu10_4 (AllReadyH.cons (o := ?oiu10_6) ?hiu10_6 ?stepu10_6 AllReadyH.nil)
            case hiu10_4 => simp only [List.getElem?_toArray, List.getElem?_cons_succ, List.getElem?_cons_zero]; rfl
            case hiu10_6 => simp only [List.getElem?_toArray, List.getElem?_cons_succ, List.getElem?_cons_zero]; rfl
            · skip
              intro K hK
              refine wp_appM _ _ rfl b0 (.slice (some ⟨b0, 0, none⟩) 0 0) [] (L.take k) rfl o0 k (by rw [List.length_take]; omega) g 0 cap rfl (fun j hj => by
                rw [List.length_take] at hj
                have hcj := HCELL.out j (by omega)
                rw [Nat.zero_add, hS2.cell (by have := block_lt_of_cell hcj; simp only at this ⊢; omega), hcj, List.getD_eq_getElem?_getD, List.getD_eq_getElem?_getD, List.getElem?_take, if_pos (by omega)]) (by rw [List.length_take, List.length_nil]; omega) (by have := hS2.size; omega) ?_
              intro v4 W4 o4 g4 n4 b4
              have hS4 := hS2.grown g4 (by have := hS2.size; omega) (fun b hb => by have := b4 b hb.symm; omega)
              refine hK.out _ _ hS4 (fun hS3 => ?_)
              clear hK K
              try simp only [Act.put, List.setIfInBounds_toArray, List.set_cons_zero, List.set_cons_succ]
              rw [List.nil_append] at o4
              have n4' := n4 (by simp)
              clear hS3 g4 n4 b4 o0 hS2
              refine wpAnyH_ready (rs := [6]) (by kernel_rfl) (by simp) ?_
              refine AllReadyH.cons (o := ?oiu11_6) ?hiu11_6 ?stepu11_6 AllReadyH.nil
              case hiu11_6 => simp only [List.getElem?_toArray, List.getElem?_cons_succ, List.getElem?_cons_zero]; rfl
              intro K hK
              go_simp
              have hbx := heap_alloc_new W4 (.cells #[.string (str x)] 9)
              have o4' := o4.below ((Below.refl _ _).alloc (Nat.le_refl _) (.cells #[.string (str x)] 9))
              have hS6 := hS4.alloc (by have := hS4.size; omega) (.cells #[.string (str x)] 9)
              refine hK.out _ _ hS6 (fun hS3 => ?_)
              clear hK K hS3
              try simp only [Act.put, List.setIfInBounds_toArray, List.set_cons_zero, List.set_cons_succ]
              generalize hbxn : W4.heap.size = bx at *
              generalize W4.alloc (.cells #[.string (str x)] 9) = W6 at *
              refine wpAnyH_ready (rs := [7]) (by kernel_rfl) (by simp) ?_
              refine AllReadyH.cons (o := ?oiu12_7) ?hiu12_7 ?stepu12_7 AllReadyH.nil
              case hiu12_7 => simp only [List.getElem?_toArray, List.getElem?_cons_succ, List.getElem?_cons_zero]; rfl
              intro K hK
              refine wp_appM _ _ rfl wr.heap.size v4 (L.take k) [x] rfl (by first | exact o4' | (rw [hb0]; exact o4') | (rw [hbxn]; exact o4')) 1 rfl bx 0 1 rfl (fun j hj => by
                obtain rfl : j = 0 := by simpa using hj
                rw [cell_of_row _ _ _ _ _ _ hbx]; rfl) (by rw [List.length_take, List.length_singleton]; omega) (by have := hS6.size; omega) ?_
              intro v7 W7 o7 g7 n7 b7
              have hS7 := hS6.grown g7 (by have := hS6.size; omega) (fun b hb => by have := b7 b hb.symm; omega)
              refine hK.out _ _ hS7 (fun hS3 => ?_)
              clear hK K hS3 g7 b7 hbx o4' hS6
              have n7' := n7 n4'
              try simp only [Act.put, List.setIfInBounds_toArray, List.set_cons_zero, List.set_cons_succ]
              refine wpAnyH_ready (rs := [11]) (by kernel_rfl) (by simp) ?_
              refine AllReadyH.cons (o := ?oiu13_11) ?hiu13_11 ?stepu13_11 AllReadyH.nil
              case hiu13_11 => simp only [List.getElem?_toArray, List.getElem?_cons_succ, List.getElem?_cons_zero]; rfl
              intro K hK
              refine wp_appM _ _ rfl wr.heap.size v7 (L.take k ++ [x]) (L.drop k) rfl o7 (L.length - k) (by rw [List.length_drop]) g oS (cap - k) rfl (fun j hj => by
                rw [List.length_drop] at hj
                have hcj := HCELL.out (k + j) (by omega)
                rw [hos2 (by omega), hS7.cell (by have := block_lt_of_cell hcj; simp only at this ⊢; omega), hcj, List.getD_eq_getElem?_getD, List.getD_eq_getElem?_getD, List.getElem?_drop]) (by simp only [List.length_append, List.length_take, List.length_drop, List.length_singleton]; omega) (by have := hS7.size; omega) ?_
              intro v11 W11 o11 g11 n11 b11
              have hS11 := hS7.grown g11 (by have := hS7.size; omega) (fun b hb => by have := b11 b hb.symm; omega)
              refine hK.out _ _ hS11 (fun hS3 => ?_)
              clear hK K hS3 g11 b11 o7 hS7
              have n11' := n11 n7'
              try simp only [Act.put, List.setIfInBounds_toArray, List.set_cons_zero, List.set_cons_succ]
              refine wpAnyH_take (i := 12) (oi := ?oi14) (v := v11) ?hi14 (by kernel_rfl) (by kernel_rfl) (by kernel_rfl) (fun _ _ _ h => h) ?hy14 hS11 ?rest14
              case hi14 => simp only [List.getElem?_toArray, List.getElem?_cons_succ, List.getElem?_cons_zero]; rfl
              case hy14 => exact Or.inl ⟨rfl, fun _ hSw => rfl⟩
              simp only [Act.put, List.setIfInBounds_toArray, List.set_cons_zero, List.set_cons_succ]
              refine wpAnyH_done (by kernel_rfl) ?_ _
              refine NoPanic.normal ?_
              go_wp2
              exact bodyPost_ret (results_tmp rfl _ _ _) rfl ⟨v11, rfl, by rw [HF.out]; exact o11.mono (by omega), n11', by first | exact hS11 | (rw [hb0]; exact hS11) | (rw [hbxn]; exact hS11)⟩
            · intro K hK
              go_simp
              have hbx := heap_alloc_new W2 (.cells #[.string (str x)] 9)
              have o0' := o0.below ((Below.refl _ _).alloc (Nat.le_refl _) (.cells #[.string (str x)] 9))
              refine hK.out _ _ (hS2.alloc (by have := hS2.size; omega) _) (fun hS2' => ?_)
              clear hK K
              try simp only [Act.put, List.setIfInBounds_toArray, List.set_cons_zero, List.set_cons_succ]
              have hnb : W2.heap.size ≠ b0 := by
                have := World.ownsRow.lt o0 b0 rfl
                omega
              clear o0 hS2
              generalize hbxn : W2.heap.size = bx at *
              generalize W2.alloc (.cells #[.string (str x)] 9) = W2b at *
              have o0 := o0'
              have hS2 := hS2'
              clear o0' hS2'
              refine wpAnyH_ready (rs := [4]) (by kernel_rfl) (by simp) ?_
              refine AllReadyH.cons (o := ?oiu16_4) ?hiu16_4 ?stepu16_4 AllReadyH.nil
              case hiu16_4 => simp only [List.getElem?_toArray, List.getElem?_cons_succ, List.getElem?_cons_zero]; rfl
              intro K hK
              refine wp_appM _ _ rfl wr.heap.size (.slice (some ⟨b0, 0, none⟩) 0 0) [] (L.take k) rfl (by first | exact o0 | (rw [hb0]; exact o0) | (rw [hbxn]; exact o0)) k (by rw [List.length_take]; omega) g 0 cap rfl (fun j hj => by
                rw [List.length_take] at hj
                have hcj := HCELL.out j (by omega)
                rw [Nat.zero_add, hS2.cell (by have := block_lt_of_cell hcj; simp only at this ⊢; omega), hcj, List.getD_eq_getElem?_getD, List.getD_eq_getElem?_getD, List.getElem?_take, if_pos (by omega)]) (by rw [List.length_take, List.length_nil]; omega) (by have := hS2.size; omega) ?_
              intro v4 W4 o4 g4 n4 b4
              have hS6 := hS2.grown g4 (by have := hS2.size; omega) (fun b hb => by have := b4 b hb.symm; omega)
              refine hK.out _ _ hS6 (fun hS3 => ?_)
              clear hK K
              try simp only [Act.put, List.setIfInBounds_toArray, List.set_cons_zero, List.set_cons_succ]
              rw [List.nil_append] at o4
              have n4' := n4 (by simp)
              have hbx6 := (g4.block bx (Array.getElem?_eq_some_iff.1 hbx).1 (fun e => by simp only [Value.ownBlock, Option.some.injEq] at e; omega)).trans hbx
              clear hS3 g4 n4 b4 o0 hS2 hbx
              have hbx := hbx6
              clear hbx6
              have o4' := o4
              generalize W4 = W6 at *
              refine wpAnyH_ready (rs := [7]) (by kernel_rfl) (by simp) ?_
              refine AllReadyH.cons (o := ?oiu17_7) ?hiu17_7 ?stepu17_7 AllReadyH.nil
              case hiu17_7 => simp only [List.getElem?_toArray, List.getElem?_cons_succ, List.getElem?_cons_zero]; rfl
              intro K hK
              refine wp_appM _ _ rfl wr.heap.size v4 (L.take k) [x] rfl (by first | exact o4' | (rw [hb0]; exact o4') | (rw [hbxn]; exact o4')) 1 rfl bx 0 1 rfl (fun j hj => by
                obtain rfl : j = 0 := by simpa using hj
                rw [cell_of_row _ _ _ _ _ _ hbx]; rfl) (by rw [List.length_take, List.length_singleton]; omega) (by have := hS6.size; omega) ?_
              intro v7 W7 o7 g7 n7 b7
              have hS7 := hS6.grown g7 (by have := hS6.size; omega) (fun b hb => by have := b7 b hb.symm; omega)
              refine hK.out _ _ hS7 (fun hS3 => ?_)
              clear hK K hS3 g7 b7 hbx o4' hS6
              have n7' := n7 n4'
              try simp only [Act.put, List.setIfInBounds_toArray, List.set_cons_zero, List.set_cons_succ]
              refine wpAnyH_ready (rs := [11]) (by kernel_rfl) (by simp) ?_
              refine AllReadyH.cons (o := ?oiu18_11) ?hiu18_11 ?stepu18_11 AllReadyH.nil
              case hiu18_11 => simp only [List.getElem?_toArray, List.getElem?_cons_succ, List.getElem?_cons_zero]; rfl
              intro K hK
              refine wp_appM _ _ rfl wr.heap.size v7 (L.take k ++ [x]) (L.drop k) rfl o7 (L.length - k) (by rw [List.length_drop]) g oS (cap - k) rfl (fun j hj => by
                rw [List.length_drop] at hj
                have hcj := HCELL.out (k + j) (by omega)
                rw [hos2 (by omega), hS7.cell (by have := block_lt_of_cell hcj; simp only at this ⊢; omega), hcj, List.getD_eq_getElem?_getD, List.getD_eq_getElem?_getD, List.getElem?_drop]) (by simp only [List.length_append, List.length_take, List.length_drop, List.length_singleton]; omega) (by have := hS7.size; omega) ?_
              intro v11 W11 o11 g11 n11 b11
              have hS11 := hS7.grown g11 (by have := hS7.size; omega) (fun b hb => by have := b11 b hb.symm; omega)
              refine hK.out _ _ hS11 (fun hS3 => ?_)
              clear hK K hS3 g11 b11 o7 hS7
              have n11' := n11 n7'
              try simp only [Act.put, List.setIfInBounds_toArray, List.set_cons_zero, List.set_cons_succ]
              refine wpAnyH_take (i := 12) (oi := ?oi19) (v := v11) ?hi19 (by kernel_rfl) (by kernel_rfl) (by kernel_rfl) (fun _ _ _ h => h) ?hy19 hS11 ?rest19
              case hi19 => simp only [List.getElem?_toArray, List.getElem?_cons_succ, List.getElem?_cons_zero]; rfl
              case hy19 => exact Or.inl ⟨rfl, fun _ hSw => rfl⟩
              simp only [Act.put, List.setIfInBounds_toArray, List.set_cons_zero, List.set_cons_succ]
              refine wpAnyH_done (by kernel_rfl) ?_ _
              refine NoPanic.normal ?_
              go_wp2
              exact bodyPost_ret (results_tmp rfl _ _ _) rfl ⟨v11, rfl, by rw [HF.out]; exact o11.mono (by omega), n11', by first | exact hS11 | (rw [hb0]; exact hS11) | (rw [hbxn]; exact hS11)⟩
          · intro K hK
            go_simp
            have hbx : (wr.alloc (.cells #[.string (str x)] 9)).drew.heap[wr.heap.size]? = some (.cells #[.string (str x)] 9 (0, 0)) := heap_alloc_new wr _
            refine hK.out _ _ (hS1.alloc hS1.size _) (fun hS2 => ?_)
            clear hK K
            try simp only [Act.put, List.setIfInBounds_toArray, List.set_cons_zero, List.set_cons_succ]
            replace hS2 : Below wr.heap.size wr (wr.alloc (.cells #[.string (str x)] 9)).drew := hS2
            have hlx := (Array.getElem?_eq_some_iff.1 hbx).1
            generalize (wr.alloc (.cells #[.string (str x)] 9)).drew = W1 at *
            generalize hbxn : wr.heap.size = bx at *
            refine wpAnyH_ready (rs := [0]) (by kernel_rfl) (by simp) ?_
            refine AllReadyH.cons (o := ?oiu21_0) ?hiu21_0 ?stepu21_0 AllReadyH.nil
            case hiu21_0 => simp only [List.getElem?_toArray, List.getElem?_cons_succ, List.getElem?_cons_zero]; rfl
            intro K hK
            go_simp
            have o0 := ownS_empty W1 bx (by rw [← hbxn]; exact hS2.size)
            have hbx' := ((Below.refl W1.heap.size W1).alloc (Nat.le_refl _) (.cells #[] 9)).block bx hlx
            rw [hbx] at hbx'
            refine hK.out _ _ (hS2.alloc (by rw [← hbxn]; exact hS2.size) _) (fun hS3 => ?_)
            clear hK K hbx
            try simp only [Act.put, List.setIfInBounds_toArray, List.set_cons_zero, List.set_cons_succ]
            have hnb : bx ≠ W1.heap.size := by omega
            clear hS2
            generalize W1.heap.size = b0 at *
            generalize W1.alloc (.cells #[] 9) = W2 at *
            have hbx := hbx'
            have hS2 := hS3
            clear hbx' hS3
            refine wpAnyH_ready (rs := [4]) (by kernel_rfl) (by simp) ?_
            refine AllReadyH.cons (o := ?oiu22_4) ?hiu22_4 ?stepu22_4 AllReadyH.nil
            case hiu22_4 => simp only [List.getElem?_toArray, List.getElem?_cons_succ, List.getElem?_cons_zero]; rfl
            intro K hK
            refine wp_appM _ _ rfl wr.heap.size (.slice (some ⟨b0, 0, none⟩) 0 0) [] (L.take k) rfl (by first | exact o0 | (rw [hb0]; exact o0) | (rw [hbxn]; exact o0)) k (by rw [List.length_take]; omega) g 0 cap rfl (fun j hj => by
              rw [List.length_take] at hj
              have hcj := HCELL.out j (by omega)
              rw [Nat.zero_add, hS2.cell (by have := block_lt_of_cell hcj; simp only at this ⊢; omega), hcj, List.getD_eq_getElem?_getD, List.getD_eq_getElem?_getD, List.getElem?_take, if_pos (by omega)]) (by rw [List.length_take, List.length_nil]; omega) (by have := hS2.size; omega) ?_
            intro v4 W4 o4 g4 n4 b4
            have hS6 := hS2.grown g4 (by have := hS2.size; omega) (fun b hb => by have := b4 b hb.symm; omega)
            refine hK.out _ _ hS6 (fun hS3 => ?_)
            clear hK K
            try simp only [Act.put, List.setIfInBounds_toArray, List.set_cons_zero, List.set_cons_succ]
            rw [List.nil_append] at o4
            have n4' := n4 (by simp)
            have hbx6 := (g4.block bx (Array.getElem?_eq_some_iff.1 hbx).1 (fun e => by simp only [Value.ownBlock, Option.some.injEq] at e; omega)).trans hbx
            clear hS3 g4 n4 b4 o0 hS2 hbx
            have hbx := hbx6
            clear hbx6
            have o4' := o4
            generalize W4 = W6 at *
            refine wpAnyH_ready (rs := [7]) (by kernel_rfl) (by simp) ?_
            refine AllReadyH.cons (o := ?oiu23_7) ?hiu23_7 ?stepu23_7 AllReadyH.nil
            case hiu23_7 => simp only [List.getElem?_toArray, List.getElem?_cons_succ, List.getElem?_cons_zero]; rfl
            intro K hK
            refine wp_appM _ _ rfl wr.heap.size v4 (L.take k) [x] rfl (by first | exact o4' | (rw [hb0]; exact o4') | (rw [hbxn]; exact o4')) 1 rfl bx 0 1 rfl (fun j hj => by
              obtain rfl : j = 0 := by simpa using hj
              rw [cell_of_row _ _ _ _ _ _ hbx]; rfl) (by rw [List.length_take, List.length_singleton]; omega) (by have := hS6.size; omega) ?_
            intro v7 W7 o7 g7 n7 b7
            have hS7 := hS6.grown g7 (by have := hS6.size; omega) (fun b hb => by have := b7 b hb.symm; omega)
            refine hK.out _ _ hS7 (fun hS3 => ?_)
            clear hK K hS3 g7 b7 hbx o4' hS6
            have n7' := n7 n4'
            try simp only [Act.put, List.setIfInBounds_toArray, List.set_cons_zero, List.set_cons_succ]
            refine wpAnyH_ready (rs := [11]) (by kernel_rfl) (by simp) ?_
            refine AllReadyH.cons (o := ?oiu24_11) ?hiu24_11 ?stepu24_11 AllReadyH.nil
            case hiu24_11 => simp only [List.getElem?_toArray, List.getElem?_cons_succ, List.getElem?_cons_zero]; rfl
            intro K hK
            refine wp_appM _ _ rfl wr.heap.size v7 (L.take k ++ [x]) (L.drop k) rfl o7 (L.length - k) (by rw [List.length_drop]) g oS (cap - k) rfl (fun j hj => by
              rw [List.length_drop] at hj
              have hcj := HCELL.out (k + j) (by omega)
              rw [hos2 (by omega), hS7.cell (by have := block_lt_of_cell hcj; simp only at this ⊢; omega), hcj, List.getD_eq_getElem?_getD, List.getD_eq_getElem?_getD, List.getElem?_drop]) (by simp only [List.length_append, List.length_take, List.length_drop, List.length_singleton]; omega) (by have := hS7.size; omega) ?_
            intro v11 W11 o11 g11 n11 b11
            have hS11 := hS7.grown g11 (by have := hS7.size; omega) (fun b hb => by have := b11 b hb.symm; omega)
            refine hK.out _ _ hS11 (fun hS3 => ?_)
            clear hK K hS3 g11 b11 o7 hS7
            have n11' := n11 n7'
            try simp only [Act.put, List.setIfInBounds_toArray, List.set_cons_zero, List.set_cons_succ]
            refine wpAnyH_take (i := 12) (oi := ?oi25) (v := v11) ?hi25 (by kernel_rfl) (by kernel_rfl) (by kernel_rfl) (fun _ _ _ h => h) ?hy25 hS11 ?rest25
            case hi25 => simp only [List.getElem?_toArray, List.getElem?_cons_succ, List.getElem?_cons_zero]; rfl
            case hy25 => exact Or.inl ⟨rfl, fun _ hSw => rfl⟩
            simp only [Act.put, List.setIfInBounds_toArray, List.set_cons_zero, List.set_cons_succ]
            refine wpAnyH_done (by kernel_rfl) ?_ _
            refine NoPanic.normal ?_
            go_wp2
            exact bodyPost_ret (results_tmp rfl _ _ _) rfl ⟨v11, rfl, by rw [HF.out]; exact o11.mono (by omega), n11', by first | exact hS11 | (rw [hb0]; exact hS11) | (rw [hbxn]; exact hS11)⟩
      · have g1 : ¬ (k : Int) < L.length := by omega
        have HF := hid (show Wd.ins L x = L.take k ++ [x] ++ L.drop k from by rw [HINS.out, if_neg (fun h => hkl h.1)])
        have hc := 0
        clear HPL HPG
        obtain ⟨ts, hts⟩ : ∃ ts, ts = L.length - k := ⟨_, rfl⟩
        have hkc : (k : Int) ≤ (cap : Int) := by omega
        obtain ⟨oS, hos, hos2⟩ : ∃ oS : Nat, (if cap = k then some (⟨g, 0, none⟩ : Addr) else some ⟨g, k, none⟩) = some ⟨g, oS, none⟩ ∧ (cap ≠ k → oS = k) := by
          by_cases h : cap = k
          · exact ⟨0, by rw [if_pos h], fun h' => absurd h h'⟩
          · exact ⟨k, by rw [if_neg h], fun _ => rfl⟩
        go_upto_region 6 with (fail)
        clear hc
        refine wp_region_noPanic ?_
        refine wp_region_held_drew (S := Below wr.heap.size wr) (by kernel_rfl) ((Below.refl _ _).drew) (fun hS1 => ?_)
        change wpAnyH _ _ _ _ _ 13 _ _ _
        refine wpAnyH_take (i := 1) (oi := ?oi28) (v := .slice (some ⟨g, 0, none⟩) L.length cap) ?hi28 (by kernel_rfl) (by kernel_rfl) (by kernel_rfl) (fun _ _ _ h => h) ?hy28 hS1 ?rest28
        case hi28 => simp only [List.getElem?_toArray, List.getElem?_cons_succ, List.getElem?_cons_zero]; rfl
        case hy28 => exact Or.inl ⟨rfl, fun _ hSw => rfl⟩
        simp only [Act.put, List.setIfInBounds_toArray, List.set_cons_zero, List.set_cons_succ]
        refine wpAnyH_take (i := 2) (oi := ?oi29) (v := .int .i64 (k : Int)) ?hi29 (by kernel_rfl) (by kernel_rfl) (by kernel_rfl) (fun _ _ _ h => h) ?hy29 hS1 ?rest29
        case hi29 => simp only [List.getElem?_toArray, List.getElem?_cons_succ, List.getElem?_cons_zero]; rfl
        case hy29 => exact Or.inl ⟨rfl, fun _ hSw => rfl⟩
        simp only [Act.put, List.setIfInBounds_toArray, List.set_cons_zero, List.set_cons_succ]
        refine wpAnyH_take (i := 3) (oi := ?oi30) (v := .slice (some ⟨g, 0, none⟩) k cap) ?hi30 (by kernel_rfl) (by kernel_rfl) (by kernel_rfl) (fun _ _ _ h => h) ?hy30 hS1 ?rest30
        case hi30 => simp only [List.getElem?_toArray, List.getElem?_cons_succ, List.getElem?_cons_zero]; rfl
        case hy30 => exact Or.inl ⟨rfl, fun _ hSw => by go_simp⟩
        simp only [Act.put, List.setIfInBounds_toArray, List.set_cons_zero, List.set_cons_succ]
        refine wpAnyH_take (i := 5) (oi := ?oi31) (v := .string (str x)) ?hi31 (by kernel_rfl) (by kernel_rfl) (by kernel_rfl) (fun _ _ _ h => h) ?hy31 hS1 ?rest31
        case hi31 => simp only [List.getElem?_toArray, List.getElem?_cons_succ, List.getElem?_cons_zero]; rfl
        case hy31 => exact Or.inl ⟨rfl, fun _ hSw => rfl⟩
        simp only [Act.put, List.setIfInBounds_toArray, List.set_cons_zero, List.set_cons_succ]
        refine wpAnyH_take (i := 8) (oi := ?oi32) (v := .slice (some ⟨g, 0, none⟩) L.length cap) ?hi32 (by kernel_rfl) (by kernel_rfl) (by kernel_rfl) (fun _ _ _ h => h) ?hy32 hS1 ?rest32
        case hi32 => simp only [List.getElem?_toArray, List.getElem?_cons_succ, List.getElem?_cons_zero]; rfl
        case hy32 => exact Or.inl ⟨rfl, fun _ hSw => rfl⟩
        simp only [Act.put, List.setIfInBounds_toArray, List.set_cons_zero, List.set_cons_succ]
        refine wpAnyH_take (i := 9) (oi := ?oi33) (v := .int .i64 (k : Int)) ?hi33 (by kernel_rfl) (by kernel_rfl) (by kernel_rfl) (fun _ _ _ h => h) ?hy33 hS1 ?rest33
        case hi33 => simp only [List.getElem?_toArray, List.getElem?_cons_succ, List.getElem?_cons_zero]; rfl
        case hy33 => exact Or.inl ⟨rfl, fun _ hSw => rfl⟩
        simp only [Act.put, List.setIfInBounds_toArray, List.set_cons_zero, List.set_cons_succ]
        refine wpAnyH_take (i := 10) (oi := ?oi34) (v := .slice (some ⟨g, oS, none⟩) (L.length - k) (cap - k)) ?hi34 (by kernel_rfl) (by kernel_rfl) (by kernel_rfl) (fun _ _ _ h => h) ?hy34 hS1 ?rest34
        case hi34 => simp only [List.getElem?_toArray, List.getElem?_cons_succ, List.getElem?_cons_zero]; rfl
        case hy34 => exact Or.inl ⟨rfl, fun _ hSw => by go_simp⟩
        simp only [Act.put, List.setIfInBounds_toArray, List.set_cons_zero, List.set_cons_succ]
        have HS1 := hid hS1
        refine wpAnyH_ready (rs := [0, 6]) (by kernel_rfl) (by simp) ?_
        refine AllReadyH.cons (o := ?oiu35_0) ?hiu35_0 ?stepu35_0 (AllReadyH.cons (o := ?oiu35_6) ?hiu35_6 ?stepu35_6 AllReadyH.nil)
        case hiu35_0 => simp only [List.getElem?_toArray, List.getElem?_cons_succ, List.getElem?_cons_zero]; rfl
        case hiu35_6 => simp only [List.getElem?_toArray, List.getElem?_cons_succ, List.getElem?_cons_zero]; rfl
        · intro K hK
          go_simp
          have o0 : OwnS (wr.alloc (.cells #[] 9)).drew wr.heap.size (.slice (some ⟨wr.heap.size, 0, none⟩) 0 0) [] := ownS_empty wr _ (Nat.le_refl _)
          refine hK.out _ _ (hS1.alloc hS1.size _) (fun hS2 => ?_)
          clear hK K
          try simp only [Act.put, List.setIfInBounds_toArray, List.set_cons_zero, List.set_cons_succ]
          replace hS2 : Below wr.heap.size wr (wr.alloc (.cells #[] 9)).drew := hS2
          generalize (wr.alloc (.cells #[] 9)).drew = W2 at *
          generalize hb0 : wr.heap.size = b0 at *
          refine wpAnyH_ready (rs := [4, 6]) (by kernel_rfl) (by simp) ?_
          refine AllReadyH.cons (o := ?oiu36_4) ?hiu36_4 ?stepu36_4 (AllReadyH.cons (o := ?oiu36_6) ?hiu36_6 ?stepu36_6 AllReadyH.nil)
          case hiu36_4 => simp only [List.getElem?_toArray, List.getElem?_cons_succ, List.getElem?_cons_zero]; rfl
          case hiu36_6 => simp only [List.getElem?_toArray, List.getElem?_cons_succ, List.getElem?_cons_zero]; rfl
          · skip
            intro K hK
            refine wp_appM _ _ rfl b0 (.slice (some ⟨b0, 0, none⟩) 0 0) [] (L.take k) rfl o0 k (by rw [List.length_take]; omega) g 0 cap rfl (fun j hj => by
              rw [List.length_take] at hj
              have hcj := HCELL.out j (by omega)
              rw [Nat.zero_add, hS2.cell (by have := block_lt_of_cell hcj; simp only at this ⊢; omega), hcj, List.getD_eq_getElem?_getD, List.getD_eq_getElem?_getD, List.getElem?_take, if_pos (by omega)]) (by rw [List.length_take, List.length_nil]; omega) (by have := hS2.size; omega) ?_
            intro v4 W4 o4 g4 n4 b4
            have hS4 := hS2.grown g4 (by have := hS2.size; omega) (fun b hb => by have := b4 b hb.symm; omega)
            refine hK.out _ _ hS4 (fun hS3 => ?_)
            clear hK K
            try simp only [Act.put, List.setIfInBounds_toArray, List.set_cons_zero, List.set_cons_succ]
            rw [List.nil_append] at o4
            have n4' := n4 (by simp)
            clear hS3 g4 n4 b4 o0 hS2
            refine wpAnyH_ready (rs := [6]) (by kernel_rfl) (by simp) ?_
            refine AllReadyH.cons (o := ?oiu37_6) ?hiu37_6 ?stepu37_6 AllReadyH.nil
            case hiu37_6 => simp only [List.getElem?_toArray, List.getElem?_cons_succ, List.getElem?_cons_zero]; rfl
            intro K hK
            go_simp
            have hbx := heap_alloc_new W4 (.cells #[.string (str x)] 9)
            have o4' := o4.below ((Below.refl _ _).alloc (Nat.le_refl _) (.cells #[.string (str x)] 9))
            have hS6 := hS4.alloc (by have := hS4.size; omega) (.cells #[.string (str x)] 9)
            refine hK.out _ _ hS6 (fun hS3 => ?_)
            clear hK K hS3
            try simp only [Act.put, List.setIfInBounds_toArray, List.set_cons_zero, List.set_cons_succ]
            generalize hbxn : W4.heap.size = bx at *
            generalize W4.alloc (.cells #[.string (str x)] 9) = W6 at *
            refine wpAnyH_ready (rs := [7]) (by kernel_rfl) (by simp) ?_
            refine AllReadyH.cons (o := ?oiu38_7) ?hiu38_7 ?stepu38_7 AllReadyH.nil
            case hiu38_7 => simp only [List.getElem?_toArray, List.getElem?_cons_succ, List.getElem?_cons_zero]; rfl
            intro K hK
            refine wp_appM _ _ rfl wr.heap.size v4 (L.take k) [x] rfl (by first | exact o4' | (rw [hb0]; exact o4') | (rw [hbxn]; exact o4')) 1 rfl bx 0 1 rfl (fun j hj => by
              obtain rfl : j = 0 := by simpa using hj
              rw [cell_of_row _ _ _ _ _ _ hbx]; rfl) (by rw [List.length_take, List.length_singleton]; omega) (by have := hS6.size; omega) ?_
            intro v7 W7 o7 g7 n7 b7
            have hS7 := hS6.grown g7 (by have := hS6.size; omega) (fun b hb => by have := b7 b hb.symm; omega)
            refine hK.out _ _ hS7 (fun hS3 => ?_)
            clear hK K hS3 g7 b7 hbx o4' hS6
            have n7' := n7 n4'
            try simp only [Act.put, List.setIfInBounds_toArray, List.set_cons_zero, List.set_cons_succ]
            refine wpAnyH_ready (rs := [11]) (by kernel_rfl) (by simp) ?_
            refine AllReadyH.cons (o := ?oiu39_11) ?hiu39_11 ?stepu39_11 AllReadyH.nil
            case hiu39_11 => simp only [List.getElem?_toArray, List.getElem?_cons_succ, List.getElem?_cons_zero]; rfl
            intro K hK
            refine wp_appM _ _ rfl wr.heap.size v7 (L.take k ++ [x]) (L.drop k) rfl o7 (L.length - k) (by rw [List.length_drop]) g oS (cap - k) rfl (fun j hj => by
              rw [List.length_drop] at hj
              have hcj := HCELL.out (k + j) (by omega)
              rw [hos2 (by omega), hS7.cell (by have := block_lt_of_cell hcj; simp only at this ⊢; omega), hcj, List.getD_eq_getElem?_getD, List.getD_eq_getElem?_getD, List.getElem?_drop]) (by simp only [List.length_append, List.length_take, List.length_drop, List.length_singleton]; omega) (by have := hS7.size; omega) ?_
            intro v11 W11 o11 g11 n11 b11
            have hS11 := hS7.grown g11 (by have := hS7.size; omega) (fun b hb => by have := b11 b hb.symm; omega)
            refine hK.out _ _ hS11 (fun hS3 => ?_)
            clear hK K hS3 g11 b11 o7 hS7
            have n11' := n11 n7'
            try simp only [Act.put, List.setIfInBounds_toArray, List.set_cons_zero, List.set_cons_succ]
            refine wpAnyH_take (i := 12) (oi := ?oi40) (v := v11) ?hi40 (by kernel_rfl) (by kernel_rfl) (by kernel_rfl) (fun _ _ _ h => h) ?hy40 hS11 ?rest40
            case hi40 => simp only [List.getElem?_toArray, List.getElem?_cons_succ, List.getElem?_cons_zero]; rfl
            case hy40 => exact Or.inl ⟨rfl, fun _ hSw => rfl⟩
            simp only [Act.put, List.setIfInBounds_toArray, List.set_cons_zero, List.set_cons_succ]
            refine wpAnyH_done (by kernel_rfl) ?_ _
            refine NoPanic.normal ?_
            go_wp2
            exact bodyPost_ret (results_tmp rfl _ _ _) rfl ⟨v11, rfl, by rw [HF.out]; exact o11.mono (by omega), n11', by first | exact hS11 | (rw [hb0]; exact hS11) | (rw [hbxn]; exact hS11)⟩
          · intro K hK
            go_simp
            have hbx := heap_alloc_new W2 (.cells #[.string (str x)] 9)
            have o0' := o0.below ((Below.refl _ _).alloc (Nat.le_refl _) (.cells #[.string (str x)] 9))
            refine hK.out _ _ (hS2.alloc (by have := hS2.size; omega) _) (fun hS2' => ?_)
            clear hK K
            try simp only [Act.put, List.setIfInBounds_toArray, List.set_cons_zero, List.set_cons_succ]
            have hnb : W2.heap.size ≠ b0 := by
              have := World.ownsRow.lt o0 b0 rfl
              omega
            clear o0 hS2
            generalize hbxn : W2.heap.size = bx at *
            generalize W2.alloc (.cells #[.string (str x)] 9) = W2b at *
            have o0 := o0'
            have hS2 := hS2'
            clear o0' hS2'
            refine wpAnyH_ready (rs := [4]) (by kernel_rfl) (by simp) ?_
            refine AllReadyH.cons (o := ?oiu42_4) ?hiu42_4 ?stepu42_4 AllReadyH.nil
            case hiu42_4 => simp only [List.getElem?_toArray, List.getElem?_cons_succ, List.getElem?_cons_zero]; rfl
            intro K hK
            refine wp_appM _ _ rfl wr.heap.size (.slice (some ⟨b0, 0, none⟩) 0 0) [] (L.take k) rfl (by first | exact o0 | (rw [hb0]; exact o0) | (rw [hbxn]; exact o0)) k (by rw [List.length_take]; omega) g 0 cap rfl (fun j hj => by
              rw [List.length_take] at hj
              have hcj := HCELL.out j (by omega)
              rw [Nat.zero_add, hS2.cell (by have := block_lt_of_cell hcj; simp only at this ⊢; omega), hcj, List.getD_eq_getElem?_getD, List.getD_eq_getElem?_getD, List.getElem?_take, if_pos (by omega)]) (by rw [List.length_take, List.length_nil]; omega) (by have := hS2.size; omega) ?_
            intro v4 W4 o4 g4 n4 b4
            have hS6 := hS2.grown g4 (by have := hS2.size; omega) (fun b hb => by have := b4 b hb.symm; omega)
            refine hK.out _ _ hS6 (fun hS3 => ?_)
            clear hK K
            try simp only [Act.put, List.setIfInBounds_toArray, List.set_cons_zero, List.set_cons_succ]
            rw [List.nil_append] at o4
            have n4' := n4 (by simp)
            have hbx6 := (g4.block bx (Array.getElem?_eq_some_iff.1 hbx).1 (fun e => by simp only [Value.ownBlock, Option.some.injEq] at e; omega)).trans hbx
            clear hS3 g4 n4 b4 o0 hS2 hbx
            have hbx := hbx6
            clear hbx6
            have o4' := o4
            generalize W4 = W6 at *
            refine wpAnyH_ready (rs := [7]) (by kernel_rfl) (by simp) ?_
            refine AllReadyH.cons (o := ?oiu43_7) ?hiu43_7 ?stepu43_7 AllReadyH.nil
            case hiu43_7 => simp only [List.getElem?_toArray, List.getElem?_cons_succ, List.getElem?_cons_zero]; rfl
            intro K hK
            refine wp_appM _ _ rfl wr.heap.size v4 (L.take k) [x] rfl (by first | exact o4' | (rw [hb0]; exact o4') | (rw [hbxn]; exact o4')) 1 rfl bx 0 1 rfl (fun j hj => by
              obtain rfl : j = 0 := by simpa using hj
              rw [cell_of_row _ _ _ _ _ _ hbx]; rfl) (by rw [List.length_take, List.length_singleton]; omega) (by have := hS6.size; omega) ?_
            intro v7 W7 o7 g7 n7 b7
            have hS7 := hS6.grown g7 (by have := hS6.size; omega) (fun b hb => by have := b7 b hb.symm; omega)
            refine hK.out _ _ hS7 (fun hS3 => ?_)
            clear hK K hS3 g7 b7 hbx o4' hS6
            have n7' := n7 n4'
            try simp only [Act.put, List.setIfInBounds_toArray, List.set_cons_zero, List.set_cons_succ]
            refine wpAnyH_ready (rs := [11]) (by kernel_rfl) (by simp) ?_
            refine AllReadyH.cons (o := ?oiu44_11) ?hiu44_11 ?stepu44_11 AllReadyH.nil
            case hiu44_11 => simp only [List.getElem?_toArray, List.getElem?_cons_succ, List.getElem?_cons_zero]; rfl
            intro K hK
            refine wp_appM _ _ rfl wr.heap.size v7 (L.take k ++ [x]) (L.drop k) rfl o7 (L.length - k) (by rw [List.length_drop]) g oS (cap - k) rfl (fun j hj => by
              rw [List.length_drop] at hj
              have hcj := HCELL.out (k + j) (by omega)
              rw [hos2 (by omega), hS7.cell (by have := block_lt_of_cell hcj; simp only at this ⊢; omega), hcj, List.getD_eq_getElem?_getD, List.getD_eq_getElem?_getD, List.getElem?_drop]) (by simp only [List.length_append, List.length_take, List.length_drop, List.length_singleton]; omega) (by have := hS7.size; omega) ?_
            intro v11 W11 o11 g11 n11 b11
            have hS11 := hS7.grown g11 (by have := hS7.size; omega) (fun b hb => by have := b11 b hb.symm; omega)
            refine hK.out _ _ hS11 (fun hS3 => ?_)
            clear hK K hS3 g11 b11 o7 hS7
            have n11' := n11 n7'
            try simp only [Act.put, List.setIfInBounds_toArray, List.set_cons_zero, List.set_cons_succ]
            refine wpAnyH_take (i := 12) (oi := ?oi45) (v := v11) ?hi45 (by kernel_rfl) (by kernel_rfl) (by kernel_rfl) (fun _ _ _ h => h) ?hy45 hS11 ?rest45
            case hi45 => simp only [List.getElem?_toArray, List.getElem?_cons_succ, List.getElem?_cons_zero]; rfl
            case hy45 => exact Or.inl ⟨rfl, fun _ hSw => rfl⟩
            simp only [Act.put, List.setIfInBounds_toArray, List.set_cons_zero, List.set_cons_succ]
            refine wpAnyH_done (by kernel_rfl) ?_ _
            refine NoPanic.normal ?_
            go_wp2
            exact bodyPost_ret (results_tmp rfl _ _ _) rfl ⟨v11, rfl, by rw [HF.out]; exact o11.mono (by omega), n11', by first | exact hS11 | (rw [hb0]; exact hS11) | (rw [hbxn]; exact hS11)⟩
        · intro K hK
          go_simp
          have hbx : (wr.alloc (.cells #[.string (str x)] 9)).drew.heap[wr.heap.size]? = some (.cells #[.string (str x)] 9 (0, 0)) := heap_alloc_new wr _
          refine hK.out _ _ (hS1.alloc hS1.size _) (fun hS2 => ?_)
          clear hK K
          try simp only [Act.put, List.setIfInBounds_toArray, List.set_cons_zero, List.set_cons_succ]
          replace hS2 : Below wr.heap.size wr (wr.alloc (.cells #[.string (str x)] 9)).drew := hS2
          have hlx := (Array.getElem?_eq_some_iff.1 hbx).1
          generalize (wr.alloc (.cells #[.string (str x)] 9)).drew = W1 at *
          generalize hbxn : wr.heap.size = bx at *
          refine wpAnyH_ready (rs := [0]) (by kernel_rfl) (by simp) ?_
          refine AllReadyH.cons (o := ?oiu47_0) ?hiu47_0 ?stepu47_0 AllReadyH.nil
          case hiu47_0 => simp only [List.getElem?_toArray, List.getElem?_cons_succ, List.getElem?_cons_zero]; rfl
          intro K hK
          go_simp
          have o0 := ownS_empty W1 bx (by rw [← hbxn]; exact hS2.size)
          have hbx' := ((Below.refl W1.heap.size W1).alloc (Nat.le_refl _) (.cells #[] 9)).block bx hlx
          rw [hbx] at hbx'
          refine hK.out _ _ (hS2.alloc (by rw [← hbxn]; exact hS2.size) _) (fun hS3 => ?_)
          clear hK K hbx
          try simp only [Act.put, List.setIfInBounds_toArray, List.set_cons_zero, List.set_cons_succ]
          have hnb : bx ≠ W1.heap.size := by omega
          clear hS2
          generalize W1.heap.size = b0 at *
          generalize W1.alloc (.cells #[] 9) = W2 at *
          have hbx := hbx'
          have hS2 := hS3
          clear hbx' hS3
          refine wpAnyH_ready (rs := [4]) (by kernel_rfl) (by simp) ?_
          refine AllReadyH.cons (o := ?oiu48_4) ?hiu48_4 ?stepu48_4 AllReadyH.nil
          case hiu48_4 => simp only [List.getElem?_toArray, List.getElem?_cons_succ, List.getElem?_cons_zero]; rfl
          intro K hK
          refine wp_appM _ _ rfl wr.heap.size (.slice (some ⟨b0, 0, none⟩) 0 0) [] (L.take k) rfl (by first | exact o0 | (rw [hb0]; exact o0) | (rw [hbxn]; exact o0)) k (by rw [List.length_take]; omega) g 0 cap rfl (fun j hj => by
            rw [List.length_take] at hj
            have hcj := HCELL.out j (by omega)
            rw [Nat.zero_add, hS2.cell (by have := block_lt_of_cell hcj; simp only at this ⊢; omega), hcj, List.getD_eq_getElem?_getD, List.getD_eq_getElem?_getD, List.getElem?_take, if_pos (by omega)]) (by rw [List.length_take, List.length_nil]; omega) (by have := hS2.size; omega) ?_
          intro v4 W4 o4 g4 n4 b4
          have hS6 := hS2.grown g4 (by have := hS2.size; omega) (fun b hb => by have := b4 b hb.symm; omega)
          refine hK.out _ _ hS6 (fun hS3 => ?_)
          clear hK K
          try simp only [Act.put, List.setIfInBounds_toArray, List.set_cons_zero, List.set_cons_succ]
          rw [List.nil_append] at o4
          have n4' := n4 (by simp)
          have hbx6 := (g4.block bx (Array.getElem?_eq_some_iff.1 hbx).1 (fun e => by simp only [Value.ownBlock, Option.some.injEq] at e; omega)).trans hbx
          clear hS3 g4 n4 b4 o0 hS2 hbx
          have hbx := hbx6
          clear hbx6
          have o4' := o4
          generalize W4 = W6 at *
          refine wpAnyH_ready (rs := [7]) (by kernel_rfl) (by simp) ?_
          refine AllReadyH.cons (o := ?oiu49_7) ?hiu49_7 ?stepu49_7 AllReadyH.nil
          case hiu49_7 => simp only [List.getElem?_toArray, List.getElem?_cons_succ, List.getElem?_cons_zero]; rfl
          intro K hK
          refine wp_appM _ _ rfl wr.heap.size v4 (L.take k) [x] rfl (by first | exact o4' | (rw [hb0]; exact o4') | (rw [hbxn]; exact o4')) 1 rfl bx 0 1 rfl (fun j hj => by
            obtain rfl : j = 0 := by simpa using hj
            rw [cell_of_row _ _ _ _ _ _ hbx]; rfl) (by rw [List.length_take, List.length_singleton]; omega) (by have := hS6.size; omega) ?_
          intro v7 W7 o7 g7 n7 b7
          have hS7 := hS6.grown g7 (by have := hS6.size; omega) (fun b hb => by have := b7 b hb.symm; omega)
          refine hK.out _ _ hS7 (fun hS3 => ?_)
          clear hK K hS3 g7 b7 hbx o4' hS6
          have n7' := n7 n4'
          try simp only [Act.put, List.setIfInBounds_toArray, List.set_cons_zero, List.set_cons_succ]
          refine wpAnyH_ready (rs := [11]) (by kernel_rfl) (by simp) ?_
          refine AllReadyH.cons (o := ?oiu50_11) ?hiu50_11 ?stepu50_11 AllReadyH.nil
          case hiu50_11 => simp only [List.getElem?_toArray, List.getElem?_cons_succ, List.getElem?_cons_zero]; rfl
          intro K hK
          refine wp_appM _ _ rfl wr.heap.size v7 (L.take k ++ [x]) (L.drop k) rfl o7 (L.length - k) (by rw [List.length_drop]) g oS (cap - k) rfl (fun j hj => by
            rw [List.length_drop] at hj
            have hcj := HCELL.out (k + j) (by omega)
            rw [hos2 (by omega), hS7.cell (by have := block_lt_of_cell hcj; simp only at this ⊢; omega), hcj, List.getD_eq_getElem?_getD, List.getD_eq_getElem?_getD, List.getElem?_drop]) (by simp only [List.length_append, List.length_take, List.length_drop, List.length_singleton]; omega) (by have := hS7.size; omega) ?_
          intro v11 W11 o11 g11 n11 b11
          have hS11 := hS7.grown g11 (by have := hS7.size; omega) (fun b hb => by have := b11 b hb.symm; omega)
          refine hK.out _ _ hS11 (fun hS3 => ?_)
          clear hK K hS3 g11 b11 o7 hS7
          have n11' := n11 n7'
          try simp only [Act.put, List.setIfInBounds_toArray, List.set_cons_zero, List.set_cons_succ]
          refine wpAnyH_take (i := 12) (oi := ?oi51) (v := v11) ?hi51 (by kernel_rfl) (by kernel_rfl) (by kernel_rfl) (fun _ _ _ h => h) ?hy51 hS11 ?rest51
          case hi51 => simp only [List.getElem?_toArray, List.getElem?_cons_succ, List.getElem?_cons_zero]; rfl
          case hy51 => exact Or.inl ⟨rfl, fun _ hSw => rfl⟩
          simp only [Act.put, List.setIfInBounds_toArray, List.set_cons_zero, List.set_cons_succ]
          refine wpAnyH_done (by kernel_rfl) ?_ _
          refine NoPanic.normal ?_
          go_wp2
          exact bodyPost_ret (results_tmp rfl _ _ _) rfl ⟨v11, rfl, by rw [HF.out]; exact o11.mono (by omega), n11', by first | exact hS11 | (rw [hb0]; exact hS11) | (rw [hbxn]; exact hS11)⟩
end Go.Proofs.Ytaipaifnkpgmhaa
