/-
  Layer 7: what the reference's rows returns.
-/
import Derived.Test.YtabhdjahdhhgiaaDoorRef7b
namespace Go.Proofs.YtabhdjahdhhgiaaDoor
open Go.RowKit
open Go.Lib (hid)

theorem pow_le16 (k : Nat) (h : k ≤ 16) : 2 ^ k ≤ 65536 := by
  have : 2 ^ k ≤ 2 ^ 16 := Nat.pow_le_pow_right (by decide) h
  omega

/-- max and min of two ints. -/
theorem run_max (P : Program) (w : World) (tys : Array TypeId) (ty : TypeId) (p q : Int) : (Builtin.max_ tys ty #[.int .i64 p, .int .i64 q]).run P w = .ok (.int .i64 (max p q)) w := by
  have h : (if q > p then q else p) = max p q := by split <;> omega
  simp [Builtin.max_, Builtin.max2, h]
theorem run_min (P : Program) (w : World) (tys : Array TypeId) (ty : TypeId) (p q : Int) : (Builtin.min_ tys ty #[.int .i64 p, .int .i64 q]).run P w = .ok (.int .i64 (min p q)) w := by
  have h : (if q < p then q else p) = min p q := by split <;> omega
  simp [Builtin.min_, Builtin.min2, h]
theorem wpList_max {P : Program} {w : World} {ops : Array Oper} {rest : List Oper} {o : Oper} {a : Act} {Q : Exit → Act → World → Prop} (hgd : o.guard = none) (x y : Operand) (tys : Array TypeId) (ho : o.op = .call { callee := .builtin .max, args := #[x, y], argTypes := tys })
    (p q r : Int) (hx : a.eval x = .int .i64 p) (hy : a.eval y = .int .i64 q) (hr : max p q = r) (h : wpList P ops Q rest (a.put o.dst (.int .i64 r)) w) : wpList P ops Q (o :: rest) a w := by
  subst hr
  refine wpList_plain hgd fun K hK => ?_
  unfold Oper.wp execOp
  simp only [ho, resolve, invoke, builtin, Sem.run_bind, Sem.run_pure, Result.andThen_ok, List.map_toArray, List.map_cons, List.map_nil, hx, hy, run_max]
  exact hK _ _ h
theorem wpList_min {P : Program} {w : World} {ops : Array Oper} {rest : List Oper} {o : Oper} {a : Act} {Q : Exit → Act → World → Prop} (hgd : o.guard = none) (x y : Operand) (tys : Array TypeId) (ho : o.op = .call { callee := .builtin .min, args := #[x, y], argTypes := tys })
    (p q r : Int) (hx : a.eval x = .int .i64 p) (hy : a.eval y = .int .i64 q) (hr : min p q = r) (h : wpList P ops Q rest (a.put o.dst (.int .i64 r)) w) : wpList P ops Q (o :: rest) a w := by
  subst hr
  refine wpList_plain hgd fun K hK => ?_
  unfold Oper.wp execOp
  simp only [ho, resolve, invoke, builtin, Sem.run_bind, Sem.run_pure, Result.andThen_ok, List.map_toArray, List.map_cons, List.map_nil, hx, hy, run_min]
  exact hK _ _ h
/-- While two sums are joined: the row below. -/
def Js (wr : World) (ar : Option Addr) (R : List (List Nat)) (u : World) : Prop := Strs u ar R ∧ Below wr.heap.size wr u
theorem Js.keep {wr : World} {ar : Option Addr} {R : List (List Nat)} {u u' : World} (h : Js wr ar R u) (hb : Below u.heap.size u u') : Js wr ar R u' := ⟨h.1.below hb, h.2.trans (hb.mono h.2.size)⟩


set_option maxHeartbeats 4000000 in
set_option maxRecDepth 100000 in
theorem rows_any (d : Int) (ao : Option Addr) (L : List (List Nat)) (cap : Nat) (hL : L.length ≤ 1000) (hb : ∀ x ∈ L.flatten, x < 256) (hlen : ∀ t ∈ L, t.length ≤ 1000000) (w : World) (hA : Strs w ao L) :
    Calls Tryd.prog 29 #[.int .i64 d, .slice ao L.length cap] w fun e w' => ∃ v, e = .returned v ∧ Rws w' w.heap.size v (Tx.rowsN (Tx.limit d) L (Tx.limit d + 1)) ∧ Below w.heap.size w w' := by
  have hD := Tx.limit_le d
  have hmn : max 0 (min d 16) = ((Tx.limit d : Nat) : Int) := by unfold Tx.limit; omega
  generalize Tx.limit d = D at *
  have HA := hid hA
  have HGL := hid (show ∀ k, (∀ x ∈ L.getD k [], x < 256) ∧ (L.getD k []).length ≤ 1000000 from fun k => ⟨fun x hx => hb x (getD_mem_flatten L k x hx), by
    by_cases hk : k < L.length
    · exact hlen _ (by rw [List.getD_eq_getElem?_getD, List.getElem?_eq_getElem hk]; exact List.getElem_mem _)
    · rw [Tx.getD_out L [] k (by omega)]; simp⟩)
  have HSG := hid (Tx.sumAt_good D L hL)
  have HSF := hid (fun i (hi : i < 2 ^ D) => Tx.sumAt_leaf D L i hi)
  have hp := pow_le16 D (by omega)
  clear hA hb hlen
  obtain ⟨m, hmin⟩ : ∃ m, min d 16 = m := ⟨_, rfl⟩
  have hmax : max 0 m = (D : Int) := by rw [← hmin]; exact hmn
  clear hmn
  go_enter Tryd.func29, Tryd.ntmps29
  go_upto_region 4 with (first
    | (refine wpList_min rfl _ _ _ rfl d 16 _ rfl rfl hmin ?_)
    | (refine wpList_max rfl _ _ _ rfl 0 m _ rfl rfl hmax ?_))
  go_loopw [5, 6] (fun n i wr => ∃ k : Nat, k ≤ D ∧ i = .int .i64 k ∧ n = .int .i64 (2 ^ k : Nat) ∧ w = wr)
    (fun _ i _ => D - (intOf i).toNat)
  case atStart => exact ⟨0, by omega, rfl, rfl, rfl⟩
  case round =>
    obtain ⟨k, hk, rfl, rfl, rfl⟩ := hrel
    by_cases hlt : k < D
    · have hpk := pow_le16 k (by omega)
      have HP2 := hid (Nat.pow_succ 2 k)
      generalize 2 ^ k = p at *
      have g1 : (k : Int) < D := by omega
      go_wp2
      exact ⟨⟨k + 1, by omega, congrArg (Value.int .i64) (by omega), congrArg (Value.int .i64) (by rw [HP2.out]; omega), trivial⟩, by simp only [intOf]; omega⟩
    · obtain rfl : D = k := by omega
      clear hlt hk
      have g1 : ¬ (D : Int) < D := by omega
      have HPD := hid (show Tx.partN D L 0 (2 ^ D) = Tx.rowK D L 0 from rfl)
      have HPW := hid (fun k (hk : k ≤ D) => pow_le16 (D - k) (by omega))
      have HPH := hid (fun k (hk : k < D) => show 2 ^ (D - k) = 2 * 2 ^ (D - (k + 1)) from by
        rw [show D - k = (D - (k + 1)) + 1 from by omega, Nat.pow_succ, Nat.mul_comm])
      generalize 2 ^ D = p at *
      go_upto_region 9 with (fail)
      have HO0 := hid (OwnS.empty w w.heap.size (Nat.le_refl _))
      have HB0 := hid (show Below w.heap.size w (w.alloc (.cells #[] 9)) from (Below.refl _ _).alloc (Nat.le_refl _) _)
      generalize w.alloc _ = w0 at *
      go_loopw [7, 8, 9] (fun row i _ wr => ∃ k : Nat, k ≤ p ∧ i = .int .i64 k ∧ OwnS wr w.heap.size row (Tx.partN D L 0 k) ∧ Below w.heap.size w wr)
        (fun _ i _ _ => p - (intOf i).toNat)
      case atStart => exact ⟨0, by omega, rfl, HO0.out, HB0.out⟩
      case round =>
        clear HO0 HB0
        obtain ⟨k, hk, rfl, hO, hB⟩ := hrel
        by_cases hlt : k < p
        · have HX := hid (HSF.out k hlt)
          have hg := HGL.out k
          have HOF := hid (fun wx => refof_any (Tx.leaf (L.getD k [])) (Tx.leaf_lt _ hg.1) (by simp only [Tx.leaf, List.length_cons]; omega) wx)
          rw [show Sx.digest (Tx.leaf (L.getD k [])) = Tx.hl (L.getD k []) from rfl, ← HX.out] at HOF
          have hap := str_leaf (L.getD k [])
          have hzt : (str (L.getD k [])).size ≤ 1000000 := by rw [str_size]; exact hg.2
          have HTS := hid (Tx.partN_succ D L 0 k)
          have htl := Tx.partN_length D L 0 k
          have HO := hid hO
          have HB := hid hB
          have hsz := hB.size
          generalize str (Tx.leaf (L.getD k [])) = SL at *
          generalize Tx.partN D L 0 k = P at *
          generalize Tx.sumAt D L 0 k = f at *
          have g2 : (k : Int) < p := by omega
          clear hO hg HX
          by_cases hkl : k < L.length
          · obtain ⟨sb, so, rfl, hc⟩ := HA.out k hkl
            have hcell : wr.cell? ⟨sb, so + k, none⟩ = some (.string (str (L.getD k []))) := (hB.cell (block_lt_of_cell hc)).trans hc
            have g3 : (k : Int) < L.length := by omega
            clear hc hB
            generalize str (L.getD k []) = ST at *
            go_wp2_with fail
            refine (HOF.out _).mono ?_
            rintro e w2 ⟨rfl, hb2⟩
            have HO2 := hid (HO.out.below hb2)
            have HB2 := hid (HB.out.trans (hb2.mono hsz))
            have hs2 := HB2.out.size
            clear hb2 HOF HO HB
            go_wp2_with (refine wpList_appS rfl _ _ rfl w.heap.size _ P rfl (HO2.out.below ((Below.refl _ _).alloc (Nat.le_refl _) _)) _ f rfl (by rw [Addr.add_mid, cell_of_row _ _ _ _ _ _ (heap_alloc_new _ _)]; rfl) (by omega) (by simp; omega) ?_; intro v' w' hown' hbel')
            rw [HTS.out] at hown'
            exact ⟨⟨k + 1, by omega, congrArg (Value.int .i64) (by omega), hown', (HB2.out.alloc hs2 _).trans hbel'⟩, by simp only [intOf]; omega⟩
          · have g3 : ¬ (k : Int) < L.length := by omega
            rw [Tx.getD_out L [] k (by omega), show str ([] : List Nat) = ⟨#[]⟩ from rfl] at hap hzt
            clear hB
            go_wp2_with fail
            refine (HOF.out _).mono ?_
            rintro e w2 ⟨rfl, hb2⟩
            have HO2 := hid (HO.out.below hb2)
            have HB2 := hid (HB.out.trans (hb2.mono hsz))
            have hs2 := HB2.out.size
            clear hb2 HOF HO HB
            go_wp2_with (refine wpList_appS rfl _ _ rfl w.heap.size _ P rfl (HO2.out.below ((Below.refl _ _).alloc (Nat.le_refl _) _)) _ f rfl (by rw [Addr.add_mid, cell_of_row _ _ _ _ _ _ (heap_alloc_new _ _)]; rfl) (by omega) (by simp; omega) ?_; intro v' w' hown' hbel')
            rw [HTS.out] at hown'
            exact ⟨⟨k + 1, by omega, congrArg (Value.int .i64) (by omega), hown', (HB2.out.alloc hs2 _).trans hbel'⟩, by simp only [intOf]; omega⟩
        · obtain rfl : p = k := by omega
          rw [HPD.out] at hO
          have HO := hid hO
          have HB := hid hB
          have hsz := hB.size
          have g2 : ¬ (p : Int) < p := by omega
          clear hlt hk
          obtain ⟨ar0, cr0, rfl, _⟩ := hO.strs
          clear hO hB
          generalize (Tx.rowK D L 0).length = n0 at *
          go_upto_region 16 with (fail)
          have HR1 := hid (show Rws (wr.alloc (.cells #[.slice ar0 n0 cr0] 22)) w.heap.size (.slice (some ⟨wr.heap.size, 0, none⟩) 1 1) (Tx.rowsN D L 1) from Rws.one wr w.heap.size _ _ HO.out hsz)
          have HO1 := hid (HO.out.below ((Below.refl wr.heap.size wr).alloc (Nat.le_refl _) (.cells #[.slice ar0 n0 cr0] 22)))
          have HB1 := hid (HB.out.alloc hsz (.cells #[.slice ar0 n0 cr0] 22))
          generalize wr.alloc _ = w1 at *
          clear HO HB hsz
          go_loopw [7, 10, 11, 12] (fun row out _ _ wq => ∃ k : Nat, k ≤ D ∧ OwnS wq w.heap.size row (Tx.rowK D L k) ∧ Rws wq w.heap.size out (Tx.rowsN D L (k + 1)) ∧ Below w.heap.size w wq)
            (fun row _ _ _ _ => lenV row)
          case atStart => exact ⟨0, by omega, HO1.out, HR1.out, HB1.out⟩
          case round =>
            clear HO1 HR1 HB1
            generalize wr = wq at *
            obtain ⟨k, hk, hO, hR, hB⟩ := hrel
            obtain ⟨ar, cr, rfl, hstr⟩ := hO.strs
            have HO := hid hO
            have HR := hid hR
            have HB := hid hB
            have HST := hid hstr
            have hsz := hB.size
            rw [Tx.rowK_length]
            clear hO hR hB hstr
            by_cases hlt : k < D
            · have HRG := hid (fun i (hi : i < 2 ^ (D - k)) => Tx.rowK_getD D L k i [] hi)
              have HLN := hid (Tx.rowK_length D L k)
              have hq := HPW.out k (by omega)
              have hq2 := HPH.out k hlt
              have HPN := hid (show Tx.partN D L (k + 1) (2 ^ (D - (k + 1))) = Tx.rowK D L (k + 1) from rfl)
              have HLN1 := hid (Tx.rowK_length D L (k + 1))
              have hh0 : 0 < 2 ^ (D - (k + 1)) := Nat.pow_pos (by decide)
              generalize 2 ^ (D - (k + 1)) = h at *
              generalize 2 ^ (D - k) = q at *
              have g3 : (1 : Int) < q := by omega
              have HQ2 := hid hq2
              have hhq : h ≤ 65536 := by omega
              clear hq2
              go_upto_region 19 with (fail)
              have HN0 := hid (OwnS.empty wq wq.heap.size (Nat.le_refl _))
              have HM0 := hid (show Below wq.heap.size wq (wq.alloc (.cells #[] 9)) from (Below.refl _ _).alloc (Nat.le_refl _) _)
              generalize wq.alloc _ = wn at *
              go_loopw [11, 12] (fun nx i u => ∃ j : Nat, j ≤ h ∧ i = .int .i64 (2 * (j : Int)) ∧ OwnS u wq.heap.size nx (Tx.partN D L (k + 1) j) ∧ Below wq.heap.size wq u)
                (fun _ i _ => q - (intOf i).toNat)
              case atStart => exact ⟨0, by omega, rfl, HN0.out, HM0.out⟩
              case round =>
                clear HN0 HM0
                obtain ⟨j, hj, rfl, hN, hM⟩ := hrel
                have HN := hid hN
                have HM := hid hM
                clear hN hM
                by_cases hjl : j < h
                · have HJ1 := hid (HRG.out (2 * j) (by have := HQ2.out; omega))
                  have HJ2 := hid (HRG.out (2 * j + 1) (by have := HQ2.out; omega))
                  have s1 := HSG.out k (2 * j)
                  have s2 := HSG.out k (2 * j + 1)
                  have HND := hid (fun wx => refof_any (Tx.node (Tx.sumAt D L k (2 * j)) (Tx.sumAt D L k (2 * j + 1))) (Tx.node_lt _ _ s1.2 s2.2) (by rw [Tx.node, List.length_cons, List.length_append]; omega) wx)
                  rw [show Sx.digest (Tx.node (Tx.sumAt D L k (2 * j)) (Tx.sumAt D L k (2 * j + 1))) = Tx.sumAt D L (k + 1) j from (Tx.sumAt_succ D L k j).symm] at HND
                  obtain ⟨S1, e1, e2, z1, z2, z3⟩ := str_node _ _ s1.1 s2.1
                  have HTS := hid (Tx.partN_succ D L (k + 1) j)
                  have htl := Tx.partN_length D L (k + 1) j
                  obtain ⟨rb, ro, rfl, _⟩ := HST.out (2 * j) (by rw [HLN.out]; have := HQ2.out; omega)
                  have HC1 := hid (fun u (h : Js wq (some ⟨rb, ro, none⟩) (Tx.rowK D L k) u) => (show u.cell? ⟨rb, ro + 2 * j, none⟩ = some (.string (str (Tx.sumAt D L k (2 * j)))) from by
                    obtain ⟨b', o', hbo, hc⟩ := h.1 (2 * j) (by rw [HLN.out]; have := HQ2.out; omega)
                    injection hbo with hbo
                    injection hbo with h1 h2
                    subst h1 h2
                    rw [hc, HJ1.out]))
                  have HC2 := hid (fun u (h : Js wq (some ⟨rb, ro, none⟩) (Tx.rowK D L k) u) => (show u.cell? ⟨rb, ro + (2 * j + 1), none⟩ = some (.string (str (Tx.sumAt D L k (2 * j + 1)))) from by
                    obtain ⟨b', o', hbo, hc⟩ := h.1 (2 * j + 1) (by rw [HLN.out]; have := HQ2.out; omega)
                    injection hbo with hbo
                    injection hbo with h1 h2
                    subst h1 h2
                    rw [hc, HJ2.out]))
                  generalize str (Tx.node (Tx.sumAt D L k (2 * j)) (Tx.sumAt D L k (2 * j + 1))) = SN at *
                  generalize str (Tx.sumAt D L k (2 * j)) = SA at *
                  generalize str (Tx.sumAt D L k (2 * j + 1)) = SB at *
                  generalize Tx.sumAt D L (k + 1) j = f at *
                  generalize Tx.partN D L (k + 1) j = P at *
                  have g4 : 2 * (j : Int) < q := by have := HQ2.out; omega
                  clear s1 s2 HJ1 HJ2
                  go_upto_region 21 with (fail)
                  have k1 : (2 * (j : Int)).toNat = 2 * j := by omega
                  have k2 : (2 * (j : Int) + 1).toNat = 2 * j + 1 := by omega
                  have k3 : (0 : Int) ≤ 2 * (j : Int) := by omega
                  have k4 : (0 : Int) ≤ 2 * (j : Int) + 1 := by omega
                  have k5 : 2 * (j : Int) + 1 < q := by have := HQ2.out; omega
                  have k6 : IntKind.i64.wrap (2 * (j : Int) + 1) = 2 * (j : Int) + 1 := by simp [IntKind.wrap, IntKind.bits, IntKind.signed]; omega
                  refine wp_region_noPanic ?_
                  refine wp_region_held_drew (S := Js wq (some ⟨rb, ro, none⟩) (Tx.rowK D L k)) (by kernel_rfl) (Js.keep ⟨HST.out.below HM.out, HM.out⟩ ((Below.refl _ _).drew)) (fun hS1 => ?_)
                  change wpAnyH _ _ _ _ _ 16 _ _ _
                  refine wpAnyH_take (i := 0) (oi := ?oi2) (v := u11) ?hi2 (by kernel_rfl) (by kernel_rfl) (by kernel_rfl) (fun _ _ _ h => h) ?hy2 hS1 ?rest2
                  case hi2 => simp only [List.getElem?_toArray, List.getElem?_cons_zero]; rfl
                  case hy2 => exact Or.inl ⟨rfl, fun _ hSw => rfl⟩
                  simp only [Act.put, List.setIfInBounds_toArray, List.set_cons_zero, List.set_cons_succ]
                  refine wpAnyH_take (i := 1) (oi := ?oi3) (v := .slice (some ⟨rb, ro, none⟩) q cr) ?hi3 (by kernel_rfl) (by kernel_rfl) (by kernel_rfl) (fun _ _ _ h => h) ?hy3 hS1 ?rest3
                  case hi3 => simp only [List.getElem?_toArray, List.getElem?_cons_succ, List.getElem?_cons_zero]; rfl
                  case hy3 => exact Or.inl ⟨rfl, fun _ hSw => rfl⟩
                  simp only [Act.put, List.setIfInBounds_toArray, List.set_cons_zero, List.set_cons_succ]
                  refine wpAnyH_take (i := 2) (oi := ?oi4) (v := .int .i64 (2 * (j : Int))) ?hi4 (by kernel_rfl) (by kernel_rfl) (by kernel_rfl) (fun _ _ _ h => h) ?hy4 hS1 ?rest4
                  case hi4 => simp only [List.getElem?_toArray, List.getElem?_cons_succ, List.getElem?_cons_zero]; rfl
                  case hy4 => exact Or.inl ⟨rfl, fun _ hSw => rfl⟩
                  simp only [Act.put, List.setIfInBounds_toArray, List.set_cons_zero, List.set_cons_succ]
                  refine wpAnyH_take (i := 3) (oi := ?oi5) (v := .pointer (some ⟨rb, ro + 2 * j, none⟩)) ?hi5 (by kernel_rfl) (by kernel_rfl) (by kernel_rfl) (fun _ _ _ h => h) ?hy5 hS1 ?rest5
                  case hi5 => simp only [List.getElem?_toArray, List.getElem?_cons_succ, List.getElem?_cons_zero]; rfl
                  case hy5 => exact Or.inl ⟨rfl, fun _ hSw => by go_simp⟩
                  simp only [Act.put, List.setIfInBounds_toArray, List.set_cons_zero, List.set_cons_succ]
                  refine wpAnyH_take (i := 4) (oi := ?oi6) (v := .string SA) ?hi6 (by kernel_rfl) (by kernel_rfl) (by kernel_rfl) (fun _ _ _ h => h) ?hy6 hS1 ?rest6
                  case hi6 => simp only [List.getElem?_toArray, List.getElem?_cons_succ, List.getElem?_cons_zero]; rfl
                  case hy6 => exact Or.inl ⟨rfl, fun _ hSw => by have hc := HC1.out _ hSw; go_simp⟩
                  simp only [Act.put, List.setIfInBounds_toArray, List.set_cons_zero, List.set_cons_succ]
                  refine wpAnyH_take (i := 5) (oi := ?oi7) (v := .string S1) ?hi7 (by kernel_rfl) (by kernel_rfl) (by kernel_rfl) (fun _ _ _ h => h) ?hy7 hS1 ?rest7
                  case hi7 => simp only [List.getElem?_toArray, List.getElem?_cons_succ, List.getElem?_cons_zero]; rfl
                  case hy7 => exact Or.inl ⟨rfl, fun _ hSw => by go_simp⟩
                  simp only [Act.put, List.setIfInBounds_toArray, List.set_cons_zero, List.set_cons_succ]
                  refine wpAnyH_take (i := 6) (oi := ?oi8) (v := .slice (some ⟨rb, ro, none⟩) q cr) ?hi8 (by kernel_rfl) (by kernel_rfl) (by kernel_rfl) (fun _ _ _ h => h) ?hy8 hS1 ?rest8
                  case hi8 => simp only [List.getElem?_toArray, List.getElem?_cons_succ, List.getElem?_cons_zero]; rfl
                  case hy8 => exact Or.inl ⟨rfl, fun _ hSw => rfl⟩
                  simp only [Act.put, List.setIfInBounds_toArray, List.set_cons_zero, List.set_cons_succ]
                  refine wpAnyH_take (i := 7) (oi := ?oi9) (v := .int .i64 (2 * (j : Int))) ?hi9 (by kernel_rfl) (by kernel_rfl) (by kernel_rfl) (fun _ _ _ h => h) ?hy9 hS1 ?rest9
                  case hi9 => simp only [List.getElem?_toArray, List.getElem?_cons_succ, List.getElem?_cons_zero]; rfl
                  case hy9 => exact Or.inl ⟨rfl, fun _ hSw => rfl⟩
                  simp only [Act.put, List.setIfInBounds_toArray, List.set_cons_zero, List.set_cons_succ]
                  refine wpAnyH_take (i := 8) (oi := ?oi10) (v := .int .i64 (2 * (j : Int) + 1)) ?hi10 (by kernel_rfl) (by kernel_rfl) (by kernel_rfl) (fun _ _ _ h => h) ?hy10 hS1 ?rest10
                  case hi10 => simp only [List.getElem?_toArray, List.getElem?_cons_succ, List.getElem?_cons_zero]; rfl
                  case hy10 => exact Or.inl ⟨rfl, fun _ hSw => by go_simp⟩
                  simp only [Act.put, List.setIfInBounds_toArray, List.set_cons_zero, List.set_cons_succ]
                  refine wpAnyH_take (i := 9) (oi := ?oi11) (v := .pointer (some ⟨rb, ro + (2 * j + 1), none⟩)) ?hi11 (by kernel_rfl) (by kernel_rfl) (by kernel_rfl) (fun _ _ _ h => h) ?hy11 hS1 ?rest11
                  case hi11 => simp only [List.getElem?_toArray, List.getElem?_cons_succ, List.getElem?_cons_zero]; rfl
                  case hy11 => exact Or.inl ⟨rfl, fun _ hSw => by go_simp⟩
                  simp only [Act.put, List.setIfInBounds_toArray, List.set_cons_zero, List.set_cons_succ]
                  refine wpAnyH_take (i := 10) (oi := ?oi12) (v := .string SB) ?hi12 (by kernel_rfl) (by kernel_rfl) (by kernel_rfl) (fun _ _ _ h => h) ?hy12 hS1 ?rest12
                  case hi12 => simp only [List.getElem?_toArray, List.getElem?_cons_succ, List.getElem?_cons_zero]; rfl
                  case hy12 => exact Or.inl ⟨rfl, fun _ hSw => by have hc := HC2.out _ hSw; go_simp⟩
                  simp only [Act.put, List.setIfInBounds_toArray, List.set_cons_zero, List.set_cons_succ]
                  refine wpAnyH_take (i := 11) (oi := ?oi13) (v := .string SN) ?hi13 (by kernel_rfl) (by kernel_rfl) (by kernel_rfl) (fun _ _ _ h => h) ?hy13 hS1 ?rest13
                  case hi13 => simp only [List.getElem?_toArray, List.getElem?_cons_succ, List.getElem?_cons_zero]; rfl
                  case hy13 => exact Or.inl ⟨rfl, fun _ hSw => by go_simp⟩
                  simp only [Act.put, List.setIfInBounds_toArray, List.set_cons_zero, List.set_cons_succ]
                  refine wpAnyH_ready (rs := [12]) (by kernel_rfl) (by simp) ?_
                  refine AllReadyH.cons (o := ?oi14) ?hi14 ?step14 AllReadyH.nil
                  case hi14 => simp only [List.getElem?_toArray, List.getElem?_cons_succ, List.getElem?_cons_zero]; rfl
                  intro K hK
                  go_simp
                  refine (HND.out _).mono ?_
                  rintro e w5 ⟨rfl, hb5⟩
                  refine hK.out _ _ (hS1.keep hb5) (fun hS2 => ?_)
                  clear hK K
                  try simp only [Act.put, List.setIfInBounds_toArray, List.set_cons_zero, List.set_cons_succ]
                  refine wpAnyH_ready (rs := [13]) (by kernel_rfl) (by simp) ?_
                  refine AllReadyH.cons (o := ?oib_13) ?hib_13 ?stepb_13 AllReadyH.nil
                  case hib_13 => simp only [List.getElem?_toArray, List.getElem?_cons_succ, List.getElem?_cons_zero]; rfl
                  intro K hK
                  go_simp
                  refine hK.out _ _ (hS2.keep ((Below.refl _ _).alloc (Nat.le_refl _) _)) (fun hS3 => ?_)
                  clear hK K
                  try simp only [Act.put, List.setIfInBounds_toArray, List.set_cons_zero, List.set_cons_succ]
                  refine wpAnyH_ready (rs := [14]) (by kernel_rfl) (by simp) ?_
                  refine AllReadyH.cons (o := ?oic_14) ?hic_14 ?stepc_14 AllReadyH.nil
                  case hic_14 => simp only [List.getElem?_toArray, List.getElem?_cons_succ, List.getElem?_cons_zero]; rfl
                  intro K hK
                  have hbx : Below wr.heap.size wr (w5.alloc (.cells #[.string (str f)] 9)) := by
                    have h1 : Below wr.heap.size wr w5 := (Below.refl _ _).drew.trans hb5
                    exact h1.alloc h1.size _
                  refine wp_appS _ _ rfl wq.heap.size _ P rfl (HN.out.below hbx) _ f rfl (by rw [Addr.add_mid, cell_of_row _ _ _ _ _ _ (heap_alloc_new _ _)]; rfl) (by omega) (Nat.le_trans HM.out.size hbx.size) ?_
                  intro v' w6 ho6 hb6
                  have hbq : Below wq.heap.size wq w6 := hS3.2.trans hb6
                  refine hK.out _ _ ⟨HST.out.below hbq, hbq⟩ (fun hS4 => ?_)
                  clear hK K
                  try simp only [Act.put, List.setIfInBounds_toArray, List.set_cons_zero, List.set_cons_succ]
                  refine wpAnyH_take (i := 15) (oi := ?oi18) (v := v') ?hi18 (by kernel_rfl) (by kernel_rfl) (by kernel_rfl) (fun _ _ _ h => h) ?hy18 hS4 ?rest18
                  case hi18 => simp only [List.getElem?_toArray, List.getElem?_cons_succ, List.getElem?_cons_zero]; rfl
                  case hy18 => exact Or.inl ⟨rfl, fun _ hSw => rfl⟩
                  simp only [Act.put, List.setIfInBounds_toArray, List.set_cons_zero, List.set_cons_succ]
                  refine wpAnyH_done (by kernel_rfl) ?_ _
                  refine NoPanic.normal ?_
                  rw [HTS.out] at ho6
                  clear hS1 hS2 hS3 hS4 hbx hb5 hb6 k1 k2 k3 k4 k5 k6
                  go_wp2
                  exact ⟨⟨j + 1, by omega, congrArg (Value.int .i64) (by omega), ho6, hbq⟩, by simp only [intOf]; omega⟩
                · obtain rfl : h = j := by omega
                  rw [HPN.out] at HN
                  have hRz : Rws wr w.heap.size u10 (Tx.rowsN D L (k + 1)) := HR.out.below HM.out
                  obtain ⟨an, cn, rfl, _⟩ := HN.out.strs
                  have HNW := hid (show OwnS wr w.heap.size (.slice an (Tx.rowK D L (k + 1)).length cn) (Tx.rowK D L (k + 1)) from HN.out.mono hsz)
                  have HBW := hid (HB.out.trans (HM.out.mono hsz))
                  have HRZ := hid hRz
                  have HRS := hid (Tx.rowsN_succ D L (k + 1))
                  have hrl := Tx.rowsN_length D L (k + 1)
                  have hsw := HBW.out.size
                  have g4 : ¬ (2 * (h : Int) < q) := by have := HQ2.out; omega
                  rw [HLN1.out] at HNW ⊢
                  clear hRz HN HM HO HR HB HST hjl hj
                  generalize Tx.rowsN D L (k + 1) = RS at *
                  generalize hRK : Tx.rowK D L (k + 1) = RK at *
                  have HRK := hid hRK
                  clear hRK
                  go_wp2_with (refine wpList_appR rfl _ _ rfl w.heap.size _ RS rfl (HRZ.out.below ((Below.refl _ _).alloc (Nat.le_refl _) _)) _ (.slice an h cn) RK rfl (by rw [Addr.add_mid, cell_of_row _ _ _ _ _ _ (heap_alloc_new _ _)]; rfl) (HNW.out.below ((Below.refl _ _).alloc (Nat.le_refl _) _)) (by omega) (by simp; omega) ?_; intro v' w' hr' ho' hb')
                  rw [HRS.out] at hr'
                  exact ⟨⟨k + 1, by omega, by rw [HRK.out]; exact ho', hr', (HBW.out.alloc hsw _).trans hb'⟩, by simp only [lenV]; have := HQ2.out; omega⟩
            · obtain rfl : D = k := by omega
              have g3 : ¬ ((1 : Int) < ((2 ^ (D - D) : Nat) : Int)) := by rw [Nat.sub_self]; decide
              generalize 2 ^ (D - D) = q at *
              go_wp2
              go_ret
              exact ⟨_, rfl, HR.out, HB.out⟩
end Go.Proofs.YtabhdjahdhhgiaaDoor
