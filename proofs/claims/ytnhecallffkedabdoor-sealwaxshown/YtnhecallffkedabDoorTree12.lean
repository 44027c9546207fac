/-
  Layer 7: what tree.meeting returns.
-/
import Derived.Test.YtnhecallffkedabDoorBase
import Derived.Test.YtnhecallffkedabDoorTreeM
namespace Go.Proofs.YtnhecallffkedabDoor
open Go.RowKit
open Go.Lib (hid)

/-- A guarded load out of the middle of a block. -/
theorem wpList_load_mid_g {P : Program} {ops : Array Oper} {rest : List Oper} {op : Oper} {a : Act} {w : World} {Q : Exit → Act → World → Prop} (hw : Region.wanted op (yielded ops a.tmps) = true) (ty : TypeId) (x : Operand) (ho : op.op = .load ty x)
    (b o : Nat) (hx : a.eval x = .pointer (some ⟨b, o, none⟩)) (cs : List Value) (d : TypeDesc) (hc : w.rangeAt b o cs)
    (hu : P.underlying ty = some d) (hd : d.isRow = true) (hi : (P.info? ty).map (·.size) = some cs.length)
    (h : wpList P ops Q rest (a.put op.dst (.agg cs.toArray)) w) : wpList P ops Q (op :: rest) a w :=
  wpList_step fun K hK => by rw [if_pos hw]; exact wp_load_mid ty x ho b o hx cs d hc hu hd hi (hK _ _ h)
namespace Tx
/-- What meeting tells: two texts at one step that differM and have one sum, or that there are none. -/
def Met (A B : List (List Nat)) (x y : List Nat) (is : Bool) : Prop :=
  (is = true ∧ x ≠ y ∧ Sx.digest x = Sx.digest y ∧ x ∈ A ∧ y ∈ B) ∨ (is = false ∧ x = [] ∧ y = [] ∧ ∀ k, k < A.length → Sx.digest (A.getD k []) = Sx.digest (B.getD k []) → A.getD k [] = B.getD k [])
def MetE (A B : List (List Nat)) (e : Ending) : Prop := ∃ x y is, e = .returned (.tuple #[.string (str x), .string (str y), .bool is]) ∧ Met A B x y is
end Tx
theorem step_text {w : World} {b : Nat} {t : List Nat} {ty : TypeId} {fr : Nat × Nat} (h : w.heap[b]? = some (.cells (stepC t) ty fr)) : w.cell? ⟨b, 0, none⟩ = some (.string (str t)) := by
  rw [cell_of_row w b 0 _ _ _ h]; simp only [stepC]; rw [Array.getElem?_append_left (by simp)]; rfl
theorem step_sum {w : World} {b : Nat} {t : List Nat} {ty : TypeId} {fr : Nat × Nat} (h : w.heap[b]? = some (.cells (stepC t) ty fr)) : w.rangeAt b 1 (ints .u8 (Sx.digest t)).toList := by
  intro j u hj
  rw [cell_of_row w b (1 + j) _ _ _ h]
  simp only [stepC]
  rw [Array.getElem?_append_right (by simp)]
  simpa using hj

theorem no_next {A B : List (List Nat)} {k : Nat} {x y : List Nat} (h : ∀ j, j < k → Sx.digest (A.getD j []) = Sx.digest (B.getD j []) → A.getD j [] = B.getD j []) (hx : A.getD k [] = x) (hy : B.getD k [] = y) (h' : Sx.digest x = Sx.digest y → x = y) :
    ∀ j, j < k + 1 → Sx.digest (A.getD j []) = Sx.digest (B.getD j []) → A.getD j [] = B.getD j [] := by
  intro j hj
  rcases Nat.lt_or_ge j k with h1 | h1
  · exact h j h1
  · obtain rfl : j = k := by omega
    rw [hx, hy]; exact h'

set_option maxHeartbeats 2000000 in
set_option maxRecDepth 100000 in
theorem meeting_any (vA vB : Value) (A B : List (List Nat)) (hl : A.length = B.length) (hAl : A.length ≤ 1000) (hAb : ∀ t ∈ A, ∀ x ∈ t, x < 256) (hBb : ∀ t ∈ B, ∀ x ∈ t, x < 256) (w : World) (hWA : Ways w vA A) (hWB : Ways w vB B) :
    Calls Tryd.prog 45 #[vA, vB] w fun e w' => Tx.MetE A B e ∧ Below w.heap.size w w' := by
  obtain ⟨ao, ca, rfl, hca⟩ := hWA
  obtain ⟨bo, cb, rfl, hcb⟩ := hWB
  rw [← hl] at hcb ⊢
  have HCA := hid hca
  have HCB := hid hcb
  have HAB := hid hAb
  have HBB := hid hBb
  have HL := hid hl
  clear hca hcb hAb hBb hl
  go_enter Tryd.func45, Tryd.ntmps45
  go_wp2
  go_loopw [7, 8, 9, 12] (fun _ _ _ c wr => ∃ k : Nat, k ≤ A.length ∧ c = .int .i64 k ∧ (∀ j, j < k → Sx.digest (A.getD j []) = Sx.digest (B.getD j []) → A.getD j [] = B.getD j []) ∧ Below w.heap.size w wr)
    (fun _ _ _ c _ => A.length - (intOf c).toNat)
  case atStart => exact ⟨0, by omega, rfl, fun j hj => absurd hj (by omega), Below.refl _ _⟩
  case round =>
    obtain ⟨k, hk, rfl, hno, hB⟩ := hrel
    have HNO := hid hno
    have HB := hid hB
    clear hno hB
    by_cases hlt : k < A.length
    · obtain ⟨ba, oa, rfl, hba, hra⟩ := HCA.out k hlt
      obtain ⟨bb, ob, rfl, hbb, hrb⟩ := HCB.out k hlt
      have hma : A.getD k [] ∈ A := by simp [List.getD_eq_getElem?_getD, hlt]
      have hmb : B.getD k [] ∈ B := by rw [HL.out] at hlt; simp [List.getD_eq_getElem?_getD, hlt]
      have xb := HAB.out _ hma
      have yb := HBB.out _ hmb
      have HMA := hid hma
      have HMB := hid hmb
      have RA := hid (range_below hra HB.out hba)
      have RB0 := hid (range_below hrb HB.out hbb)
      clear hra hrb hma hmb
      generalize hx : A.getD k [] = x at *
      generalize hy : B.getD k [] = y at *
      have HX := hid hx
      have HY := hid hy
      clear hx hy
      have hbw : bb < wr.heap.size := Nat.lt_of_lt_of_le hbb HB.out.size
      have g1 : (k : Int) < A.length := by omega
      go_upto_region 4 with (first
        | (refine wpList_load_mid rfl _ _ rfl ba (oa + k * 33) rfl _ _ RA.out Tryd.underlying97 rfl (by rw [stepC_llen]; exact info78) ?_; rw [Array.toArray_toList])
        | (refine wpList_store_row rfl _ _ _ rfl wr.heap.size _ rfl rfl _ _ (heap_alloc_new _ _) (by rw [stepC_size]; exact info78) (by rw [stepC_size]; rfl) (stepC_one _) ?_))
      generalize hw3 : (wr.alloc _).setRow _ _ = w3
      have HX3 := hid (show w3.heap[wr.heap.size]? = some (.cells (stepC x) 97 (0, 0)) from by rw [← hw3]; exact setRow_heap _ _ _ _ _ _ (heap_alloc_new _ _))
      have HB3 := hid (show Below wr.heap.size wr w3 from by rw [← hw3]; exact below_setRow ((Below.refl _ _).alloc (Nat.le_refl _) _) (Nat.le_refl _) _)
      have RB := hid (range_below RB0.out HB3.out hbw)
      clear hw3 RB0 RA
      go_upto_region 5 with (first
        | (refine wpList_load_mid rfl _ _ rfl bb (ob + k * 33) rfl _ _ RB.out Tryd.underlying97 rfl (by rw [stepC_llen]; exact info78) ?_; rw [Array.toArray_toList])
        | (refine wpList_store_row rfl _ _ _ rfl w3.heap.size _ rfl rfl _ _ (heap_alloc_new _ _) (by rw [stepC_size]; exact info78) (by rw [stepC_size]; rfl) (stepC_one _) ?_))
      generalize hw4 : (w3.alloc _).setRow _ _ = w4
      have hb4 : Below w3.heap.size w3 w4 := by rw [← hw4]; exact below_setRow ((Below.refl _ _).alloc (Nat.le_refl _) _) (Nat.le_refl _) _
      have hx3 := (Array.getElem?_eq_some_iff.1 HX3.out).1
      have hX4 : w4.heap[wr.heap.size]? = some (.cells (stepC x) 97 (0, 0)) := by rw [hb4.block _ hx3]; exact HX3.out
      have hY4 : w4.heap[w3.heap.size]? = some (.cells (stepC y) 97 (0, 0)) := by rw [← hw4]; exact setRow_heap _ _ _ _ _ _ (heap_alloc_new _ _)
      have HB4 := hid (HB.out.trans ((HB3.out.trans (hb4.mono HB3.out.size)).mono HB.out.size))
      have cx := step_text hX4
      have cy := step_text hY4
      have RX := hid (step_sum hX4)
      have RY := hid (step_sum hY4)
      clear hw4 hb4 hx3 hX4 hY4 HX3 HB3 RB
      have hsz1 : (ints .u8 (Sx.digest x)).size = 32 := by rw [ints_size]; exact digest_length x
      have hsz2 : (ints .u8 (Sx.digest y)).size = 32 := by rw [ints_size]; exact digest_length y
      have hbq : ((str x).toList == (str y).toList) = (x == y) := str_beq x y xb yb
      have heq := fun wx => eql_sums wx (Sx.digest x) (Sx.digest y) (digest_lt x) (digest_lt y) (digest_length x) (digest_length y)
      by_cases hxy : x = y
      · rw [show (x == y) = true from by rw [hxy]; exact beq_self_eq_true _] at hbq
        clear heq
        generalize Sx.digest x = DX at *
        generalize Sx.digest y = DY at *
        generalize str x = SX at *
        generalize str y = SY at *
        have HE := hid hxy
        clear hxy xb yb
        go_wp2
        exact ⟨⟨k + 1, by omega, congrArg (Value.int .i64) (by omega), no_next HNO.out HX.out HY.out (fun _ => HE.out), HB4.out⟩, by simp only [intOf]; omega⟩
      · rw [show (x == y) = false from by simpa using hxy] at hbq
        have HE := hid hxy
        clear hxy xb yb
        by_cases hdd : Sx.digest x = Sx.digest y
        · rw [show (Sx.digest x == Sx.digest y) = true from by rw [hdd]; exact beq_self_eq_true _] at heq
          have HDD := hid hdd
          clear hdd
          generalize hDX : Sx.digest x = DX at *
          generalize hDY : Sx.digest y = DY at *
          have HDX := hid hDX
          have HDY := hid hDY
          clear hDX hDY
          generalize hSX : str x = SX at *
          generalize hSY : str y = SY at *
          have HSX := hid hSX
          have HSY := hid hSY
          clear hSX hSY
          go_upto_region 6 with (first
            | (refine wpList_load_mid_g rfl _ _ rfl wr.heap.size 1 rfl _ _ RX.out Tryd.underlying27 rfl (by rw [Array.length_toList, hsz1]; exact info27) ?_; rw [Array.toArray_toList])
            | (refine wpList_load_mid_g rfl _ _ rfl w3.heap.size 1 rfl _ _ RY.out Tryd.underlying27 rfl (by rw [Array.length_toList, hsz2]; exact info27) ?_; rw [Array.toArray_toList]))
          go_region
          go_wp2
          refine bodyPost_ret (results_tmp3 Tryd.results45 _ _ _) rfl ?_
          exact ⟨⟨x, y, true, by rw [HSX.out, HSY.out]; rfl, Or.inl ⟨rfl, HE.out, by rw [HDX.out, HDY.out]; exact HDD.out, HMA.out, HMB.out⟩⟩, HB4.out.drew⟩
        · rw [show (Sx.digest x == Sx.digest y) = false from by simpa using hdd] at heq
          have HDD := hid hdd
          clear hdd
          generalize hDX : Sx.digest x = DX at *
          generalize hDY : Sx.digest y = DY at *
          have HDX := hid hDX
          have HDY := hid hDY
          clear hDX hDY
          generalize str x = SX at *
          generalize str y = SY at *
          go_wp2_with (first
            | (refine wpList_load_mid_g rfl _ _ rfl wr.heap.size 1 rfl _ _ RX.out Tryd.underlying27 rfl (by rw [Array.length_toList, hsz1]; exact info27) ?_; rw [Array.toArray_toList])
            | (refine wpList_load_mid_g rfl _ _ rfl w3.heap.size 1 rfl _ _ RY.out Tryd.underlying27 rfl (by rw [Array.length_toList, hsz2]; exact info27) ?_; rw [Array.toArray_toList]))
          exact ⟨⟨k + 1, by omega, congrArg (Value.int .i64) (by omega), no_next HNO.out HX.out HY.out (fun h => absurd h (by rw [HDX.out, HDY.out]; exact HDD.out)), HB4.out⟩, by simp only [intOf]; omega⟩
    · obtain rfl : k = A.length := by omega
      have g1 : ¬ ((A.length : Int) < A.length) := by omega
      go_wp2
      refine bodyPost_ret (results_tmp3 Tryd.results45 _ _ _) rfl ?_
      exact ⟨⟨[], [], false, rfl, Or.inr ⟨rfl, rfl, rfl, HNO.out⟩⟩, HB.out⟩
end Go.Proofs.YtnhecallffkedabDoor
