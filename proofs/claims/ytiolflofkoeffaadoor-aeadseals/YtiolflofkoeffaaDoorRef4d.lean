/-
  The reference of layer 4: what sealwaxref04.above, zero and bytes return.
-/
import Derived.Test.YtiolflofkoeffaaDoorRef4c
namespace Go.Proofs.YtiolflofkoeffaaDoor
open Go.RowKit
open Go.Lib (hid)

namespace Pv
/-- The lowest 130 bits, behind k bytes. -/
def aN (l : List Nat) : Nat → List Nat
  | 0 => List.replicate 17 0
  | k + 1 => if k < 16 then (aN l k).set k (l.getD k 0) else if k = 16 then (aN l k).set 16 (l.getD k 0 % 4) else aN l k
theorem aN_16 (l : List Nat) : aN l (16 + 1) = (aN l 16).set 16 (l.getD 16 0 % 4) := rfl
theorem aN_length (l : List Nat) (k : Nat) : (aN l k).length = 17 := by
  induction k with
  | zero => rfl
  | succ k ih =>
    rw [aN]
    split
    · rw [List.length_set, ih]
    · split
      · rw [List.length_set, ih]
      · exact ih
theorem aN_past (l : List Nat) (k i : Nat) (h : k ≤ i) : (aN l k).getD i 0 = 0 := by
  induction k with
  | zero => rw [aN, List.getD_eq_getElem?_getD, List.getElem?_replicate]; split <;> rfl
  | succ k ih =>
    have := ih (by omega)
    rw [List.getD_eq_getElem?_getD] at this ⊢
    rw [aN]
    split
    · rw [List.getElem?_set_ne (by omega)]; exact this
    · split
      · rw [List.getElem?_set_ne (by omega)]; exact this
      · exact this
theorem aN_lt (l : List Nat) (h : ∀ x ∈ l, x < 256) (k : Nat) : ∀ x ∈ aN l k, x < 256 := by
  induction k with
  | zero => intro x hx; rw [List.eq_of_mem_replicate hx]; decide
  | succ k ih =>
    have hg := getD_lt (by omega) h k
    intro x hx
    rw [aN] at hx
    split at hx
    · rcases List.mem_or_eq_of_mem_set hx with h' | rfl
      · exact ih x h'
      · exact hg
    · split at hx
      · rcases List.mem_or_eq_of_mem_set hx with h' | rfl
        · exact ih x h'
        · omega
      · exact ih x hx
theorem num_put (l : List Nat) (i x : Nat) (h : i < l.length) (h0 : l.getD i 0 = 0) : num (l.set i x) = num l + 256 ^ i * x := by
  have := num_set l i x h
  rwa [h0, Nat.zero_add] at this
theorem aN_num (l : List Nat) (k : Nat) : num (aN l k) = num ((l.take k).take 16) + 256 ^ 16 * (if k ≤ 16 then 0 else l.getD 16 0 % 4) := by
  induction k with
  | zero => simp [aN, num_zeros, num]
  | succ k ih =>
    rw [aN]
    split
    · rename_i h
      rw [num_put _ _ _ (by rw [aN_length]; omega) (aN_past l k k (Nat.le_refl _)), ih, if_pos (by omega), if_pos (by omega), List.take_take, List.take_take, Nat.min_eq_right (by omega), Nat.min_eq_right (by omega), num_take_succ, Nat.mul_zero, Nat.add_zero, Nat.add_zero]
    · split
      · rename_i h1 h2
        subst h2
        rw [num_put _ _ _ (by rw [aN_length]; omega) (aN_past l 16 16 (Nat.le_refl _)), ih, if_pos (by omega), if_neg (by omega)]
        rw [List.take_take, List.take_take]
        rfl
      · rename_i h1 h2
        rw [ih, if_neg (by omega), if_neg (by omega), List.take_take, List.take_take]
        congr 2
        congr 1
        omega
theorem num_split (l : List Nat) : num l = num (l.take 16) + 256 ^ 16 * num (l.drop 16) := by
  by_cases h : 16 ≤ l.length
  · have := num_append (l.take 16) (l.drop 16)
    rwa [List.take_append_drop, List.length_take, Nat.min_eq_left h] at this
  · rw [List.take_of_length_le (by omega), List.drop_of_length_le (by omega)]; simp [num]
theorem num_take_lt (l : List Nat) (h : ∀ x ∈ l, x < 256) : num (l.take 16) < 256 ^ 16 := by
  have h1 := num_lt (l.take 16) (fun x hx => h x (List.mem_of_mem_take hx))
  have h2 : 256 ^ (l.take 16).length ≤ 256 ^ 16 := Nat.pow_le_pow_right (by decide) (by simp; omega)
  omega
theorem num_mod4 (l : List Nat) : num l % 4 = l.getD 0 0 % 4 := by
  cases l with
  | nil => rfl
  | cons x l => rw [num, List.getD_cons_zero]; omega
theorem drop_getD (l : List Nat) (n i : Nat) : (l.drop n).getD i 0 = l.getD (n + i) 0 := by
  simp [List.getD_eq_getElem?_getD]
theorem aN_low (l : List Nat) (h : ∀ x ∈ l, x < 256) : num (aN l l.length) = num l % 1361129467683753853853498429727072845824 := by
  have h1 := num_split l
  have h2 := num_take_lt l h
  have h3 := num_mod4 (l.drop 16)
  rw [drop_getD, Nat.add_zero] at h3
  rw [aN_num, List.take_length, h1]
  simp only [Nat.reducePow] at *
  split
  · rw [List.drop_of_length_le (by omega)]
    simp only [num]
    omega
  · omega
/-- What is above 130 bits, j bytes of it. -/
def hN (l : List Nat) : Nat → List Nat
  | 0 => []
  | j + 1 => hN l j ++ [l.getD (16 + j) 0 / 4 + l.getD (17 + j) 0 % 4 * 64]
theorem hN_length (l : List Nat) (j : Nat) : (hN l j).length = j := by
  induction j with
  | zero => rfl
  | succ j ih => rw [hN, List.length_append, ih]; rfl
theorem hN_lt (l : List Nat) (h : ∀ x ∈ l, x < 256) (j : Nat) : ∀ x ∈ hN l j, x < 256 := by
  induction j with
  | zero => intro x hx; simp [hN] at hx
  | succ j ih =>
    have hg := getD_lt (by omega) h (16 + j)
    intro x hx
    rcases List.mem_append.1 hx with h' | h'
    · exact ih x h'
    · rw [List.mem_singleton] at h'
      omega
theorem hN_num (l : List Nat) (j : Nat) : 4 * num (hN l j) + l.getD 16 0 % 4 = num ((l.drop 16).take j) + 256 ^ j * (l.getD (16 + j) 0 % 4) := by
  induction j with
  | zero => simp [hN, num]
  | succ j ih =>
    rw [hN, num_append, hN_length, num_take_succ, drop_getD, Nat.pow_succ, show 16 + (j + 1) = 17 + j from by omega]
    simp only [num, Nat.mul_zero, Nat.add_zero]
    generalize l.getD (16 + j) 0 = x at *
    generalize l.getD (17 + j) 0 % 4 = y at *
    generalize 256 ^ j = p at *
    have e : p * x = p * (4 * (x / 4) + x % 4) := by rw [Nat.div_add_mod]
    generalize x / 4 = q at *
    generalize x % 4 = r at *
    have e1 : p * (q + y * 64) = p * q + p * y * 64 := by rw [Nat.mul_add, Nat.mul_assoc]
    have e2 : p * 256 * y = p * y * 256 := by rw [Nat.mul_right_comm]
    have e3 : p * (4 * q + r) = 4 * (p * q) + p * r := by rw [Nat.mul_add, Nat.mul_left_comm]
    omega
theorem hN_high (l : List Nat) (h : ∀ x ∈ l, x < 256) : num (hN l (l.length - 16)) = num l / 1361129467683753853853498429727072845824 := by
  have h1 := num_split l
  have h2 := num_take_lt l h
  have h3 := num_mod4 (l.drop 16)
  have h4 := hN_num l (l.length - 16)
  rw [drop_getD, Nat.add_zero] at h3
  rw [List.take_of_length_le (by simp)] at h4
  have h5 : l.getD (16 + (l.length - 16)) 0 = 0 := getD_past _ _ (by omega)
  rw [h5] at h4
  rw [h1]
  simp only [Nat.zero_mod, Nat.mul_zero, Nat.add_zero, Nat.reducePow] at *
  omega
end Pv

theorem quo4 (x : Nat) (h : x < 256) : IntKind.i64.wrap ((x : Int).tdiv 4) = ((x / 4 : Nat) : Int) := by
  simp [IntKind.wrap, IntKind.bits, IntKind.signed]; omega

set_option maxHeartbeats 2000000 in
set_option maxRecDepth 100000 in
theorem above_any (v : Value) (l : List Nat) (hl : l.length ≤ 200) (hx : ∀ x ∈ l, x < 256) (w : World) (hr : Rd w v l) :
    Calls Tryd.prog 57 #[v] w fun e w' => ∃ vh h vl o, e = .returned (.tuple #[vh, vl]) ∧ OwnI w' w.heap.size vh h ∧ OwnI w' w.heap.size vl o ∧ (∀ x ∈ h, x < 256) ∧ (∀ x ∈ o, x < 256) ∧ Pv.num h = Pv.num l / 1361129467683753853853498429727072845824 ∧ Pv.num o = Pv.num l % 1361129467683753853853498429727072845824 ∧ h.length = l.length - 16 ∧ o.length = 17 ∧ Below w.heap.size w w' := by
  obtain ⟨ao, cap, rfl, hc⟩ := hr
  have HC := hid hc
  have HG := hid (getD_lt (by omega) hx)
  have HX := hid hx
  clear hc hx
  go_enter Tryd.func57, Tryd.ntmps57
  have hmk := run_mkI w 17 (by omega)
  rw [show ((17 : Nat) : Int) = 17 from rfl] at hmk
  obtain ⟨Z, hZ⟩ : ∃ Z, Z = Pv.aN l 0 := ⟨_, rfl⟩
  rw [show List.replicate 17 0 = Z from hZ.symm] at hmk
  have HZ := hid hZ
  clear hZ
  go_upto_region 4 with (fail)
  clear hmk
  have HB0 := hid (((Below.refl w.heap.size w).alloc (Nat.le_refl _) (.cells (ints .i64 Z) 3)).alloc (by simp) (.cells #[] 3))
  have HR0 := hid (show Row ((w.alloc (.cells (ints .i64 Z) 3)).alloc (.cells #[] 3)) w.heap.size .i64 3 Z from heap_alloc2_old _ _ _)
  have HO0 := hid (show OwnI ((w.alloc (.cells (ints .i64 Z) 3)).alloc (.cells #[] 3)) (w.heap.size + 1) (.slice (some ⟨w.heap.size + 1, 0, none⟩) 0 0) [] from by
    have := OwnI.empty (w.alloc (.cells (ints .i64 Z) 3))
    rwa [show (w.alloc (.cells (ints .i64 Z) 3)).heap.size = w.heap.size + 1 from by simp] at this)
  generalize (w.alloc _).alloc _ = w0 at *
  go_loopw [6, 7, 14] (fun _ _ i wr => ∃ k : Nat, k ≤ l.length ∧ i = .int .i64 k ∧ Row wr w.heap.size .i64 3 (Pv.aN l k) ∧ OwnI wr (w.heap.size + 1) (.slice (some ⟨w.heap.size + 1, 0, none⟩) 0 0) [] ∧ Below w.heap.size w wr)
    (fun _ _ i _ => l.length - (intOf i).toNat)
  case atStart => exact ⟨0, by omega, rfl, by rw [← HZ.out]; exact HR0.out, HO0.out, HB0.out⟩
  case round =>
    clear HR0 HO0 HB0
    obtain ⟨k, hk, rfl, hrow, hown, hbel⟩ := hrel
    by_cases hlt : k < l.length
    · obtain ⟨b, o, rfl, hbw, hcell⟩ := HC.out k hlt
      rw [← cell_below hbel hbw] at hcell
      have hg := HG.out k
      have hal := Pv.aN_length l k
      have Hend := hid (show ∀ w', Row w' w.heap.size .i64 3 (Pv.aN l (k + 1)) → OwnI w' (w.heap.size + 1) (.slice (some ⟨w.heap.size + 1, 0, none⟩) 0 0) [] → Below w.heap.size w w' →
        (∃ k_1 : Nat, k_1 ≤ l.length ∧ Value.int .i64 ((k : Int) + 1) = .int .i64 k_1 ∧ Row w' w.heap.size .i64 3 (Pv.aN l k_1) ∧ OwnI w' (w.heap.size + 1) (.slice (some ⟨w.heap.size + 1, 0, none⟩) 0 0) [] ∧ Below w.heap.size w w') ∧ l.length - (intOf (Value.int .i64 ((k : Int) + 1))).toNat < l.length - (intOf (Value.int .i64 (k : Int))).toNat from
        fun w' h1 h2 h3 => ⟨⟨k + 1, by omega, congrArg (Value.int .i64) (by omega), h1, h2, h3⟩, by simp only [intOf]; omega⟩)
      have hown2 : ∀ i v, OwnI (wr.setCell ⟨w.heap.size, i, none⟩ v) (w.heap.size + 1) (.slice (some ⟨w.heap.size + 1, 0, none⟩) 0 0) [] := by
        intro i v
        obtain ⟨h1, h2 | ⟨g, cap, cur, hv, hg, hh, r⟩⟩ := hown
        · exact ⟨h1, Or.inl h2⟩
        · exact ⟨h1, Or.inr ⟨g, cap, cur, hv, hg, by rw [heap_setCell_other _ _ _ _ (by show g ≠ w.heap.size; omega)]; exact hh, r⟩⟩
      have HOW := hid hown
      have HOW2 := hid hown2
      have HBL := hid hbel
      have HROW := hid hrow
      by_cases h16 : k < 16
      · have hcl := hrow.cell k (by omega)
        have hfr := hrow.free k
        have HR2 := hid (show Row (wr.setCell ⟨w.heap.size, k, none⟩ (.int .i64 (l.getD k 0 : Nat))) w.heap.size .i64 3 (Pv.aN l (k + 1)) from by
          have := hrow.set k (l.getD k 0)
          rwa [show (Pv.aN l k).set k (l.getD k 0) = Pv.aN l (k + 1) from by rw [Pv.aN, if_pos h16]] at this)
        have HB2 := hid (hbel.setCell (p := ⟨w.heap.size, k, none⟩) (Nat.le_refl _) (.int .i64 (l.getD k 0 : Nat)))
        have g3 : ¬ (k : Int) = 16 := by omega
        clear hrow hown hown2 hbel
        generalize l.getD k 0 = x at *
        generalize (Pv.aN l k).getD k 0 = y at *
        go_wp2
        exact Hend.out _ HR2.out (HOW2.out _ _) HB2.out
      · by_cases h17 : k = 16
        · subst h17
          have hcl := hrow.cell 16 (by omega)
          have hfr := hrow.free 16
          have HR2 := hid (show Row (wr.setCell ⟨w.heap.size, 16, none⟩ (.int .i64 (l.getD 16 0 % 4 : Nat))) w.heap.size .i64 3 (Pv.aN l (16 + 1)) from by
            have := hrow.set 16 (l.getD 16 0 % 4)
            rwa [← Pv.aN_16 l] at this)
          have HB2 := hid (hbel.setCell (p := ⟨w.heap.size, 16, none⟩) (Nat.le_refl _) (.int .i64 (l.getD 16 0 % 4 : Nat)))
          clear hrow hown hown2 hbel
          generalize l.getD 16 0 = x at *
          generalize (Pv.aN l 16).getD 16 0 = y at *
          go_wp2
          exact Hend.out _ HR2.out (HOW2.out _ _) HB2.out
        · have HR2 := hid (show Row wr w.heap.size .i64 3 (Pv.aN l (k + 1)) from by
            rwa [Pv.aN, if_neg h16, if_neg h17])
          clear hrow hown hown2 hbel
          generalize l.getD k 0 = x at *
          have g3 : ¬ (k : Int) = 16 := by omega
          have g4 : ¬ (k : Int) < 16 := by omega
          go_wp2
          exact Hend.out _ HR2.out HOW.out HBL.out
    · obtain rfl : k = l.length := by omega
      have hal := Pv.aN_length l l.length
      have HROW := hid (Row.rd hrow 17)
      have HOL := hid (show OwnI wr w.heap.size (.slice (some ⟨w.heap.size, 0, none⟩) 17 17) (Pv.aN l l.length) from
        ⟨by rw [ints_llen]; omega, Or.inr ⟨w.heap.size, 17, _, by rw [hal], Nat.le_refl _, hrow, by omega, by unfold maxLen; omega, by rw [ints_size, hal], by rw [hal, Nat.mul_one, List.take_of_length_le (by rw [ints_llen]; omega)]⟩⟩)
      have HOW := hid hown
      have HBL := hid hbel
      have HLOW := hid (Pv.aN_low l HX.out)
      have HLT := hid (Pv.aN_lt l HX.out l.length)
      have HHI := hid (Pv.hN_high l HX.out)
      have HHL := hid (Pv.hN_lt l HX.out (l.length - 16))
      clear hrow hown hbel
      generalize Pv.aN l l.length = LO at *
      have hwr := HBL.out.size
      go_upto_region 12 with (fail)
      go_loopw [5, 8, 9] (fun v i _ wq => ∃ j : Nat, j ≤ l.length - 16 ∧ i = .int .i64 (16 + (j : Int)) ∧ OwnI wq (w.heap.size + 1) v (Pv.hN l j) ∧ OwnI wq w.heap.size (.slice (some ⟨w.heap.size, 0, none⟩) 17 17) LO ∧ Below w.heap.size w wq ∧ w.heap.size + 1 ≤ wq.heap.size)
        (fun _ i _ _ => l.length - (intOf i).toNat)
      case atStart => exact ⟨0, by omega, rfl, HOW.out, HOL.out, HBL.out, by
        obtain ⟨_, ⟨h, _⟩ | ⟨g, _, _, hv, _, hh, _⟩⟩ := HOW.out
        · exact absurd h (by simp)
        · have := (Array.getElem?_eq_some_iff.1 hh).1
          simp only [Value.slice.injEq, Option.some.injEq, Addr.mk.injEq] at hv
          omega⟩
      case round =>
        clear HOW HOL HBL
        obtain ⟨j, hj, rfl, hown, hol, hbel, hsz⟩ := hrel
        have HOW := hid hown
        have HOL := hid hol
        have HBL := hid hbel
        clear hown hol hbel
        by_cases hlj : 16 + j < l.length
        · have hg1 := HG.out (16 + j)
          have hg2 := HG.out (17 + j)
          have HTL := hid (Pv.hN_length l j)
          have HTS := hid (show Pv.hN l j ++ [l.getD (16 + j) 0 / 4 + l.getD (17 + j) 0 % 4 * 64] = Pv.hN l (j + 1) from rfl)
          have Hend := hid (show ∀ v' w' y, OwnI w' (w.heap.size + 1) v' (Pv.hN l j ++ [y]) → y = l.getD (16 + j) 0 / 4 + l.getD (17 + j) 0 % 4 * 64 → Below (w.heap.size + 1) (wr.alloc (.cells #[.int .i64 (y : Int)] 3)) w' →
            (∃ j_1 : Nat, j_1 ≤ l.length - 16 ∧ Value.int .i64 (16 + (j : Int) + 1) = .int .i64 (16 + (j_1 : Int)) ∧ OwnI w' (w.heap.size + 1) v' (Pv.hN l j_1) ∧ OwnI w' w.heap.size (.slice (some ⟨w.heap.size, 0, none⟩) 17 17) LO ∧ Below w.heap.size w w' ∧ w.heap.size + 1 ≤ w'.heap.size) ∧ l.length - (intOf (Value.int .i64 (16 + (j : Int) + 1))).toNat < l.length - (intOf (Value.int .i64 (16 + (j : Int)))).toNat from
            fun v' w' y h1 h2 h3 => ⟨⟨j + 1, by omega, congrArg (Value.int .i64) (by omega), by rw [← HTS.out, ← h2]; exact h1, by
              obtain ⟨o1, o2 | ⟨g, cap, cur, hv, hg, hh, r⟩⟩ := HOL.out
              · exact ⟨o1, Or.inl o2⟩
              · have hg' : g = w.heap.size := by simp only [Value.slice.injEq, Option.some.injEq, Addr.mk.injEq] at hv; omega
                exact ⟨o1, Or.inr ⟨g, cap, cur, hv, hg, by rw [h3.block g (by omega), Below.heap_alloc _ _ g (by omega)]; exact hh, r⟩⟩,
              (HBL.out.alloc HBL.out.size _).trans (h3.mono (by omega)), Nat.le_trans hsz (Nat.le_trans (by simp) h3.size)⟩, by simp only [intOf]; omega⟩)
          obtain ⟨b, o, rfl, hbw, hcell⟩ := HC.out (16 + j) hlj
          rw [← cell_below HBL.out hbw] at hcell
          generalize hO : Pv.hN l j = O at *
          clear hO
          by_cases hl2 : 17 + j < l.length
          · obtain ⟨b2, o2, he2, hbw2, hcell2⟩ := HC.out (17 + j) hl2
            simp only [Option.some.injEq, Addr.mk.injEq, and_true] at he2
            obtain ⟨rfl, rfl⟩ := he2
            rw [← cell_below HBL.out hbw] at hcell2
            generalize l.getD (16 + j) 0 = x at *
            generalize l.getD (17 + j) 0 = y at *
            rw [show o + (17 + j) = o + (16 + j + 1) from by omega] at hcell2
            have g1 : 16 + (j : Int) < l.length := by omega
            have g2 : 16 + (j : Int) + 1 < l.length := by omega
            go_wp2_with (refine wpList_appI rfl _ _ rfl (w.heap.size + 1) _ O rfl (HOW.out.below ((Below.refl _ _).alloc (Nat.le_refl _) _)) _ 1 1 [x / 4 + y % 4 * 64] rfl rfl (cells_oneI _ (x / 4 + y % 4 * 64) _) (by rw [HTL.out]; omega) (by simp; omega) ?_; intro v' w' hown' hbel')
            exact Hend.out v' w' _ hown' rfl hbel'
          · rw [getD_past l (17 + j) (by omega), Nat.zero_mod, Nat.zero_mul, Nat.add_zero] at *
            generalize l.getD (16 + j) 0 = x at *
            have g1 : 16 + (j : Int) < l.length := by omega
            have g2 : ¬ 16 + (j : Int) + 1 < l.length := by omega
            go_wp2_with (refine wpList_appI rfl _ _ rfl (w.heap.size + 1) _ O rfl (HOW.out.below ((Below.refl _ _).alloc (Nat.le_refl _) _)) _ 1 1 [x / 4] rfl rfl (cells_oneI _ (x / 4) _) (by rw [HTL.out]; omega) (by simp; omega) ?_; intro v' w' hown' hbel')
            exact Hend.out v' w' _ hown' rfl hbel'
        · obtain rfl : j = l.length - 16 := by omega
          have HTL := hid (Pv.hN_length l (l.length - 16))
          have g1 : ¬ 16 + ((l.length - 16 : Nat) : Int) < l.length := by omega
          generalize Pv.hN l (l.length - 16) = HI at *
          generalize hjj : l.length - 16 = jj at *
          have HJJ := hid hjj
          clear hjj
          go_wp2
          refine bodyPost_ret (results_tmp2 Tryd.results57 _ _ _) rfl ?_
          exact ⟨u5, HI, _, rfl, HOW.out.mono (by omega), LO, HOL.out, HHL.out, HLT.out, HHI.out, HLOW.out, by rw [HTL.out, HJJ.out], hal, HBL.out⟩
end Go.Proofs.YtiolflofkoeffaaDoor
