/-
  The reference of layer 4: what sealwaxref04.times returns, as a number.
-/
import Derived.Test.YtiolflofkoeffaaDoorRef4b
namespace Go.Proofs.YtiolflofkoeffaaDoor
open Go.RowKit
open Go.Lib (hid)

theorem getD_le {l : List Nat} {m : Nat} (h : ∀ x ∈ l, x ≤ m) (i : Nat) : l.getD i 0 ≤ m := by
  have := getD_lt (n := m + 1) (Nat.succ_pos m) (fun x hx => Nat.lt_succ_of_le (h x hx)) i
  omega
namespace Pv
theorem num_set (l : List Nat) (i x : Nat) (h : i < l.length) : num (l.set i (l.getD i 0 + x)) = num l + 256 ^ i * x := by
  induction l generalizing i with
  | nil => simp at h
  | cons y l ih =>
    cases i with
    | zero => simp only [List.set_cons_zero, List.getD_cons_zero, num, Nat.pow_zero]; omega
    | succ i =>
      simp only [List.set_cons_succ, List.getD_cons_succ, num]
      rw [ih i (by simpa using h), Nat.pow_succ, Nat.mul_add, Nat.mul_comm (256 ^ i) 256, Nat.mul_assoc]
      omega
/-- What the product holds behind i limbs of a, and k of b with the next. -/
structure Prod (a b : List Nat) (i k : Nat) (o : List Nat) : Prop where
  len : o.length = a.length + b.length
  num : num o = num (a.take i) * num b + 256 ^ i * a.getD i 0 * num (b.take k)
  le : ∀ x ∈ o, x ≤ (i * 100 + k) * 65025
theorem Prod.zero (a b : List Nat) : Prod a b 0 0 (List.replicate (a.length + b.length) 0) :=
  ⟨by simp, by rw [num_zeros]; simp [Pv.num], fun x hx => by rw [List.eq_of_mem_replicate hx]; exact Nat.zero_le _⟩
set_option maxRecDepth 100000 in
theorem Prod.step {a b o : List Nat} {i k : Nat} (h : Prod a b i k o) (hi : i < a.length) (hk : k < b.length) (ha : ∀ x ∈ a, x < 256) (hb : ∀ x ∈ b, x < 256) :
    Prod a b i (k + 1) (o.set (i + k) (o.getD (i + k) 0 + a.getD i 0 * b.getD k 0)) := by
  have hx := getD_lt (by omega) ha i
  have hy := getD_lt (by omega) hb k
  have hxy : a.getD i 0 * b.getD k 0 ≤ 255 * 255 := Nat.mul_le_mul (by omega) (by omega)
  refine ⟨by rw [List.length_set, h.len], ?_, ?_⟩
  · rw [num_set o (i + k) _ (by rw [h.len]; omega), h.num, num_take_succ, Nat.pow_add]
    generalize a.getD i 0 = x
    generalize b.getD k 0 = y
    generalize 256 ^ i = p
    generalize 256 ^ k = q
    rw [Nat.mul_add, ← Nat.add_assoc, show p * q * (x * y) = p * x * (q * y) from by simp only [Nat.mul_assoc, Nat.mul_left_comm]]
  · intro x hx
    rcases List.mem_or_eq_of_mem_set hx with h' | rfl
    · exact Nat.le_trans (h.le x h') (Nat.mul_le_mul_right _ (by omega))
    · rw [← Nat.add_assoc, Nat.add_mul (i * 100 + k) 1, Nat.one_mul]
      exact Nat.add_le_add (getD_le h.le (i + k)) hxy
set_option maxRecDepth 100000 in
theorem Prod.next {a b o : List Nat} {i k : Nat} (h : Prod a b i k o) (hk : k = b.length) (hb : b.length ≤ 100) : Prod a b (i + 1) 0 o := by
  subst hk
  refine ⟨h.len, ?_, fun x hx => Nat.le_trans (h.le x hx) (Nat.mul_le_mul_right _ (by omega))⟩
  rw [h.num, num_take_succ, List.take_length]
  simp [Pv.num, Nat.add_mul]
theorem Prod.done {a b o : List Nat} (h : Prod a b a.length 0 o) : Pv.num o = Pv.num a * Pv.num b := by
  rw [h.num, List.take_length]; simp [Pv.num]
end Pv

theorem makeI_zero (w : World) (n : Nat) : Row (w.alloc (.cells (ints .i64 (List.replicate n 0)) 3)) w.heap.size .i64 3 (List.replicate n 0) := heap_alloc_new _ _
theorem wrap_i64 (n : Nat) (h : n < 4611686018427387904) : IntKind.i64.wrap (n : Int) = n := by
  simp [IntKind.wrap, IntKind.bits, IntKind.signed]; omega

theorem run_mkI (w : World) (n : Nat) (hn : n ≤ 1000000) :
    (Instr.makeSlice 74 (.int .i64 (n : Int)) (.int .i64 (n : Int))).run Tryd.prog w = .ok (.slice (some ⟨w.heap.size, 0, none⟩) n n) (w.alloc (.cells (ints .i64 (List.replicate n 0)) 3)) := by
  obtain ⟨i, hi, hz0, hz1, hz2⟩ := info_parts info3
  have h := run_make (P := Tryd.prog) w 74 3 i (.int .i64 0) Tryd.underlying74 hi hz0 .i64 .i64 n n (by omega) (by omega) (by rw [hz2]; omega) (by omega)
  rw [h, hz1]
  have e : madeCells (Value.int .i64 0).cells (n * 1) = ints .i64 (List.replicate n 0) := by
    apply Array.ext
    · simp [madeCells, ints]
    · intro i h1 h2
      simp [madeCells, ints, Value.cells, Nat.mod_one]
  simp only [Int.toNat_natCast, e]

set_option maxHeartbeats 2000000 in
set_option maxRecDepth 100000 in
theorem rtimes_any (va vb : Value) (a b : List Nat) (hla : a.length ≤ 90) (hlb : b.length ≤ 90) (ha : ∀ x ∈ a, x < 256) (hb : ∀ x ∈ b, x < 256) (w : World) (ra : Rd w va a) (rb : Rd w vb b) :
    Calls Tryd.prog 39 #[va, vb] w fun e w' => ∃ v' l', e = .returned v' ∧ OwnI w' w.heap.size v' l' ∧ (∀ x ∈ l', x < 256) ∧ Pv.num l' = Pv.num a * Pv.num b ∧ a.length + b.length ≤ l'.length ∧ l'.length ≤ a.length + b.length + 4 ∧ Below w.heap.size w w' := by
  obtain ⟨aa, ca, rfl, hca⟩ := ra
  obtain ⟨ab, cb, rfl, hcb⟩ := rb
  have HCA := hid hca
  have HCB := hid hcb
  have HA := hid ha
  have HB := hid hb
  clear hca hcb ha hb
  go_enter Tryd.func39, Tryd.ntmps39
  have hmk := run_mkI w (a.length + b.length) (by omega)
  rw [show ((a.length + b.length : Nat) : Int) = (a.length : Int) + (b.length : Int) from by omega] at hmk
  go_upto_region 2 with (fail)
  clear hmk
  have HP0 := hid (Pv.Prod.zero a b)
  have HR0 := hid (makeI_zero w (a.length + b.length))
  have HB0 := hid ((Below.refl w.heap.size w).alloc (Nat.le_refl _) (.cells (ints .i64 (List.replicate (a.length + b.length) 0)) 3))
  generalize List.replicate (a.length + b.length) 0 = o0 at *
  generalize w.alloc _ = w0 at *
  go_upto_region 3 with (fail)
  go_loopw [6, 7, 16] (fun _ _ i wr => ∃ k : Nat, k ≤ a.length ∧ i = .int .i64 k ∧ (∃ o, Row wr w.heap.size .i64 3 o ∧ Pv.Prod a b k 0 o) ∧ Below w.heap.size w wr)
    (fun _ _ i _ => a.length - (intOf i).toNat)
  case atStart => exact ⟨0, by omega, rfl, ⟨o0, HR0.out, HP0.out⟩, HB0.out⟩
  case round =>
    clear HR0 HP0 HB0
    obtain ⟨i, hi, rfl, ⟨o1, hr1, hp1⟩, hb1⟩ := hrel
    by_cases hlt : i < a.length
    · have g1 : (i : Int) < a.length := by omega
      have HR1 := hid hr1
      have HP1 := hid hp1
      have HB1 := hid hb1
      clear hr1 hp1 hb1
      go_upto_region 6 with (fail)
      go_loopw [7, 21] (fun _ j wr => ∃ k : Nat, k ≤ b.length ∧ j = .int .i64 k ∧ (∃ o, Row wr w.heap.size .i64 3 o ∧ Pv.Prod a b i k o) ∧ Below w.heap.size w wr)
        (fun _ j _ => b.length - (intOf j).toNat)
      case atStart => exact ⟨0, by omega, rfl, ⟨o1, HR1.out, HP1.out⟩, HB1.out⟩
      case round =>
        clear HR1 HP1 HB1
        obtain ⟨k, hk, rfl, ⟨o, hr, hp⟩, hbel⟩ := hrel
        by_cases hlk : k < b.length
        · obtain ⟨ba, oa, rfl, hba, hcella⟩ := HCA.out i hlt
          obtain ⟨bb, ob, rfl, hbb, hcellb⟩ := HCB.out k hlk
          rw [← cell_below hbel hba] at hcella
          rw [← cell_below hbel hbb] at hcellb
          have hol := hp.len
          have hco := hr.cell (i + k) (by omega)
          have hfo := hr.free (i + k)
          have g2 : (k : Int) < b.length := by omega
          have hxo := getD_le hp.le (i + k)
          have hxa := getD_lt (by omega) HA.out i
          have hxb := getD_lt (by omega) HB.out k
          have hxy : a.getD i 0 * b.getD k 0 ≤ 65025 := by have := Nat.mul_le_mul (Nat.le_of_lt_succ hxa) (Nat.le_of_lt_succ hxb); simpa using this
          have HP2 := hid (hp.step hlt hlk HA.out HB.out)
          have HR2 := hid (fun m => Row.set (w := wr.drewN m) (show Row (wr.drewN m) w.heap.size .i64 3 o from hr) (i + k) (o.getD (i + k) 0 + a.getD i 0 * b.getD k 0))
          have HB2 := hid (fun m => (hbel.trans (show Below w.heap.size wr (wr.drewN m) from ⟨rfl, rfl, rfl, Nat.le_refl _, fun _ _ => rfl⟩)).setCell (p := ⟨w.heap.size, i + k, none⟩) (Nat.le_refl _) (.int .i64 (o.getD (i + k) 0 + a.getD i 0 * b.getD k 0 : Nat)))
          have hm1 := wrap_i64 (a.getD i 0 * b.getD k 0) (by omega)
          have hm2 := wrap_i64 (o.getD (i + k) 0 + a.getD i 0 * b.getD k 0) (by omega)
          clear hr hp hbel
          generalize o.getD (i + k) 0 = z at *
          generalize a.getD i 0 = x at *
          generalize b.getD k 0 = y at *
          go_upto_region 8 with (fail)
          refine wp_region_noPanic ?_
          refine wp_region_hd1 16 2 rfl (by kernel_rfl) (by kernel_rfl) (fun _ _ _ _ _ h => h) ?_
          simp only [List.take_succ_cons, List.take_zero, List.drop_succ_cons, List.drop_zero]
          repeat (go_big_quiet_step (fail))
          refine wpQuiet_nil ?_
          intro m
          go_wp2
          refine NoPanic.normal ?_
          go_wp2
          rw [show ((z : Int) + (x : Int) * (y : Int)) = ((z + x * y : Nat) : Int) from by simp]
          exact ⟨⟨k + 1, by omega, congrArg (Value.int .i64) (by omega), ⟨_, HR2.out m, HP2.out⟩, HB2.out m⟩, by simp only [intOf]; omega⟩
        · obtain rfl : k = b.length := by omega
          have HP2 := hid (hp.next rfl (by omega))
          have HR2 := hid hr
          have HB2 := hid hbel
          clear hp hr hbel
          go_wp2
          exact ⟨⟨i + 1, by omega, congrArg (Value.int .i64) (by omega), ⟨o, HR2.out, HP2.out⟩, HB2.out⟩, by simp only [intOf]; omega⟩
    · obtain rfl : i = a.length := by omega
      have hol := hp1.len
      have HN := hid hp1.done
      have hle := hp1.le
      have HLE := hid (show ∀ x ∈ o1, x ≤ 1000000000 from fun x hx => Nat.le_trans (hle x hx) (by omega))
      have HRD := hid (hr1.rd (a.length + b.length))
      rw [hol] at HRD
      have HBL := hid hb1
      have hsz := hb1.size
      clear hp1 hr1 hb1 hle
      go_wp2_with fail
      refine (carry_any _ o1 (by rw [hol]; omega) HLE.out _ HRD.out).mono ?_
      rintro e w1 ⟨v', l', rfl, ho, hlt, hn, hl1, hl2, hb1⟩
      rw [hol] at hl1 hl2
      rw [HN.out] at hn
      have HX := hid (show OwnI w1 w.heap.size v' l' ∧ (∀ x ∈ l', x < 256) ∧ Pv.num l' = Pv.num a * Pv.num b ∧ a.length + b.length ≤ l'.length ∧ l'.length ≤ a.length + b.length + 4 ∧ Below w.heap.size w w1 from
        ⟨ho.mono hsz, hlt, hn, hl1, hl2, HBL.out.next (Nat.le_refl _) hb1⟩)
      clear ho hlt hn hl1 hl2 hb1
      go_wp2_with fail
      go_ret
      exact ⟨v', l', rfl, HX.out⟩
end Go.Proofs.YtiolflofkoeffaaDoor
