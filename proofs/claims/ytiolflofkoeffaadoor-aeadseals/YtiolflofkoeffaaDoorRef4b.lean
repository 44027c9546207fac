/-
  The reference of layer 4: what sealwaxref04.plus and times return, as numbers.
-/
import Derived.Test.YtiolflofkoeffaaDoorRef4a
namespace Go.Proofs.YtiolflofkoeffaaDoor
open Go.RowKit
open Go.Lib (hid)

namespace Pv
/-- The first i sums. -/
def pN (a b : List Nat) : Nat → List Nat
  | 0 => []
  | i + 1 => pN a b i ++ [a.getD i 0 + b.getD i 0]
theorem pN_length (a b : List Nat) (i : Nat) : (pN a b i).length = i := by
  induction i with
  | zero => rfl
  | succ i ih => rw [pN, List.length_append, ih]; rfl
theorem pN_num (a b : List Nat) (i : Nat) : num (pN a b i) = num (a.take i) + num (b.take i) := by
  induction i with
  | zero => rfl
  | succ i ih =>
    rw [pN, num_append, pN_length, ih, num_take_succ, num_take_succ]
    simp only [num, Nat.mul_zero, Nat.add_zero, Nat.mul_add]
    omega
theorem pN_le (a b : List Nat) (ha : ∀ x ∈ a, x < 256) (hb : ∀ x ∈ b, x < 256) (i : Nat) : ∀ x ∈ pN a b i, x ≤ 1000000000 := by
  induction i with
  | zero => intro x hx; simp [pN] at hx
  | succ i ih =>
    intro x hx
    rcases List.mem_append.1 hx with h | h
    · exact ih x h
    · have h1 := getD_lt (by omega) ha i
      have h2 := getD_lt (by omega) hb i
      simp at h
      simp only [List.getD_eq_getElem?_getD] at h1 h2
      omega
end Pv
theorem OwnI.mono {w : World} {base base' : Nat} {v : Value} {l : List Nat} (h : OwnI w base v l) (hb : base' ≤ base) : OwnI w base' v l := by
  obtain ⟨h1, h2⟩ := h
  refine ⟨h1, ?_⟩
  rcases h2 with h2 | ⟨g, cap, cur, hv, hg, hh, r⟩
  · exact Or.inl h2
  · exact Or.inr ⟨g, cap, cur, hv, Nat.le_trans hb hg, hh, r⟩
theorem getD_past (l : List Nat) (i : Nat) (h : l.length ≤ i) : l.getD i 0 = 0 := by rw [List.getD_eq_getElem?_getD, List.getElem?_eq_none h]; rfl

set_option maxHeartbeats 2000000 in
theorem rplus_any (va vb : Value) (a b : List Nat) (hla : a.length ≤ 100) (hlb : b.length ≤ 100) (ha : ∀ x ∈ a, x < 256) (hb : ∀ x ∈ b, x < 256) (w : World) (ra : Rd w va a) (rb : Rd w vb b) :
    Calls Tryd.prog 40 #[va, vb] w fun e w' => ∃ v' l', e = .returned v' ∧ OwnI w' w.heap.size v' l' ∧ (∀ x ∈ l', x < 256) ∧ Pv.num l' = Pv.num a + Pv.num b ∧ max a.length b.length ≤ l'.length ∧ l'.length ≤ max a.length b.length + 4 ∧ Below w.heap.size w w' := by
  obtain ⟨aa, ca, rfl, hca⟩ := ra
  obtain ⟨ab, cb, rfl, hcb⟩ := rb
  have HCA := hid hca
  have HCB := hid hcb
  have HGA := hid (getD_lt (by omega) ha)
  have HGB := hid (getD_lt (by omega) hb)
  have HPL := hid (Pv.pN_le a b ha hb)
  clear hca hcb ha hb
  go_enter Tryd.func40, Tryd.ntmps40
  go_upto_region 3 with (fail)
  have HO0 := hid (OwnI.empty w)
  have HB0 := hid ((Below.refl w.heap.size w).alloc (Nat.le_refl _) (.cells #[] 3))
  generalize w.alloc _ = w0 at *
  go_loopw [5, 6, 7] (fun v i _ wr => ∃ k : Nat, k ≤ max a.length b.length ∧ i = .int .i64 k ∧ OwnI wr w.heap.size v (Pv.pN a b k) ∧ Below w.heap.size w wr)
    (fun _ i _ _ => max a.length b.length - (intOf i).toNat)
  case atStart => exact ⟨0, by omega, rfl, HO0.out, HB0.out⟩
  case round =>
    clear HO0 HB0
    obtain ⟨k, hk, rfl, hown, hbel⟩ := hrel
    have HOW := hid hown
    have HBL := hid hbel
    have hsz := hbel.size
    have hga := HGA.out k
    have hgb := HGB.out k
    have HTL := hid (Pv.pN_length a b k)
    have HTS := hid (show Pv.pN a b k ++ [a.getD k 0 + b.getD k 0] = Pv.pN a b (k + 1) from rfl)
    have HN := hid (Pv.pN_num a b k)
    have HPK := hid (HPL.out k)
    clear hown hbel
    have Hend := hid (show ∀ v' w' x, OwnI w' w.heap.size v' (Pv.pN a b k ++ [x]) → x = a.getD k 0 + b.getD k 0 → k < max a.length b.length → Below w.heap.size w w' →
      (∃ k_1, k_1 ≤ max a.length b.length ∧ Value.int .i64 ((k : Int) + 1) = .int .i64 k_1 ∧ OwnI w' w.heap.size v' (Pv.pN a b k_1) ∧ Below w.heap.size w w') ∧ max a.length b.length - (intOf (Value.int .i64 ((k : Int) + 1))).toNat < max a.length b.length - (intOf (Value.int .i64 (k : Int))).toNat from
      fun v' w' x h1 h2 h3 h4 => ⟨⟨k + 1, by omega, congrArg (Value.int .i64) (by omega), by rw [← HTS.out, ← h2]; exact h1, h4⟩, by simp only [intOf]; omega⟩)
    by_cases h1 : k < a.length
    · obtain ⟨ba, oa, rfl, hba, hcella⟩ := HCA.out k h1
      rw [← cell_below HBL.out hba] at hcella
      by_cases h2 : k < b.length
      · obtain ⟨bb, ob, rfl, hbb, hcellb⟩ := HCB.out k h2
        rw [← cell_below HBL.out hbb] at hcellb
        generalize a.getD k 0 = x at *
        generalize b.getD k 0 = y at *
        generalize hO : Pv.pN a b k = O at *
        clear hO
        go_wp2_with (refine wpList_appI rfl _ _ rfl w.heap.size _ O rfl (HOW.out.below ((Below.refl _ _).alloc (Nat.le_refl _) _)) _ 1 1 [x + y] rfl rfl (cells_oneI _ (x + y) _) (by rw [HTL.out]; omega) (by simp; omega) ?_; intro v' w' hown' hbel')
        exact Hend.out v' w' _ hown' rfl (by omega) ((HBL.out.alloc hsz _).trans hbel')
      · have hz := getD_past b k (by omega)
        rw [hz] at HTS Hend
        clear hgb hz
        generalize a.getD k 0 = x at *
        generalize hO : Pv.pN a b k = O at *
        clear hO
        go_wp2_with (refine wpList_appI rfl _ _ rfl w.heap.size _ O rfl (HOW.out.below ((Below.refl _ _).alloc (Nat.le_refl _) _)) _ 1 1 [x] rfl rfl (cells_oneI _ x _) (by rw [HTL.out]; omega) (by simp; omega) ?_; intro v' w' hown' hbel')
        exact Hend.out v' w' _ hown' rfl (by omega) ((HBL.out.alloc hsz _).trans hbel')
    · have hz := getD_past a k (by omega)
      rw [hz] at HTS Hend
      clear hga hz
      by_cases h2 : k < b.length
      · obtain ⟨bb, ob, rfl, hbb, hcellb⟩ := HCB.out k h2
        rw [← cell_below HBL.out hbb] at hcellb
        generalize b.getD k 0 = y at *
        generalize hO : Pv.pN a b k = O at *
        clear hO
        go_wp2_with (refine wpList_appI rfl _ _ rfl w.heap.size _ O rfl (HOW.out.below ((Below.refl _ _).alloc (Nat.le_refl _) _)) _ 1 1 [y] rfl rfl (cells_oneI _ y _) (by rw [HTL.out]; omega) (by simp; omega) ?_; intro v' w' hown' hbel')
        exact Hend.out v' w' _ hown' (by omega) (by omega) ((HBL.out.alloc hsz _).trans hbel')
      · obtain rfl : k = max a.length b.length := by omega
        clear Hend HTS hgb
        rw [List.take_of_length_le (by omega), List.take_of_length_le (by omega)] at HN
        go_wp2_with fail
        refine (carry_any _ _ (by rw [HTL.out]; omega) HPK.out _ HOW.out.rd).mono ?_
        rintro e w1 ⟨v', l', rfl, ho, hlt, hn, hl1, hl2, hb1⟩
        rw [HTL.out] at hl1 hl2
        rw [HN.out] at hn
        have HX := hid (show OwnI w1 w.heap.size v' l' ∧ (∀ x ∈ l', x < 256) ∧ Pv.num l' = Pv.num a + Pv.num b ∧ max a.length b.length ≤ l'.length ∧ l'.length ≤ max a.length b.length + 4 ∧ Below w.heap.size w w1 from
          ⟨ho.mono hsz, hlt, hn, hl1, hl2, HBL.out.next (Nat.le_refl _) hb1⟩)
        clear ho hlt hn hl1 hl2 hb1
        go_wp2_with fail
        go_ret
        exact ⟨v', l', rfl, HX.out⟩
end Go.Proofs.YtiolflofkoeffaaDoor
