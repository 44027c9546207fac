/-
  The reference of layer 4: what sealwaxref04.carry and plus return, as numbers.
-/
import Derived.Test.YtiolflofkoeffaaDoorPxV
import Derived.Test.YtiolflofkoeffaaDoorRef3c
namespace Go.Proofs.YtiolflofkoeffaaDoor
open Go.RowKit
open Go.Lib (hid)

/-- The slice v holds the numbers l. -/
def Rd (w : World) (v : Value) (l : List Nat) : Prop :=
  ∃ ao cap, v = .slice ao l.length cap ∧ ∀ i, i < l.length → ∃ b o, ao = some ⟨b, o, none⟩ ∧ b < w.heap.size ∧ w.cell? ⟨b, o + i, none⟩ = some (.int .i64 (l.getD i 0 : Nat))
theorem cell_below {w w' : World} {B b o : Nat} (hb : Below B w w') (h : b < B) : w'.cell? ⟨b, o, none⟩ = w.cell? ⟨b, o, none⟩ := by
  simp only [World.cell?, hb.block b h]
theorem Rd.below {w w' : World} {v : Value} {l : List Nat} (h : Rd w v l) (hb : Below w.heap.size w w') : Rd w' v l := by
  obtain ⟨ao, cap, rfl, hc⟩ := h
  refine ⟨ao, cap, rfl, fun i hi => ?_⟩
  obtain ⟨b, o, h1, h2, h3⟩ := hc i hi
  exact ⟨b, o, h1, Nat.lt_of_lt_of_le h2 hb.size, by rw [cell_below hb h2]; exact h3⟩
theorem OwnI.rd {w : World} {base : Nat} {v : Value} {l : List Nat} (h : OwnI w base v l) : Rd w v l := by
  by_cases hl : 0 < l.length
  · obtain ⟨g, cap, hv, _, hp⟩ := h.pre hl
    exact ⟨some ⟨g, 0, none⟩, cap, hv, fun i hi => ⟨g, 0, rfl, hp.lt, by rw [Nat.zero_add]; exact hp.cell i hi⟩⟩
  · obtain ⟨h1, ⟨hv, h0⟩ | ⟨g, cap, cur, hv, _⟩⟩ := h
    · exact ⟨none, 0, by rw [hv]; simp [show l.length = 0 by omega], fun i hi => absurd hi (by omega)⟩
    · exact ⟨_, cap, hv, fun i hi => absurd hi (by omega)⟩
theorem Row.rd {w : World} {b : Nat} {l : List Nat} (h : Row w b .i64 3 l) (cap : Nat) : Rd w (.slice (some ⟨b, 0, none⟩) l.length cap) l :=
  ⟨_, cap, rfl, fun i hi => ⟨b, 0, rfl, h.lt, by rw [Nat.zero_add]; exact h.cell i hi⟩⟩
theorem OwnI.empty (w : World) : OwnI (w.alloc (.cells #[] 3)) w.heap.size (.slice (some ⟨w.heap.size, 0, none⟩) 0 0) [] :=
  ⟨rfl, Or.inr ⟨w.heap.size, 0, _, rfl, Nat.le_refl _, heap_alloc_new _ _, Nat.zero_le _, by unfold maxLen; omega, rfl, rfl⟩⟩

namespace Pv
/-- What is carried behind i bytes, and the bytes. -/
def cN (l : List Nat) : Nat → Nat
  | 0 => 0
  | i + 1 => (cN l i + l.getD i 0) / 256
def cO (l : List Nat) : Nat → List Nat
  | 0 => []
  | i + 1 => cO l i ++ [(cN l i + l.getD i 0) % 256]
theorem cO_length (l : List Nat) (i : Nat) : (cO l i).length = i := by
  induction i with
  | zero => rfl
  | succ i ih => rw [cO, List.length_append, ih]; rfl
theorem cO_lt (l : List Nat) (i : Nat) : ∀ x ∈ cO l i, x < 256 := by
  induction i with
  | zero => intro x hx; simp [cO] at hx
  | succ i ih =>
    intro x hx
    rcases List.mem_append.1 hx with h | h
    · exact ih x h
    · simp at h; omega
theorem num_take_succ (l : List Nat) (i : Nat) : num (l.take (i + 1)) = num (l.take i) + 256 ^ i * l.getD i 0 := by
  by_cases h : i < l.length
  · rw [List.take_succ_eq_append_getElem h, num_append]
    simp [num, List.getD_eq_getElem?_getD, h]
    rw [Nat.min_eq_left (by omega)]
  · rw [List.take_of_length_le (by omega), List.take_of_length_le (by omega)]
    simp [List.getD_eq_getElem?_getD, h]
theorem cO_num (l : List Nat) (i : Nat) : num (cO l i) + 256 ^ i * cN l i = num (l.take i) := by
  induction i with
  | zero => simp [cO, cN, num]
  | succ i ih =>
    rw [cO, cN, num_append, cO_length, num_take_succ, ← ih, Nat.pow_succ]
    simp only [num, Nat.mul_zero, Nat.add_zero]
    generalize cN l i = c
    generalize l.getD i 0 = x
    generalize 256 ^ i = p
    have := Nat.div_add_mod (c + x) 256
    generalize (c + x) / 256 = q at *
    generalize (c + x) % 256 = r at *
    have e : p * c + p * x = p * (256 * q + r) := by rw [this, Nat.mul_add]
    rw [Nat.mul_add] at e
    have : p * (256 * q) = p * 256 * q := by rw [Nat.mul_assoc]
    omega
theorem cN_le (l : List Nat) (m : Nat) (h : ∀ x ∈ l, x ≤ m) (i : Nat) : cN l i ≤ m := by
  induction i with
  | zero => exact Nat.zero_le _
  | succ i ih =>
    have : l.getD i 0 ≤ m := by
      have := getD_lt (n := m + 1) (by omega) (fun x hx => by have := h x hx; omega) i (l := l)
      omega
    rw [cN]; omega
theorem cN_past (l : List Nat) (m : Nat) (h : ∀ x ∈ l, x ≤ m) (k : Nat) : cN l (l.length + k) ≤ m / 256 ^ k := by
  induction k with
  | zero => simpa using cN_le l m h l.length
  | succ k ih =>
    rw [← Nat.add_assoc, cN, show l.getD (l.length + k) 0 = 0 from by simp [List.getD_eq_getElem?_getD], Nat.add_zero, Nat.pow_succ, ← Nat.div_div_eq_div_mul]
    exact Nat.div_le_div_right ih
end Pv

theorem rem256 (c : Nat) (_h : c < 4611686018427387904) : IntKind.i64.wrap ((c : Int).tmod 256) = ((c % 256 : Nat) : Int) := by
  simp [IntKind.wrap, IntKind.bits, IntKind.signed, Int.tmod]; omega

set_option maxHeartbeats 2000000 in
theorem carry_any (v : Value) (l : List Nat) (hl : l.length ≤ 200) (hx : ∀ x ∈ l, x ≤ 1000000000) (w : World) (hr : Rd w v l) :
    Calls Tryd.prog 59 #[v] w fun e w' => ∃ v' l', e = .returned v' ∧ OwnI w' w.heap.size v' l' ∧ (∀ x ∈ l', x < 256) ∧ Pv.num l' = Pv.num l ∧ l.length ≤ l'.length ∧ l'.length ≤ l.length + 4 ∧ Below w.heap.size w w' := by
  obtain ⟨ao, cap, rfl, hc⟩ := hr
  have HC := hid hc
  have HP := hid (Pv.cN_past l 1000000000 hx)
  have HX := hid (Pv.cN_le l 1000000000 hx)
  have HG := hid (fun i => show l.getD i 0 ≤ 1000000000 from by
    have := getD_lt (n := 1000000001) (by omega) (fun x h => by have := hx x h; omega) i (l := l)
    omega)
  clear hc hx
  go_enter Tryd.func59, Tryd.ntmps59
  go_upto_region 4 with (fail)
  have HO0 := hid (OwnI.empty w)
  have HB0 := hid ((Below.refl w.heap.size w).alloc (Nat.le_refl _) (.cells #[] 3))
  generalize w.alloc _ = w0 at *
  go_loopw [3, 4, 5] (fun v c i wr => ∃ k : Nat, k ≤ l.length + 4 ∧ i = .int .i64 k ∧ c = .int .i64 (Pv.cN l k : Nat) ∧ OwnI wr w.heap.size v (Pv.cO l k) ∧ Below w.heap.size w wr)
    (fun _ _ i _ => l.length + 4 - (intOf i).toNat)
  case atStart => exact ⟨0, by omega, rfl, rfl, HO0.out, HB0.out⟩
  case round =>
    clear HO0 HB0
    obtain ⟨k, hk, rfl, rfl, hown, hbel⟩ := hrel
    have HOW := hid hown
    have HBL := hid hbel
    have hsz := hbel.size
    have hc1 := HX.out k
    have hg := HG.out k
    have HTL := hid (Pv.cO_length l k)
    have HTS := hid (show Pv.cO l k ++ [(Pv.cN l k + l.getD k 0) % 256] = Pv.cO l (k + 1) from rfl)
    have HTC := hid (show Pv.cN l (k + 1) = (Pv.cN l k + l.getD k 0) / 256 from rfl)
    clear hown hbel
    by_cases hlt : k < l.length
    · obtain ⟨b, o, rfl, hbw, hcell⟩ := HC.out k hlt
      rw [← cell_below HBL.out hbw] at hcell
      generalize l.getD k 0 = x at *
      generalize Pv.cN l k = c at *
      generalize Pv.cO l k = O at *
      have hq := rem256 (c + x) (by omega)
      go_wp2_with (refine wpList_appI rfl _ _ rfl w.heap.size _ O rfl (HOW.out.below ((Below.refl _ _).alloc (Nat.le_refl _) _)) _ 1 1 [(c + x) % 256] rfl rfl (cells_oneI _ ((c + x) % 256) _) (by rw [HTL.out]; omega) (by simp; omega) ?_; intro v' w' hown' hbel')
      rw [HTS.out] at hown'
      exact ⟨⟨k + 1, by omega, congrArg (Value.int .i64) (by omega), congrArg (Value.int .i64) (by rw [HTC.out]; omega), hown', (HBL.out.alloc hsz _).trans hbel'⟩, by simp [intOf]; omega⟩
    · have hz : l.getD k 0 = 0 := by rw [List.getD_eq_getElem?_getD, List.getElem?_eq_none (by omega)]; rfl
      have hnum := Pv.cO_num l k
      rw [List.take_of_length_le (by omega)] at hnum
      have hp := HP.out (k - l.length)
      rw [show l.length + (k - l.length) = k from by omega] at hp
      have hlast : k = l.length + 4 → Pv.cN l k = 0 := by
        intro h
        rw [show k - l.length = 4 from by omega] at hp
        simp only [Nat.reducePow, Nat.reduceDiv] at hp
        omega
      have HLT := hid (Pv.cO_lt l k)
      rw [hz, Nat.add_zero] at HTS HTC
      clear hg hz hp
      by_cases hc0 : 0 < Pv.cN l k
      · have hk4 : k < l.length + 4 := by
          by_cases h : k = l.length + 4
          · have := hlast h; omega
          · omega
        clear hlast hnum
        generalize Pv.cN l k = c at *
        generalize Pv.cO l k = O at *
        have hq := rem256 c (by omega)
        go_wp2_with (refine wpList_appI rfl _ _ rfl w.heap.size _ O rfl (HOW.out.below ((Below.refl _ _).alloc (Nat.le_refl _) _)) _ 1 1 [c % 256] rfl rfl (cells_oneI _ (c % 256) _) (by rw [HTL.out]; omega) (by simp; omega) ?_; intro v' w' hown' hbel')
        rw [HTS.out] at hown'
        exact ⟨⟨k + 1, by omega, congrArg (Value.int .i64) (by omega), congrArg (Value.int .i64) (by rw [HTC.out]; omega), hown', (HBL.out.alloc hsz _).trans hbel'⟩, by simp [intOf]; omega⟩
      · have hcz : Pv.cN l k = 0 := by omega
        rw [hcz, Nat.mul_zero, Nat.add_zero] at hnum
        rw [hcz]
        have HN := hid hnum
        clear hlast hnum hcz hc0 hc1
        go_wp2
        go_ret
        exact ⟨_, _, rfl, HOW.out, HLT.out, HN.out, by rw [HTL.out]; omega, by rw [HTL.out]; omega, HBL.out⟩
end Go.Proofs.YtiolflofkoeffaaDoor
