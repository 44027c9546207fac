/-
  The reference of layer 4: what sealwaxref04.zero, bytes and mod return.
-/
import Derived.Test.YtiolflofkoeffaaDoorRef4d
namespace Go.Proofs.YtiolflofkoeffaaDoor
open Go.RowKit
open Go.Lib (hid)

namespace Pv
theorem num_zero (l : List Nat) (h : ∀ i, i < l.length → l.getD i 0 = 0) : num l = 0 := by
  induction l with
  | nil => rfl
  | cons x l ih =>
    have h0 := h 0 (by simp)
    have h1 := ih (fun i hi => by have := h (i + 1) (by simp; omega); simpa using this)
    simp at h0
    rw [num, h1]; omega
theorem num_pos (l : List Nat) (i : Nat) (h : l.getD i 0 ≠ 0) : num l ≠ 0 := by
  induction l generalizing i with
  | nil => simp at h
  | cons x l ih =>
    cases i with
    | zero => simp at h; rw [num]; omega
    | succ i =>
      have := ih i (by simpa using h)
      rw [num]; omega
end Pv

set_option maxHeartbeats 1000000 in
theorem zero_any (v : Value) (l : List Nat) (hl : l.length ≤ 200) (w : World) (hr : Rd w v l) :
    Calls Tryd.prog 58 #[v] w fun e w' => e = .returned (.bool (decide (Pv.num l = 0))) ∧ w' = w := by
  obtain ⟨ao, cap, rfl, hc⟩ := hr
  have HC := hid hc
  clear hc
  go_enter Tryd.func58, Tryd.ntmps58
  go_upto_region 2 with (fail)
  go_loopw [4, 7] (fun _ i wr => wr = w ∧ ∃ k : Nat, k ≤ l.length ∧ i = .int .i64 k ∧ ∀ j, j < k → l.getD j 0 = 0)
    (fun _ i _ => l.length - (intOf i).toNat)
  case atStart => exact ⟨rfl, 0, by omega, rfl, fun j h => absurd h (by omega)⟩
  case round =>
    obtain ⟨rfl, k, hk, rfl, hz⟩ := hrel
    by_cases hlt : k < l.length
    · obtain ⟨b, o, rfl, hbw, hcell⟩ := HC.out k hlt
      have g1 : (k : Int) < l.length := by omega
      by_cases h0 : l.getD k 0 = 0
      · have HZ := hid (show ∀ j, j < k + 1 → l.getD j 0 = 0 from fun j hj => by
          by_cases h : j = k
          · rw [h]; exact h0
          · exact hz j (by omega))
        rw [h0] at hcell
        clear hz h0
        go_wp2
        exact ⟨⟨by trivial, k + 1, by omega, congrArg (Value.int .i64) (by omega), HZ.out⟩, by simp only [intOf]; omega⟩
      · have HN := hid (Pv.num_pos l k h0)
        have g2 : ¬ ((l.getD k 0 : Nat) : Int) = 0 := by omega
        clear hz h0
        generalize l.getD k 0 = x at *
        go_wp2
        go_ret
        exact ⟨by rw [decide_eq_false HN.out]; rfl, rfl⟩
    · obtain rfl : k = l.length := by omega
      have HN := hid (Pv.num_zero l hz)
      clear hz
      go_wp2
      go_ret
      exact ⟨by rw [decide_eq_true HN.out]; rfl, rfl⟩

set_option maxHeartbeats 1000000 in
theorem rbytes_any (s : List Nat) (hs : ∀ x ∈ s, x < 256) (hl : s.length ≤ 1000) (w : World) :
    Calls Tryd.prog 37 #[.string (str s)] w fun e w' => ∃ v, e = .returned v ∧ OwnI w' w.heap.size v s ∧ Below w.heap.size w w' := by
  have HI := hid (fun i hi wx => str_index s hs i hi wx)
  have hz : (str s).size = s.length := str_size s
  have HG := hid (getD_lt (by omega) hs)
  clear hs
  generalize str s = S at *
  go_enter Tryd.func37, Tryd.ntmps37
  go_upto_region 3 with (fail)
  have HO0 := hid (OwnI.empty w)
  have HB0 := hid ((Below.refl w.heap.size w).alloc (Nat.le_refl _) (.cells #[] 3))
  generalize w.alloc _ = w0 at *
  go_loopw [3, 4] (fun v i wr => ∃ k : Nat, k ≤ s.length ∧ i = .int .i64 k ∧ OwnI wr w.heap.size v (s.take k) ∧ Below w.heap.size w wr)
    (fun _ i _ => s.length - (intOf i).toNat)
  case atStart => exact ⟨0, by omega, rfl, HO0.out, HB0.out⟩
  case round =>
    clear HO0 HB0
    obtain ⟨k, hk, rfl, hown, hbel⟩ := hrel
    have HOW := hid hown
    have HBL := hid hbel
    have hsz := hbel.size
    clear hown hbel
    by_cases hlt : k < s.length
    · have hix := HI.out k hlt
      have hg := HG.out k
      have HTL := hid (show (s.take k).length = k from by simp; omega)
      have HTS := hid (take_getD_succ s k (by omega))
      have g1 : (k : Int) < s.length := by omega
      generalize s.getD k 0 = x at *
      go_wp2_with (refine wpList_appI rfl _ _ rfl w.heap.size _ (s.take k) rfl (HOW.out.below ((Below.refl _ _).alloc (Nat.le_refl _) _)) _ 1 1 [x] rfl rfl (cells_oneI _ x _) (by rw [HTL.out]; omega) (by simp; omega) ?_; intro v' w' hown' hbel')
      rw [HTS.out] at hown'
      exact ⟨⟨k + 1, by omega, congrArg (Value.int .i64) (by omega), hown', (HBL.out.alloc hsz _).trans hbel'⟩, by simp only [intOf]; omega⟩
    · obtain rfl : k = s.length := by omega
      rw [List.take_length] at HOW
      go_wp2
      go_ret
      exact ⟨_, rfl, HOW.out, HBL.out⟩
theorem rd_five (w : World) : Rd (w.alloc (.cells #[.int .i64 5] 3)) (.slice (some ⟨w.heap.size, 0, none⟩) 1 1) [5] :=
  Row.rd (l := [5]) (show Row (w.alloc (.cells #[.int .i64 5] 3)) w.heap.size .i64 3 [5] from heap_alloc_new _ _) 1
namespace Pv
def Q : Nat := 1361129467683753853853498429727072845824
theorem mod_step (v : Nat) : (v % Q + v / Q * 5) % P = v % P := by
  have h := Nat.div_add_mod v Q
  have : v = v % Q + v / Q * 5 + P * (v / Q) := by unfold P; unfold Q at *; omega
  conv => rhs; rw [this]
  rw [Nat.add_mul_mod_self_left]
theorem mod_less (v : Nat) (h : v / Q ≠ 0) : v % Q + v / Q * 5 < v := by
  have h' := Nat.div_add_mod v Q
  unfold Q at *
  omega
theorem mod_end (v : Nat) (h : v / Q = 0) : (if (v + 5) / Q = 0 then v % Q else (v + 5) % Q) = v % P := by
  have h1 : v < Q := by
    rcases Nat.div_eq_zero_iff.1 h with h | h
    · exact absurd h (by decide)
    · exact h
  split
  · rename_i h2
    have h3 : v + 5 < Q := by
      rcases Nat.div_eq_zero_iff.1 h2 with h | h
      · exact absurd h (by decide)
      · exact h
    rw [Nat.mod_eq_of_lt h1, Nat.mod_eq_of_lt]
    unfold P; unfold Q at *; omega
  · rename_i h2
    have h3 : Q ≤ v + 5 := by
      apply Nat.le_of_not_lt
      intro h
      exact h2 (Nat.div_eq_of_lt h)
    rw [Nat.mod_eq_sub_mod h3, Nat.mod_eq_of_lt (by unfold Q at *; omega), Nat.mod_eq_sub_mod (by unfold P; unfold Q at *; omega), Nat.mod_eq_of_lt (by unfold P; unfold Q at *; omega)]
    unfold P; unfold Q at *; omega
end Pv
/-- The numbers that the slice v holds. -/
def rdL (w : World) : Value → List Nat
  | .slice (some ad) n _ => (List.range n).map fun i => match w.cell? ⟨ad.block, ad.off + i, none⟩ with
    | some (.int _ z) => z.toNat
    | _ => 0
  | _ => []
theorem rdL_eq {w : World} {v : Value} {l : List Nat} (h : Rd w v l) : rdL w v = l := by
  obtain ⟨ao, cap, rfl, hc⟩ := h
  cases l with
  | nil => cases ao <;> rfl
  | cons x l =>
    obtain ⟨b, o, rfl, _, _⟩ := hc 0 (by simp)
    unfold rdL
    apply List.ext_getElem
    · simp
    · intro i h1 h2
      obtain ⟨b', o', he, _, h4⟩ := hc i h2
      simp only [Option.some.injEq, Addr.mk.injEq, and_true] at he
      obtain ⟨rfl, rfl⟩ := he
      simp only [List.getElem_map, List.getElem_range, h4]
      rw [Int.toNat_natCast, List.getD_eq_getElem?_getD, List.getElem?_eq_getElem h2]; rfl
def Mod (l0 : List Nat) (v : Value) (w : World) (l : List Nat) : Prop := Rd w v l ∧ (∀ x ∈ l, x < 256) ∧ l.length ≤ 60 ∧ Pv.num l % Pv.P = Pv.num l0 % Pv.P

set_option maxHeartbeats 2000000 in
set_option maxRecDepth 100000 in
theorem mod_any (v : Value) (l : List Nat) (hl : l.length ≤ 60) (hx : ∀ x ∈ l, x < 256) (w : World) (hr : Rd w v l) :
    Calls Tryd.prog 38 #[v] w fun e w' => ∃ v' o, e = .returned v' ∧ OwnI w' w.heap.size v' o ∧ (∀ x ∈ o, x < 256) ∧ Pv.num o = Pv.num l % Pv.P ∧ o.length = 17 ∧ Below w.heap.size w w' := by
  have HM0 := hid (show Mod l v w l from ⟨hr, hx, hl, rfl⟩)
  clear hr hx hl
  go_enter Tryd.func38, Tryd.ntmps38
  go_upto_region 1 with (fail)
  go_loopw [0, 3, 4] (fun u _ _ wr => (∃ l', Mod l u wr l') ∧ Below w.heap.size w wr)
    (fun u _ _ wr => Pv.num (rdL wr u))
  case atStart => exact ⟨⟨l, HM0.out⟩, Below.refl _ _⟩
  case round =>
    clear HM0
    obtain ⟨⟨l', hm⟩, hbel⟩ := hrel
    have HM := hid hm
    have HBL := hid hbel
    have hsz := hbel.size
    have HMS := hid (show Pv.num (rdL wr u0) = Pv.num l' from by rw [rdL_eq hm.1])
    clear hm hbel
    go_wp2_with fail
    refine (above_any _ l' (by have := HM.out.2.2.1; omega) HM.out.2.1 _ HM.out.1).mono ?_
    rintro e w1 ⟨vh, h, vl, o, rfl, oh, ol, bh, bo, nh, no, lh, lo, b1⟩
    have HRH := hid oh.rd
    have HRO := hid ol.rd
    have HBH := hid bh
    have HBO := hid bo
    have HNH := hid nh
    have HNO := hid no
    have HB1 := hid b1
    have hl60 := HM.out.2.2.1
    clear oh ol bh bo nh no b1
    go_wp2_with fail
    refine (zero_any _ h (by omega) _ HRH.out).mono ?_
    rintro e w2 ⟨rfl, hw2⟩
    subst hw2
    by_cases hz : Pv.num h = 0
    · rw [decide_eq_true hz]
      have HZ := hid (show Pv.num l' / Pv.Q = 0 from by have := hz; rw [HNH.out] at this; exact this)
      clear hz HNH HNO HRH HRO HBH HBO
      have HRL := hid (HM.out.1.below HB1.out)
      go_wp2_with fail
      refine (rplus_any _ _ l' [5] (by omega) (by simp) HM.out.2.1 (by simp) _ (HRL.out.below ((Below.refl _ _).alloc (Nat.le_refl _) _)) (rd_five _)).mono ?_
      rintro e w3 ⟨v3, l3, rfl, o3, b3, n3, p3, q3, k3⟩
      rw [show ([5] : List Nat).length = 1 from rfl] at p3 q3
      have HR3 := hid o3.rd
      have HB3 := hid b3
      have HK3 := hid (((Below.refl _ _).alloc (Nat.le_refl _) (.cells #[.int .i64 5] 3)).next (Nat.le_refl _) k3)
      have HN3 := hid (show Pv.num l3 = Pv.num l' + 5 from by rw [n3]; rfl)
      clear o3 b3 n3 k3
      go_wp2_with fail
      refine (above_any _ l3 (by omega) HB3.out _ HR3.out).mono ?_
      rintro e w4 ⟨v5, h5, v6, o6, rfl, oh, ol, bh, bo, nh, no, lh5, lo6, b4⟩
      have HRH := hid oh.rd
      have HOL := hid ol
      have HBO := hid bo
      have HNH := hid (show Pv.num h5 = (Pv.num l' + 5) / Pv.Q from by rw [nh, HN3.out]; rfl)
      have HNO := hid (show Pv.num o6 = (Pv.num l' + 5) % Pv.Q from by rw [no, HN3.out]; rfl)
      have HB4 := hid (((HBL.out.next (Nat.le_refl _) HB1.out).next (Nat.le_refl _) HK3.out).next (Nat.le_refl _) b4)
      have HK4 := hid (HK3.out.next (Nat.le_refl _) b4)
      have hsz3 : w.heap.size ≤ w3.heap.size := ((HBL.out.next (Nat.le_refl _) HB1.out).next (Nat.le_refl _) HK3.out).size
      clear oh ol bh bo nh no b4
      go_wp2_with fail
      refine (zero_any _ h5 (by omega) _ HRH.out).mono ?_
      rintro e w5 ⟨rfl, hw5⟩
      subst hw5
      have HE := hid (Pv.mod_end _ HZ.out)
      by_cases hz : Pv.num h5 = 0
      · rw [decide_eq_true hz]
        rw [HNH.out] at hz
        rw [if_pos hz] at HE
        clear hz HNH HNO HOL HBO HRH
        go_wp2_with fail
        refine (above_any _ l' (by omega) HM.out.2.1 _ (HRL.out.below HK4.out)).mono ?_
        rintro e w6 ⟨v7, h7, v8, o8, rfl, oh, ol, bh, bo, nh, no, lh7, lo8, b6⟩
        have HFIN := hid (show OwnI w6 w.heap.size v8 o8 ∧ (∀ x ∈ o8, x < 256) ∧ Pv.num o8 = Pv.num l % Pv.P ∧ o8.length = 17 ∧ Below w.heap.size w w6 from
          ⟨ol.mono HB4.out.size, bo, by rw [no, ← HM.out.2.2.2, ← HE.out]; rfl, lo8, HB4.out.next (Nat.le_refl _) b6⟩)
        clear oh ol bh bo nh no b6
        go_wp2_with fail
        go_ret
        exact ⟨v8, o8, rfl, HFIN.out⟩
      · rw [decide_eq_false hz]
        rw [HNH.out] at hz
        rw [if_neg hz] at HE
        have HFIN := hid (show OwnI w5 w.heap.size v6 o6 ∧ (∀ x ∈ o6, x < 256) ∧ Pv.num o6 = Pv.num l % Pv.P ∧ o6.length = 17 ∧ Below w.heap.size w w5 from
          ⟨HOL.out.mono hsz3, HBO.out, by rw [HNO.out, ← HM.out.2.2.2, ← HE.out], lo6, HB4.out⟩)
        clear hz HNH HNO HOL HBO HRH
        go_wp2_with fail
        go_ret
        exact ⟨v6, o6, rfl, HFIN.out⟩
    · rw [decide_eq_false hz]
      have HZ := hid hz
      clear hz
      go_wp2_with fail
      refine (rtimes_any _ _ h [5] (by omega) (by simp) HBH.out (by simp) _ (HRH.out.below ((Below.refl _ _).alloc (Nat.le_refl _) _)) (rd_five _)).mono ?_
      rintro e w3 ⟨v3, l3, rfl, o3, b3, n3, p3, q3, k3⟩
      have HR3 := hid o3.rd
      have HB3 := hid b3
      have HK3 := hid (((Below.refl _ _).alloc (Nat.le_refl _) (.cells #[.int .i64 5] 3)).next (Nat.le_refl _) k3)
      rw [show ([5] : List Nat).length = 1 from rfl] at p3 q3
      have HN3 := hid n3
      clear o3 b3 n3 k3
      go_wp2_with fail
      refine (rplus_any _ _ o l3 (by omega) (by omega) HBO.out HB3.out _ (HRO.out.below HK3.out) HR3.out).mono ?_
      rintro e w4 ⟨v4, l4, rfl, o4, b4, n4, p4, q4, k4⟩
      have HR4 := hid o4.rd
      have HMOD := hid (show Mod l v4 w4 l4 ∧ Pv.num l4 < Pv.num l' from by
        have e1 : Pv.num l4 = Pv.num l' % Pv.Q + Pv.num l' / Pv.Q * 5 := by
          rw [n4, HN3.out, HNO.out, HNH.out]; simp [Pv.num, Pv.Q]
        refine ⟨⟨o4.rd, b4, by omega, ?_⟩, ?_⟩
        · rw [e1, Pv.mod_step, HM.out.2.2.2]
        · rw [e1]; exact Pv.mod_less _ (by have := HZ.out; rw [HNH.out] at this; exact this))
      have HB4 := hid ((((HBL.out.next (Nat.le_refl _) HB1.out)).next (Nat.le_refl _) HK3.out).next (Nat.le_refl _) k4)
      clear o4 b4 n4 p4 q4 k4
      go_wp2_with fail
      exact ⟨⟨⟨l4, HMOD.out.1⟩, HB4.out⟩, by rw [HMS.out, rdL_eq HR4.out]; exact HMOD.out.2⟩
end Go.Proofs.YtiolflofkoeffaaDoor
