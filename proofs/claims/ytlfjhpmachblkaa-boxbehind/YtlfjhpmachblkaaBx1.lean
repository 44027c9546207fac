/-
  Layer 18: an entry is found.
-/
import Derived.Test.YtlfjhpmachblkaaBx0
namespace Go.Proofs.Ytlfjhpmachblkaa
open Go.RowKit
open Go.Lib (hid)

set_option maxHeartbeats 1000000 in
set_option maxRecDepth 100000 in
theorem isNaN_any (a : Int) (w : World) :
    Calls Try.prog 53 #[.int .i64 a] w fun e w' => e = .returned (.bool false) ∧ w' = w := by
  go_enter Try.func53, Try.ntmps53
  go_wp2
  go_ret
  simp
/-- What the order says. -/
def Bv.cp (a b : Int) : Int := if a < b then -1 else if b < a then 1 else 0
theorem Bv.cp_neg {a b : Int} : Bv.cp a b < 0 ↔ a < b := by unfold Bv.cp; split <;> (try split) <;> omega
theorem Bv.cp_zero {a b : Int} : Bv.cp a b = 0 ↔ a = b := by unfold Bv.cp; split <;> (try split) <;> omega
set_option maxHeartbeats 1000000 in
set_option maxRecDepth 100000 in
theorem cmp_any (a b : Int) (w : World) :
    Calls Try.prog 51 #[.int .i64 a, .int .i64 b] w fun e w' => e = .returned (.int .i64 (Bv.cp a b)) ∧ w' = w := by
  have HN := hid (fun x wx => isNaN_any x wx)
  rcases Int.lt_trichotomy a b with h | h | h
  · rw [show Bv.cp a b = -1 from if_pos h]
    go_enter Try.func51, Try.ntmps51
    go_wp2_with (go_at_call 53; refine (HN.out _ _).mono ?_; rintro e wx ⟨rfl, rfl⟩)
    go_ret
    exact ⟨rfl, rfl⟩
  · subst h
    rw [show Bv.cp a a = 0 from Bv.cp_zero.2 rfl]
    go_enter Try.func51, Try.ntmps51
    go_wp2_with (go_at_call 53; refine (HN.out _ _).mono ?_; rintro e wx ⟨rfl, rfl⟩)
    go_ret
    exact ⟨rfl, rfl⟩
  · have h2 : ¬ a < b := by omega
    rw [show Bv.cp a b = 1 from by unfold Bv.cp; rw [if_neg h2, if_pos h]]
    go_enter Try.func51, Try.ntmps51
    go_wp2_with (go_at_call 53; refine (HN.out _ _).mono ?_; rintro e wx ⟨rfl, rfl⟩)
    go_ret
    exact ⟨rfl, rfl⟩
set_option maxHeartbeats 1000000 in
set_option maxRecDepth 100000 in
theorem find1_any (u f m n : Int) (w : World) :
    Calls Try.prog 50 #[.agg #[.int .i64 u, .int .i64 f, .int .i64 m], .int .i64 n] w fun e w' => e = .returned (.int .i64 (Bv.cp u n)) ∧ Below w.heap.size w w' := by
  have HC := hid (fun wx => cmp_any u n wx)
  go_enter Try.func50, Try.ntmps50
  go_wp2_with (go_at_call 51; refine (HC.out _).mono ?_; rintro e wx ⟨rfl, rfl⟩)
  go_ret
  exact ⟨rfl, (Below.refl _ _).alloc (Nat.le_refl _) _⟩

set_option maxHeartbeats 2000000 in
set_option maxRecDepth 100000 in
theorem bsearch_any (ao : Option Addr) (cap : Nat) (L : List Bv.E) (u : Int) (w : World) (hA : EsAt w ao L) (hup : Bv.Up L) (hl : L.length ≤ 1000000) :
    Calls Try.prog 49 #[.slice ao L.length cap, .int .i64 u, .func (.func 50) #[] #[]] w fun e w' =>
      e = .returned (.tuple #[.int .i64 (Bv.cnt L u : Nat), .bool (Bv.hit L u)]) ∧ Below w.heap.size w w' := by
  have HA := hid hA
  have HUP := hid hup
  have HF := hid (fun a b c wx => find1_any a b c u wx)
  obtain ⟨ct, hct⟩ : ∃ ct, Bv.cnt L u = ct := ⟨_, rfl⟩
  obtain ⟨ht, hht⟩ : ∃ ht, Bv.hit L u = ht := ⟨_, rfl⟩
  rw [hct, hht]
  have HCT := hid hct
  have HHT := hid (show (decide (ct < L.length) && decide ((L.getD ct (0, 0, 0)).1 = u)) = ht from by rw [← hct, ← hht]; rfl)
  clear hA hup hct hht
  go_enter Try.func49, Try.ntmps49
  go_wp2
  go_loopw [9, 10] (fun x y wr => ∃ lo hi : Nat, x = .int .i64 lo ∧ y = .int .i64 hi ∧ lo ≤ hi ∧ hi ≤ L.length ∧ (∀ t, t < lo → (L.getD t (0, 0, 0)).1 < u) ∧ (∀ t, hi ≤ t → t < L.length → u ≤ (L.getD t (0, 0, 0)).1) ∧ Below w.heap.size w wr)
    (fun x y _ => (intOf y - intOf x).toNat)
  case atStart => exact ⟨0, L.length, rfl, rfl, by omega, Nat.le_refl _, fun t ht => absurd ht (by omega), fun t h1 h2 => absurd h2 (by omega), Below.refl _ _⟩
  case round =>
    obtain ⟨lo, hi, rfl, rfl, hlh, hin, hlo, hhi, hb⟩ := hrel
    have HLO := hid hlo
    have HHI := hid hhi
    have HB := hid hb
    clear hlo hhi hb
    by_cases hlt : lo < hi
    · obtain ⟨m, hm⟩ : ∃ m, (lo + hi) / 2 = m := ⟨_, rfl⟩
      have hmi : ((lo : Int) + (hi : Int)) / 2 = (m : Int) := by omega
      have hml : m < L.length := by omega
      have hm1 : lo ≤ m ∧ m < hi := by omega
      obtain ⟨g, rfl, q0, q1, q2⟩ := (HA.out.below HB.out) m hml
      obtain ⟨⟨yu, yf, ym⟩, hy⟩ : ∃ y, L.getD m (0, 0, 0) = y := ⟨_, rfl⟩
      rw [hy] at q0 q1 q2
      dsimp only at q0 q1 q2
      have HY := hid hy
      clear hm hy
      go_wp2_with fail
      refine (HF.out yu yf ym wr).mono ?_
      rintro e w1 ⟨rfl, hb1⟩
      have HB1 := hid (HB.out.trans (hb1.mono HB.out.size))
      clear hb1
      by_cases hc : Bv.cp yu u < 0
      · obtain ⟨c, hcc⟩ : ∃ c, Bv.cp yu u = c := ⟨_, rfl⟩
        have HC := hid hcc
        rw [hcc] at hc ⊢
        clear hcc
        go_wp2
        refine ⟨⟨m + 1, hi, by go_num, rfl, by omega, by omega, fun t ht => ?_, HHI.out, HB1.out⟩, by simp [intOf]; omega⟩
        have h1 : yu < u := Bv.cp_neg.1 (by rw [HC.out]; exact hc)
        rcases Nat.lt_or_ge t m with h2 | h2
        · have := HUP.out t m h2 hml
          rw [HY.out] at this
          exact Int.lt_trans this h1
        · obtain rfl : t = m := by omega
          rw [HY.out]; exact h1
      · obtain ⟨c, hcc⟩ : ∃ c, Bv.cp yu u = c := ⟨_, rfl⟩
        have HC := hid hcc
        rw [hcc] at hc ⊢
        clear hcc
        go_wp2
        refine ⟨⟨lo, m, rfl, by go_num, by omega, by omega, HLO.out, fun t h1 h2 => ?_, HB1.out⟩, by simp [intOf]; omega⟩
        have h0 : u ≤ yu := by
          rcases Int.lt_or_le yu u with h | h
          · exact absurd (Bv.cp_neg.2 h) (by rw [HC.out]; omega)
          · exact h
        rcases Nat.lt_or_ge m t with h3 | h3
        · have := HUP.out m t h3 h2
          rw [HY.out] at this
          omega
        · obtain rfl : t = m := by omega
          rw [HY.out]; exact h0
    · obtain rfl : lo = hi := by omega
      have hcl : ct = lo := by
        rw [← HCT.out]
        exact Bv.count_is _ L lo hin (fun t ht => decide_eq_true (HLO.out t ht)) (fun t h1 h2 => decide_eq_false (by have := HHI.out t h1 h2; omega))
      subst hcl
      have HH := HHT.out
      by_cases hlo : ct < L.length
      · obtain ⟨g, rfl, q0, q1, q2⟩ := (HA.out.below HB.out) ct hlo
        obtain ⟨⟨yu, yf, ym⟩, hy⟩ : ∃ y, L.getD ct (0, 0, 0) = y := ⟨_, rfl⟩
        rw [hy] at q0 q1 q2 HH
        rw [decide_eq_true hlo, Bool.true_and] at HH
        dsimp only at q0 q1 q2 HH
        have HY := hid hy
        obtain ⟨c, hcc⟩ : ∃ c, Bv.cp yu u = c := ⟨_, rfl⟩
        have HQ := hid (show (c == 0) = ht from by rw [← HH, ← hcc, Bool.eq_iff_iff]; simp [Bv.cp_zero])
        have HFF := HF.out yu yf ym wr
        rw [hcc] at HFF
        have HFX := hid HFF
        clear hcc hy HH HFF
        go_wp2_with fail
        refine HFX.out.mono ?_
        rintro e w1 ⟨rfl, hb1⟩
        have HB1 := hid (HB.out.trans (hb1.mono HB.out.size))
        clear hb1
        go_wp2
        go_ret2
        exact ⟨by rw [← HQ.out]; rfl, HB1.out⟩
      · rw [decide_eq_false hlo, Bool.false_and] at HH
        have HQ := hid HH
        clear HH
        go_wp2
        go_ret2
        exact ⟨by rw [← HQ.out]; rfl, HB.out⟩

set_option maxHeartbeats 2000000 in
set_option maxRecDepth 100000 in
theorem find_any (b : Nat) (v : Value) (V X : Int) (L : List Bv.E) (u : Int) (w : World) (h : IsB w b v V X L) (hup : Bv.Up L) (hl : L.length ≤ 1000000) :
    Calls Try.prog 40 #[.pointer (some ⟨b, 0, none⟩), .int .i64 u] w fun e w' => e = .returned (.tuple #[.int .i64 (Bv.cnt L u : Nat), .bool (Bv.hit L u)]) ∧ Below w.heap.size w w' := by
  obtain ⟨ao, cap, hv, hes⟩ := h.own.es
  subst hv
  have HB := hid (bsearch_any ao cap L u w hes hup hl)
  have c2 := h.c2
  clear hes h hup
  generalize Bv.cnt L u = ct at *
  generalize Bv.hit L u = ht at *
  go_enter Try.func40, Try.ntmps40
  go_wp2_with fail
  refine HB.out.mono ?_
  rintro e w1 ⟨rfl, hb1⟩
  have HB1 := hid hb1
  clear hb1
  go_wp2
  go_ret2
  exact ⟨rfl, HB1.out⟩
end Go.Proofs.Ytlfjhpmachblkaa
