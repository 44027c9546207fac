/-
  Layer 17: what a name's bytes are, and the document's Check.
-/
import Derived.Test.YthmhbefbjbkabaaBase
import Derived.Test.YthmhbefbjbkabaaRf
import Derived.Test.YthmhbefbjbkabaaRl
namespace Go.Proofs.Ythmhbefbjbkabaa
open Go.ChangeShapes Go.WideShapes Go.ChangeAt Go.RowKit Go.Shelf
open Go.Lib (hid)

attribute [local go_sem] Oper.semAt_some

namespace Nx
/-- Can a name have this byte? -/
def part (b : Nat) : Bool := decide (97 ≤ b ∧ b ≤ 122 ∨ 65 ≤ b ∧ b ≤ 90 ∨ 48 ≤ b ∧ b ≤ 57 ∨ b = 46 ∨ b = 95 ∨ b = 45 ∨ b = 47)
/-- Is it as it should be at this place? -/
def okAt (T : List Nat) (i : Nat) : Bool := part (T.getD i 0) && !(T.getD i 0 == 47 && T.getD (i - 1) 0 == 47)
/-- Is it a name? -/
def chk (T : List Nat) : Bool :=
  decide (1 ≤ T.length ∧ T.length ≤ 32 ∧ T.getD 0 0 ≠ 47 ∧ T.getD (T.length - 1) 0 ≠ 47) && (List.range T.length).all (okAt T)
/-- The ranges of bytes. -/
theorem ranges (b : Nat) : b < 45 ∨ b = 45 ∨ b = 46 ∨ b = 47 ∨ (48 ≤ b ∧ b ≤ 57) ∨ (58 ≤ b ∧ b ≤ 64) ∨ (65 ≤ b ∧ b ≤ 90) ∨ (91 ≤ b ∧ b ≤ 94) ∨ b = 95 ∨ b = 96 ∨ (97 ≤ b ∧ b ≤ 122) ∨ 123 ≤ b := by omega
end Nx
set_option maxRecDepth 100000 in
set_option maxHeartbeats 2000000 in
theorem isPart_any (b : Nat) (hb : b < 256) (w : World) : Calls Try.prog 28 #[.int .u8 (b : Int)] w fun e w' => e = .returned (.bool (Nx.part b)) ∧ w' = w := by
  rcases Nx.ranges b with h | h | h | h | h | h | h | h | h | h | h | h
  all_goals
    go_enter Try.func28, Try.ntmps28
    (first | have f1 : (97 : Int) ≤ (b : Int) := by omega | have f1 : ¬ (97 : Int) ≤ (b : Int) := by omega)
    (first | have f2 : (b : Int) ≤ (122 : Int) := by omega | have f2 : ¬ (b : Int) ≤ (122 : Int) := by omega)
    (first | have f3 : (65 : Int) ≤ (b : Int) := by omega | have f3 : ¬ (65 : Int) ≤ (b : Int) := by omega)
    (first | have f4 : (b : Int) ≤ (90 : Int) := by omega | have f4 : ¬ (b : Int) ≤ (90 : Int) := by omega)
    (first | have f5 : (48 : Int) ≤ (b : Int) := by omega | have f5 : ¬ (48 : Int) ≤ (b : Int) := by omega)
    (first | have f6 : (b : Int) ≤ (57 : Int) := by omega | have f6 : ¬ (b : Int) ≤ (57 : Int) := by omega)
    (first | have f7 : ((b : Int) == (46 : Int)) = true := by rw [beq_iff_eq]; omega | have f7 : ((b : Int) == (46 : Int)) = false := by rw [beq_eq_false_iff_ne]; omega)
    (first | have f8 : ((b : Int) == (95 : Int)) = true := by rw [beq_iff_eq]; omega | have f8 : ((b : Int) == (95 : Int)) = false := by rw [beq_eq_false_iff_ne]; omega)
    (first | have f9 : ((b : Int) == (45 : Int)) = true := by rw [beq_iff_eq]; omega | have f9 : ((b : Int) == (45 : Int)) = false := by rw [beq_eq_false_iff_ne]; omega)
    (first | have f10 : ((b : Int) == (47 : Int)) = true := by rw [beq_iff_eq]; omega | have f10 : ((b : Int) == (47 : Int)) = false := by rw [beq_eq_false_iff_ne]; omega)
    (first | have g7 : (b : Int) = (46 : Int) := by omega | have g7 : ¬ (b : Int) = (46 : Int) := by omega)
    (first | have g8 : (b : Int) = (95 : Int) := by omega | have g8 : ¬ (b : Int) = (95 : Int) := by omega)
    (first | have g9 : (b : Int) = (45 : Int) := by omega | have g9 : ¬ (b : Int) = (45 : Int) := by omega)
    (first | have g10 : (b : Int) = (47 : Int) := by omega | have g10 : ¬ (b : Int) = (47 : Int) := by omega)
    have HF := hid (show Nx.part b = true ∨ Nx.part b = false from by cases Nx.part b <;> simp)
    (first
      | (have HT := hid (show Nx.part b = true from by unfold Nx.part; rw [decide_eq_true_eq]; omega))
      | (have HT := hid (show Nx.part b = false from by unfold Nx.part; rw [decide_eq_false_iff_not]; omega)))
    clear HF h hb
    go_wp2
    exact bodyPost_ret (results_tmp rfl _ _ _) rfl ⟨by rw [HT.out]; rfl, rfl⟩
theorem getD_ltn {T : List Nat} (hT : ∀ x ∈ T, x < 256) (k : Nat) (hk : k < T.length) : T.getD k 0 < 256 := hT _ (by rw [List.getD_eq_getElem?_getD, List.getElem?_eq_getElem hk]; exact List.getElem_mem hk)
theorem chk_false {T : List Nat} (h : ¬ (1 ≤ T.length ∧ T.length ≤ 32 ∧ T.getD 0 0 ≠ 47 ∧ T.getD (T.length - 1) 0 ≠ 47)) : Nx.chk T = false := by
  unfold Nx.chk; rw [decide_eq_false h, Bool.false_and]
theorem chk_false_at {T : List Nat} (i : Nat) (hi : i < T.length) (h : Nx.okAt T i = false) : Nx.chk T = false := by
  unfold Nx.chk
  rw [Bool.and_eq_false_iff]
  right
  rw [List.all_eq_false]
  exact ⟨i, List.mem_range.2 hi, by rw [h]; simp⟩
theorem chk_true {T : List Nat} (h : 1 ≤ T.length ∧ T.length ≤ 32 ∧ T.getD 0 0 ≠ 47 ∧ T.getD (T.length - 1) 0 ≠ 47) (hall : ∀ j, j < T.length → Nx.okAt T j = true) : Nx.chk T = true := by
  unfold Nx.chk
  rw [decide_eq_true h, Bool.true_and, List.all_eq_true]
  intro j hj
  exact hall j (List.mem_range.1 hj)
theorem chk_iff {T : List Nat} : Nx.chk T = true ↔ (1 ≤ T.length ∧ T.length ≤ 32 ∧ T.getD 0 0 ≠ 47 ∧ T.getD (T.length - 1) 0 ≠ 47) ∧ ∀ j, j < T.length → Nx.okAt T j = true := by
  constructor
  · intro h
    unfold Nx.chk at h
    rw [Bool.and_eq_true, decide_eq_true_eq, List.all_eq_true] at h
    exact ⟨h.1, fun j hj => h.2 j (List.mem_range.2 hj)⟩
  · rintro ⟨h, k⟩
    exact chk_true h k
set_option maxRecDepth 100000 in
set_option maxHeartbeats 4000000 in
theorem rcheck_any (T : List Nat) (hT : ∀ x ∈ T, x < 256) (hTl : T.length ≤ 1000000) (w : World) :
    Calls Try.prog 12 #[.string (str T)] w fun e w' => e = .returned (.bool (Nx.chk T)) ∧ w' = w := by
  have hstr : (str T).size = T.length := str_size T
  have hnil : ((str T).toList == (⟨#[]⟩ : ByteArray).toList) = (T == []) := str_beq T [] hT (by simp)
  by_cases h1 : T.length = 0
  · obtain rfl : T = [] := List.eq_nil_of_length_eq_zero h1
    have hie : (str []).toList.isEmpty = true := by rw [str_toList]; rfl
    clear hnil
    go_enter Try.func12, Try.ntmps12
    go_wp2
    exact bodyPost_ret (results_tmp rfl _ _ _) rfl ⟨by rw [show Nx.chk [] = false from rfl]; rfl, rfl⟩
  · have hne : (T == []) = false := by rw [beq_eq_false_iff_ne]; intro e; rw [e] at h1; exact h1 rfl
    rw [hne] at hnil
    have hie : (str T).toList.isEmpty = false := by
      rw [str_toList]
      cases T with
      | nil => exact absurd rfl h1
      | cons => rfl
    clear hnil hne
    have H0 := hid (fun wx => str_index T hT 0 (by omega) wx)
    have HL := hid (fun wx => str_index T hT (T.length - 1) (by omega) wx)
    rw [show ((0 : Nat) : Int) = 0 from rfl] at H0
    rw [show ((T.length - 1 : Nat) : Int) = (T.length : Int) - 1 from by omega] at HL
    have HIX := hid (fun k hk wx => str_index T hT k hk wx)
    have HLT := hid (fun k hk => getD_ltn hT k hk)
    clear hT
    have HF := hid (@chk_false T)
    have HFA := hid (@chk_false_at T)
    have HTR := hid (@chk_true T)
    by_cases h2 : (32 : Int) < T.length
    · have HX := hid (HF.out (by omega))
      clear HF HFA HTR HIX HLT H0 HL
      go_enter Try.func12, Try.ntmps12
      go_wp2
      exact bodyPost_ret (results_tmp rfl _ _ _) rfl ⟨by rw [HX.out]; rfl, rfl⟩
    · have h0 := H0.out
      have hl := HL.out
      clear H0 HL
      by_cases h3 : T.getD 0 0 = 47
      · have HX := hid (HF.out (by omega))
        clear HF HFA HTR HIX HLT hl
        rw [h3] at h0
        clear h3
        go_enter Try.func12, Try.ntmps12
        go_wp2
        exact bodyPost_ret (results_tmp rfl _ _ _) rfl ⟨by rw [HX.out]; rfl, rfl⟩
      · by_cases h4 : T.getD (T.length - 1) 0 = 47
        · have HX := hid (HF.out (by omega))
          clear HF HFA HTR HIX HLT
          rw [h4] at hl
          clear h4
          have e3 : ((T.getD 0 0 : Nat) == (47 : Int)) = false := by rw [beq_eq_false_iff_ne]; omega
          generalize T.getD 0 0 = a at *
          go_enter Try.func12, Try.ntmps12
          go_wp2
          exact bodyPost_ret (results_tmp rfl _ _ _) rfl ⟨by rw [HX.out]; rfl, rfl⟩
        · have HX := hid (HTR.out ⟨by omega, by omega, h3, h4⟩)
          have e3 : ((T.getD 0 0 : Nat) == (47 : Int)) = false := by rw [beq_eq_false_iff_ne]; omega
          have e4 : ((T.getD (T.length - 1) 0 : Nat) == (47 : Int)) = false := by rw [beq_eq_false_iff_ne]; omega
          have H3 := hid h3
          clear HTR HF h3 h4
          generalize ha : T.getD 0 0 = a at *
          generalize T.getD (T.length - 1) 0 = c at *
          have HA := hid ha
          clear ha
          go_enter Try.func12, Try.ntmps12
          go_upto_region 4 with (fail)
          clear h0 hl e3 e4 hie
          go_loopw [3] (fun i wr => ∃ k : Nat, k ≤ T.length ∧ i = .int .i64 (k : Nat) ∧ (∀ j, j < k → Nx.okAt T j = true) ∧ wr = w)
            (fun i _ => T.length - (intOf i).toNat)
          case atStart => exact ⟨0, by omega, rfl, fun j h => by omega, rfl⟩
          case round =>
            obtain ⟨k, hk, rfl, hall, rfl⟩ := hrel
            have HALL := hid hall
            clear hall
            by_cases hkl : k < T.length
            · have g1 : (k : Int) < T.length := by omega
              have hix := HIX.out k hkl
              have hbl := HLT.out k hkl
              by_cases hp : T.getD k 0 = 47
              · have hk0 : 0 < k := by
                  rcases Nat.eq_zero_or_pos k with h | h
                  · exfalso; subst h; exact H3.out (HA.out ▸ hp)
                  · exact h
                have hiy := HIX.out (k - 1) (by omega)
                have e5 : ((k - 1 : Nat) : Int) = (k : Int) - 1 := by omega
                rw [e5] at hiy
                clear e5
                rw [hp] at hix
                by_cases hq : T.getD (k - 1) 0 = 47
                · have HY := hid (HFA.out k hkl (by unfold Nx.okAt; rw [hp, hq]; rfl))
                  rw [hq] at hiy
                  clear HX HALL HFA HIX HLT H3 HA hp hq
                  go_wp2
                  exact bodyPost_ret (results_tmp rfl _ _ _) rfl ⟨by rw [HY.out]; rfl, rfl⟩
                · have HOK := hid (show Nx.okAt T k = true from by unfold Nx.okAt; rw [hp, beq_eq_false_iff_ne.2 hq]; rfl)
                  have e6 : ((T.getD (k - 1) 0 : Nat) == (47 : Int)) = false := by rw [beq_eq_false_iff_ne]; omega
                  clear HX HFA HIX HLT H3 HA hp hq
                  generalize T.getD (k - 1) 0 = c at *
                  go_wp2
                  refine ⟨⟨k + 1, by omega, congrArg (Value.int .i64) (by omega), fun j hj => ?_, by trivial⟩, by simp [intOf]; omega⟩
                  by_cases h3 : j = k
                  · subst h3; exact HOK.out
                  · exact HALL.out j (by omega)
              · have e10 : ((T.getD k 0 : Nat) == (47 : Int)) = false := by rw [beq_eq_false_iff_ne]; omega
                have HOK := hid (show Nx.okAt T k = Nx.part (T.getD k 0) from by unfold Nx.okAt; rw [beq_eq_false_iff_ne.2 hp]; simp)
                have HNO := hid (HFA.out k hkl)
                clear HX HFA HIX HLT H3 HA
                generalize T.getD k 0 = b at *
                rcases Nx.ranges b with h | h | h | h | h | h | h | h | h | h | h | h
                all_goals first | (exfalso; exact hp h) | skip
                all_goals
                  (first | have f1 : (97 : Int) ≤ (b : Int) := by omega | have f1 : ¬ (97 : Int) ≤ (b : Int) := by omega)
                  (first | have f2 : (b : Int) ≤ (122 : Int) := by omega | have f2 : ¬ (b : Int) ≤ (122 : Int) := by omega)
                  (first | have f3 : (65 : Int) ≤ (b : Int) := by omega | have f3 : ¬ (65 : Int) ≤ (b : Int) := by omega)
                  (first | have f4 : (b : Int) ≤ (90 : Int) := by omega | have f4 : ¬ (b : Int) ≤ (90 : Int) := by omega)
                  (first | have f5 : (48 : Int) ≤ (b : Int) := by omega | have f5 : ¬ (48 : Int) ≤ (b : Int) := by omega)
                  (first | have f6 : (b : Int) ≤ (57 : Int) := by omega | have f6 : ¬ (b : Int) ≤ (57 : Int) := by omega)
                  (first | have f7 : ((b : Int) == (46 : Int)) = true := by rw [beq_iff_eq]; omega | have f7 : ((b : Int) == (46 : Int)) = false := by rw [beq_eq_false_iff_ne]; omega)
                  (first | have f8 : ((b : Int) == (95 : Int)) = true := by rw [beq_iff_eq]; omega | have f8 : ((b : Int) == (95 : Int)) = false := by rw [beq_eq_false_iff_ne]; omega)
                  (first | have f9 : ((b : Int) == (45 : Int)) = true := by rw [beq_iff_eq]; omega | have f9 : ((b : Int) == (45 : Int)) = false := by rw [beq_eq_false_iff_ne]; omega)
                  (first | have f10 : ((b : Int) == (47 : Int)) = true := by rw [beq_iff_eq]; omega | have f10 : ((b : Int) == (47 : Int)) = false := by rw [beq_eq_false_iff_ne]; omega)
                  (first | have g7 : (b : Int) = (46 : Int) := by omega | have g7 : ¬ (b : Int) = (46 : Int) := by omega)
                  (first | have g8 : (b : Int) = (95 : Int) := by omega | have g8 : ¬ (b : Int) = (95 : Int) := by omega)
                  (first | have g9 : (b : Int) = (45 : Int) := by omega | have g9 : ¬ (b : Int) = (45 : Int) := by omega)
                  (first | have g10 : (b : Int) = (47 : Int) := by omega | have g10 : ¬ (b : Int) = (47 : Int) := by omega)
                  clear hp
                  (first
                    | (have HT := hid (HOK.out.trans (show Nx.part b = true from by unfold Nx.part; rw [decide_eq_true_eq]; omega)))
                    | (have HT := hid (HNO.out (HOK.out.trans (show Nx.part b = false from by unfold Nx.part; rw [decide_eq_false_iff_not]; omega)))))
                  clear HOK HNO h hbl
                  go_wp2
                  (first
                    | exact bodyPost_ret (results_tmp rfl _ _ _) rfl ⟨by rw [HT.out]; rfl, rfl⟩
                    | (refine ⟨⟨k + 1, by omega, congrArg (Value.int .i64) (by omega), fun j hj => ?_, by trivial⟩, by simp [intOf]; omega⟩
                       by_cases h3 : j = k
                       · subst h3; exact HT.out
                       · exact HALL.out j (by omega)))
            · obtain rfl : k = T.length := by omega
              have HY := hid (HX.out HALL.out)
              clear HX HALL HFA HIX HLT H3
              go_wp2
              exact bodyPost_ret (results_tmp rfl _ _ _) rfl ⟨by rw [HY.out]; rfl, rfl⟩
end Go.Proofs.Ythmhbefbjbkabaa
