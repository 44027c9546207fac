/-
  Layer 15: the document's Has and Check.
-/
import Derived.Test.YtaipaifnkpgmhaaWs7
namespace Go.Proofs.Ytaipaifnkpgmhaa
open Go.ChangeShapes Go.WideShapes Go.ChangeAt Go.RowKit Go.Shelf
open Go.Lib (hid)

attribute [local go_sem] Oper.semAt_some

set_option maxHeartbeats 4000000 in
set_option maxRecDepth 100000 in
theorem rhas_any (T : List Nat) (hT : ∀ x ∈ T, x < 256) (hTl : T.length ≤ 900) (ao : Option Addr) (L : List (List Nat)) (cap : Nat) (w : World) (hA : Strs w ao L) (hL : L.length ≤ 1000) (hb : ∀ l ∈ L, ∀ b ∈ l, b < 256) :
    Calls Try.prog 15 #[.string (str T), .slice ao L.length cap] w fun e w' => e = .returned (.bool (decide (∀ x ∈ L, x ∈ Wd.words T))) ∧ Below w.heap.size w w' := by
  have HOF := hid (fun wx => rof_any T hT hTl wx)
  have HWL := hid (Wd.words_lt T)
  have HWN := hid (Wd.words_length T)
  generalize Wd.words T = WT at *
  go_enter Try.func15, Try.ntmps15
  go_wp2
  go_loopw [12] (fun i wr => ∃ k : Nat, k ≤ L.length ∧ i = .int .i64 (k : Nat) ∧ (∀ j, j < k → L.getD j [] ∈ WT) ∧ Strs wr ao L ∧ Below w.heap.size w wr)
    (fun i _ => L.length - (intOf i).toNat)
  case atStart => exact ⟨0, by omega, rfl, fun j h => by omega, hA, Below.refl _ _⟩
  case round =>
    obtain ⟨k, hk, rfl, hall, hA1, hbl⟩ := hrel
    have HALL := hid hall
    have HA1 := hid hA1
    have HBL := hid hbl
    clear hall hA1 hbl hA
    by_cases hkl : k < L.length
    · have g1 : (k : Int) < L.length := by omega
      obtain ⟨sb, so, rfl, hc⟩ := HA1.out k hkl
      have hmem : L.getD k [] ∈ L := by rw [List.getD_eq_getElem?_getD, List.getElem?_eq_getElem hkl]; exact List.getElem_mem hkl
      have hx := hb _ hmem
      generalize hxx : L.getD k [] = x at *
      have HXX := hid hxx
      have HMEM := hid hmem
      clear hxx hmem
      go_upto_region 6 with (go_at_call 13; refine (HOF.out _).mono ?_; rintro e w1 ⟨v, rfl, ho, hb1⟩; obtain ⟨ao2, cap2, rfl, hs2⟩ := ho.strs)
      have HS2 := hid hs2
      have HB1 := hid hb1
      have HA2 := hid (HA1.out.below hb1)
      clear hs2 hb1 ho hc
      go_loopw [7, 19] (fun bv i wq => ∃ q : Nat, q ≤ WT.length ∧ i = .int .i64 (q : Nat) ∧ bv = .bool (decide (x ∈ WT.take q)) ∧ wq = w1)
        (fun _ i _ => WT.length - (intOf i).toNat)
      case atStart => exact ⟨0, by omega, rfl, by simp, rfl⟩
      case round =>
        obtain ⟨q, hq, rfl, rfl, rfl⟩ := hrel
        by_cases hql : q < WT.length
        · have g2 : (q : Int) < WT.length := by omega
          have g64 : (q : Int) < 64 := by have := HWN.out; omega
          obtain ⟨sb2, so2, rfl, hc2⟩ := HS2.out q hql
          have hm2 : WT.getD q [] ∈ WT := by rw [List.getD_eq_getElem?_getD, List.getElem?_eq_getElem hql]; exact List.getElem_mem hql
          have hbq := str_beq (WT.getD q []) x (HWL.out _ hm2) hx
          have hnext : decide (x ∈ WT.take (q + 1)) = (decide (x ∈ WT.take q) || (WT.getD q [] == x)) := by
            rw [List.take_succ_eq_append_getElem hql, List.getD_eq_getElem?_getD, List.getElem?_eq_getElem hql, Bool.eq_iff_iff]
            simp only [decide_eq_true_eq, Bool.or_eq_true, List.mem_append, List.mem_singleton, beq_iff_eq, Option.getD_some]
            constructor
            · rintro (h | h)
              · exact Or.inl h
              · exact Or.inr h.symm
            · rintro (h | h)
              · exact Or.inl h
              · exact Or.inr h.symm
          have HN := hid hnext
          generalize WT.getD q [] = y at *
          generalize hb1 : (y == x) = b1 at *
          clear hnext hm2
          cases hb0 : decide (x ∈ WT.take q) with
          | true =>
            have hn2 := HN.out
            rw [hb0, Bool.true_or] at hn2
            have HN2 := hid hn2
            clear hn2 hb0 HN hb1
            go_wp2
            have hkk : (q : Int) + 1 = ((q + 1 : Nat) : Int) := by omega
            refine ⟨?_, ?_⟩
            · skip
              first
                | exact ⟨q + 1, by omega, congrArg (Value.int .i64) hkk, by rw [HN2.out], by trivial⟩
                | ((repeat apply Exists.intro); refine ⟨?_, rfl⟩; exact ⟨q + 1, by omega, congrArg (Value.int .i64) hkk, by rw [HN2.out], by trivial⟩)
            · simp [intOf]
              omega
          | false =>
            have hn2 := HN.out
            rw [hb0, Bool.false_or] at hn2
            have HN2 := hid hn2
            clear hn2 hb0 HN hb1
            go_wp2
            have hkk : (q : Int) + 1 = ((q + 1 : Nat) : Int) := by omega
            refine ⟨?_, ?_⟩
            · skip
              first
                | exact ⟨q + 1, by omega, congrArg (Value.int .i64) hkk, by rw [HN2.out], by trivial⟩
                | ((repeat apply Exists.intro); refine ⟨?_, rfl⟩; exact ⟨q + 1, by omega, congrArg (Value.int .i64) hkk, by rw [HN2.out], by trivial⟩)
            · simp [intOf]
              omega
        · obtain rfl : q = WT.length := by omega
          rw [List.take_length]
          by_cases hin : x ∈ WT
          · rw [decide_eq_true hin]
            have HIN := hid hin
            clear hin
            go_wp2
            have hkk : (k : Int) + 1 = ((k + 1 : Nat) : Int) := by omega
            have hal : ∀ j, j < k + 1 → L.getD j [] ∈ WT := by
              intro j hj
              by_cases h3 : j = k
              · subst h3; rw [HXX.out]; exact HIN.out
              · exact HALL.out j (by omega)
            refine ⟨?_, ?_⟩
            · skip
              first
                | exact ⟨k + 1, by omega, congrArg (Value.int .i64) hkk, hal, HA2.out, HBL.out.trans (HB1.out.mono HBL.out.size)⟩
                | ((repeat apply Exists.intro); refine ⟨?_, rfl⟩; exact ⟨k + 1, by omega, congrArg (Value.int .i64) hkk, hal, HA2.out, HBL.out.trans (HB1.out.mono HBL.out.size)⟩)
            · simp [intOf]
              omega
          · rw [decide_eq_false hin]
            have HF := hid (show decide (∀ x ∈ L, x ∈ WT) = false from decide_eq_false fun h => hin (h _ HMEM.out))
            clear hin
            go_wp2
            exact bodyPost_ret (results_tmp rfl _ _ _) rfl ⟨by rw [HF.out]; rfl, HBL.out.trans (HB1.out.mono HBL.out.size)⟩
    · obtain rfl : k = L.length := by omega
      have HF := hid (show decide (∀ x ∈ L, x ∈ WT) = true from decide_eq_true fun x hx => by
        obtain ⟨j, hj, rfl⟩ := List.mem_iff_getElem.1 hx
        have := HALL.out j hj
        rwa [List.getD_eq_getElem?_getD, List.getElem?_eq_getElem hj] at this)
      go_wp2
      exact bodyPost_ret (results_tmp rfl _ _ _) rfl ⟨by rw [HF.out]; rfl, HBL.out⟩
set_option maxRecDepth 100000 in
set_option maxHeartbeats 1000000 in
theorem rcheck_any (T : List Nat) (hT : ∀ x ∈ T, x < 256) (hTl : T.length ≤ 900) (w : World) :
    Calls Try.prog 17 #[.string (str T)] w fun e w' => e = .returned (.bool (decide (Wd.words T = [T]))) ∧ Below w.heap.size w w' := by
  have HOF := hid (rof_any T hT hTl w)
  have HWL := hid (Wd.words_lt T)
  generalize Wd.words T = WT at *
  go_enter Try.func17, Try.ntmps17
  go_upto_region 2 with (go_at_call 13; refine HOF.out.mono ?_; rintro e w1 ⟨v, rfl, ho, hb1⟩; obtain ⟨ao2, cap2, rfl, hs2⟩ := ho.strs)
  have HB1 := hid hb1
  clear hb1 ho HOF
  by_cases h1 : WT.length = 1
  · have g1 : (WT.length : Int) = 1 := by omega
    obtain ⟨sb2, so2, rfl, hc2⟩ := hs2 0 (by omega)
    rw [Nat.add_zero] at hc2
    have hm2 : WT.getD 0 [] ∈ WT := by rw [List.getD_eq_getElem?_getD, List.getElem?_eq_getElem (by omega)]; exact List.getElem_mem _
    have hbq := str_beq (WT.getD 0 []) T (HWL.out _ hm2) hT
    have hW : WT = [WT.getD 0 []] := by
      match WT, h1 with
      | [a], _ => rfl
    generalize WT.getD 0 [] = y at *
    subst hW
    clear hm2 hs2 h1 g1
    by_cases hy : y = T
    · have HF := hid (show decide ([y] = [T]) = true from decide_eq_true (by rw [hy]))
      rw [beq_iff_eq.2 hy] at hbq
      clear hy
      go_wp2
      exact bodyPost_ret (results_tmp rfl _ _ _) rfl ⟨by rw [HF.out]; rfl, HB1.out⟩
    · have HF := hid (show decide ([y] = [T]) = false from decide_eq_false (by intro h; exact hy (List.head_eq_of_cons_eq h)))
      rw [beq_eq_false_iff_ne.2 hy] at hbq
      clear hy
      go_wp2
      exact bodyPost_ret (results_tmp rfl _ _ _) rfl ⟨by rw [HF.out]; rfl, HB1.out⟩
  · have g1 : ¬ (WT.length : Int) = 1 := by omega
    have HF := hid (show decide (WT = [T]) = false from decide_eq_false (by intro h; exact h1 (by rw [h]; rfl)))
    clear h1
    go_wp2
    exact bodyPost_ret (results_tmp rfl _ _ _) rfl ⟨by rw [HF.out]; rfl, HB1.out⟩
end Go.Proofs.Ytaipaifnkpgmhaa
