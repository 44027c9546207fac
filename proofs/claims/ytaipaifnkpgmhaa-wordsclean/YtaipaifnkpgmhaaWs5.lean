/-
  Layer 15: Check, Has, are texts alike, and the fixed fact.
-/
import Derived.Test.YtaipaifnkpgmhaaWs4
namespace Go.Proofs.Ytaipaifnkpgmhaa
open Go.ChangeShapes Go.WideShapes Go.ChangeAt Go.RowKit Go.Shelf
open Go.Lib (hid)

attribute [local go_sem] Oper.semAt_some

namespace Wd
/-- Is it a word? -/
def chk (t : List Nat) : Bool := t.all part && decide (1 ≤ t.length ∧ t.length ≤ 16)
theorem chk_iff (t : List Nat) : chk t = true ↔ IsW t := by
  unfold chk IsW
  rw [Bool.and_eq_true, List.all_eq_true, decide_eq_true_eq]
  constructor
  · rintro ⟨h1, h2, h3⟩
    exact ⟨fun e => by rw [e] at h2; simp at h2, h3, h1⟩
  · rintro ⟨h1, h2, h3⟩
    exact ⟨h3, by cases t with | nil => exact absurd rfl h1 | cons => simp, h2⟩
end Wd
theorem getD_ltw {T : List Nat} (hT : ∀ x ∈ T, x < 256) (k : Nat) (hk : k < T.length) : T.getD k 0 < 256 := hT _ (by rw [List.getD_eq_getElem?_getD, List.getElem?_eq_getElem hk]; exact List.getElem_mem hk)
set_option maxRecDepth 100000 in
set_option maxHeartbeats 1000000 in
theorem check_any (T : List Nat) (hT : ∀ x ∈ T, x < 256) (hTl : T.length ≤ 1000000) (w : World) :
    Calls Try.prog 16 #[.string (str T)] w fun e w' => e = .returned (.bool (Wd.chk T)) ∧ w' = w := by
  have hstr : (str T).size = T.length := str_size T
  go_enter Try.func16, Try.ntmps16
  go_wp2
  go_loopw [6] (fun i wr => ∃ k : Nat, k ≤ T.length ∧ i = .int .i64 (k : Nat) ∧ (∀ j, j < k → Wd.part (T.getD j 0) = true) ∧ wr = w)
    (fun i _ => T.length - (intOf i).toNat)
  case atStart => exact ⟨0, by omega, rfl, fun j h => by omega, rfl⟩
  case round =>
    obtain ⟨k, hk, rfl, hall, rfl⟩ := hrel
    have HALL := hid hall
    clear hall
    by_cases hkl : k < T.length
    · have g1 : (k : Int) < T.length := by omega
      have hix := fun wx => str_index T hT k hkl wx
      have HIP := hid (fun wx => isPart_any (T.getD k 0) (getD_ltw hT k hkl) wx)
      obtain ⟨pb, hpb⟩ : ∃ pb, pb = Wd.part (T.getD k 0) := ⟨_, rfl⟩
      rw [← hpb] at HIP
      have HPB := hid hpb
      clear hpb
      generalize hbb : T.getD k 0 = bb at *
      have HBB := hid hbb
      clear hbb
      cases pb with
      | true =>
        go_wp2_with (go_at_call 25; refine (HIP.out _).mono ?_; rintro e wz ⟨rfl, hwz⟩; replace hwz := hwz.symm; subst hwz)
        have hkk : (k : Int) + 1 = ((k + 1 : Nat) : Int) := by omega
        refine ⟨⟨k + 1, by omega, congrArg (Value.int .i64) hkk, fun j hj => ?_, by trivial⟩, by simp [intOf]; omega⟩
        by_cases h3 : j = k
        · subst h3; rw [HBB.out]; exact HPB.out.symm
        · exact HALL.out j (by omega)
      | false =>
        have HF := hid (show Wd.chk T = false from by
          rw [Bool.eq_false_iff]
          intro h
          have := (((Wd.chk_iff T).1 h).2.2) (T.getD k 0) (by rw [List.getD_eq_getElem?_getD, List.getElem?_eq_getElem hkl]; exact List.getElem_mem hkl)
          rw [HBB.out, ← HPB.out] at this
          cases this)
        go_wp2_with (go_at_call 25; refine (HIP.out _).mono ?_; rintro e wz ⟨rfl, hwz⟩; replace hwz := hwz.symm; subst hwz)
        exact bodyPost_ret (results_tmp rfl _ _ _) rfl ⟨by rw [HF.out]; rfl, rfl⟩
    · obtain rfl : k = T.length := by omega
      have HA := hid (show T.all Wd.part = true from by
        rw [List.all_eq_true]
        intro x hx
        obtain ⟨j, hj, rfl⟩ := List.mem_iff_getElem.1 hx
        have := HALL.out j hj
        rwa [List.getD_eq_getElem?_getD, List.getElem?_eq_getElem hj] at this)
      by_cases h1 : 1 ≤ T.length
      · have g2 : (1 : Int) ≤ T.length := by omega
        by_cases h2 : T.length ≤ 16
        · have g3 : (T.length : Int) ≤ 16 := by omega
          have HF := hid (show Wd.chk T = true from by unfold Wd.chk; rw [HA.out, decide_eq_true ⟨h1, h2⟩]; rfl)
          go_wp2
          exact bodyPost_ret (results_tmp rfl _ _ _) rfl ⟨by rw [HF.out]; rfl, rfl⟩
        · have g3 : ¬ (T.length : Int) ≤ 16 := by omega
          have HF := hid (show Wd.chk T = false from by unfold Wd.chk; rw [decide_eq_false (by omega), Bool.and_false])
          go_wp2
          exact bodyPost_ret (results_tmp rfl _ _ _) rfl ⟨by rw [HF.out]; rfl, rfl⟩
      · have g2 : ¬ (1 : Int) ≤ T.length := by omega
        have HF := hid (show Wd.chk T = false from by unfold Wd.chk; rw [decide_eq_false (by omega), Bool.and_false])
        go_wp2
        exact bodyPost_ret (results_tmp rfl _ _ _) rfl ⟨by rw [HF.out]; rfl, rfl⟩
set_option maxRecDepth 100000 in
set_option maxHeartbeats 1000000 in
theorem has_any (T : List Nat) (hT : ∀ x ∈ T, x < 256) (hTl : T.length ≤ 1000000) (ao : Option Addr) (L : List (List Nat)) (cap : Nat) (w : World) (hA : Strs w ao L) (hL : L.length ≤ 1000) (hb : ∀ l ∈ L, ∀ b ∈ l, b < 256) :
    Calls Try.prog 14 #[.string (str T), .slice ao L.length cap] w fun e w' => e = .returned (.bool (decide (∀ x ∈ L, x ∈ Wd.words T))) ∧ Below w.heap.size w w' := by
  have HOF := hid (of_any T hT hTl w)
  have HWL := hid (Wd.words_lt T)
  have HWN := hid (Wd.words_length T)
  generalize Wd.words T = WT at *
  go_enter Try.func14, Try.ntmps14
  go_upto_region 2 with (go_at_call 11; refine HOF.out.mono ?_; rintro e w1 ⟨v, rfl, ho, hb1⟩)
  have HO := hid ho
  have HB1 := hid hb1
  have HA1 := hid (hA.below hb1)
  clear ho hb1 hA HOF
  go_wp2
  go_loopw [12] (fun i wr => ∃ k : Nat, k ≤ L.length ∧ i = .int .i64 (k : Nat) ∧ (∀ j, j < k → L.getD j [] ∈ WT) ∧ wr = w1)
    (fun i _ => L.length - (intOf i).toNat)
  case atStart => exact ⟨0, by omega, rfl, fun j h => by omega, rfl⟩
  case round =>
    obtain ⟨k, hk, rfl, hall, rfl⟩ := hrel
    have HALL := hid hall
    clear hall
    by_cases hkl : k < L.length
    · have g1 : (k : Int) < L.length := by omega
      obtain ⟨sb, so, rfl, hc⟩ := HA1.out k hkl
      have hmem : L.getD k [] ∈ L := by rw [List.getD_eq_getElem?_getD, List.getElem?_eq_getElem hkl]; exact List.getElem_mem hkl
      have HC := hid (contains_any wr _ v WT HO.out (L.getD k []) (by have := HWN.out; omega) HWL.out (hb _ hmem))
      have HMEM := hid hmem
      by_cases hin : L.getD k [] ∈ WT
      · rw [decide_eq_true hin] at HC
        have HIN := hid hin
        generalize hx : L.getD k [] = x at *
        have HX := hid hx
        clear hx hin hmem
        go_wp2_with (go_at_call 24; refine HC.out.mono ?_; rintro e wz ⟨rfl, hwz⟩; replace hwz := hwz.symm; subst hwz)
        have hkk : (k : Int) + 1 = ((k + 1 : Nat) : Int) := by omega
        refine ⟨⟨k + 1, by omega, congrArg (Value.int .i64) hkk, fun j hj => ?_, by trivial⟩, by simp [intOf]; omega⟩
        by_cases h3 : j = k
        · subst h3; rw [HX.out]; exact HIN.out
        · exact HALL.out j (by omega)
      · rw [decide_eq_false hin] at HC
        have HF := hid (show decide (∀ x ∈ L, x ∈ WT) = false from decide_eq_false fun h => hin (h _ hmem))
        generalize L.getD k [] = x at *
        clear hin hmem
        go_wp2_with (go_at_call 24; refine HC.out.mono ?_; rintro e wz ⟨rfl, hwz⟩; replace hwz := hwz.symm; subst hwz)
        exact bodyPost_ret (results_tmp rfl _ _ _) rfl ⟨by rw [HF.out]; rfl, HB1.out⟩
    · obtain rfl : k = L.length := by omega
      have HF := hid (show decide (∀ x ∈ L, x ∈ WT) = true from decide_eq_true fun x hx => by
        obtain ⟨j, hj, rfl⟩ := List.mem_iff_getElem.1 hx
        have := HALL.out j hj
        rwa [List.getD_eq_getElem?_getD, List.getElem?_eq_getElem hj] at this)
      go_wp2
      exact bodyPost_ret (results_tmp rfl _ _ _) rfl ⟨by rw [HF.out]; rfl, HB1.out⟩
set_option maxRecDepth 100000 in
set_option maxHeartbeats 1000000 in
theorem same15_any (a1 : Option Addr) (A : List (List Nat)) (c1 : Nat) (a2 : Option Addr) (B : List (List Nat)) (c2 : Nat) (w : World) (hA : Strs w a1 A) (hB : Strs w a2 B) (ha : ∀ l ∈ A, ∀ x ∈ l, x < 256) (hb : ∀ l ∈ B, ∀ x ∈ l, x < 256) (hla : A.length ≤ 1000000) (hlb : B.length ≤ 1000000) :
    Calls Try.prog 12 #[.slice a1 A.length c1, .slice a2 B.length c2] w fun e w' => e = .returned (.bool (decide (A = B))) ∧ Below w.heap.size w w' := by
  go_enter Try.func12, Try.ntmps12
  by_cases hn : A.length = B.length
  · have g0 : (A.length : Int) = B.length := by omega
    have HN := hid hn
    rw [← hn] at hlb ⊢
    clear hn g0
    go_wp2
    go_loopw [13] (fun i wr => ∃ k : Nat, k ≤ A.length ∧ i = .int .i64 (k : Nat) ∧ (∀ j, j < k → A.getD j [] = B.getD j []) ∧ Strs wr a1 A ∧ Strs wr a2 B ∧ Below w.heap.size w wr)
      (fun i _ => A.length - (intOf i).toNat)
    case atStart => exact ⟨0, by omega, rfl, fun j h => by omega, hA, hB, Below.refl _ _⟩
    case round =>
      obtain ⟨k, hk, rfl, hall, hA1, hB1, hbl⟩ := hrel
      have HALL := hid hall
      have HA1 := hid hA1
      have HB1 := hid hB1
      have HBL := hid hbl
      clear hall hA1 hB1 hbl hA hB
      by_cases hkl : k < A.length
      · have g1 : (k : Int) < A.length := by omega
        obtain ⟨s1, o1, rfl, hc1⟩ := HA1.out k hkl
        obtain ⟨s2, o2, rfl, hc2⟩ := HB1.out k (by rw [← HN.out]; exact hkl)
        have hm1 : ∀ x ∈ A.getD k [], x < 256 := ha _ (by rw [List.getD_eq_getElem?_getD, List.getElem?_eq_getElem hkl]; exact List.getElem_mem hkl)
        have hm2 : ∀ x ∈ B.getD k [], x < 256 := hb _ (by rw [List.getD_eq_getElem?_getD, List.getElem?_eq_getElem (by rw [← HN.out]; exact hkl)]; exact List.getElem_mem _)
        have hbq := str_beq (A.getD k []) (B.getD k []) hm1 hm2
        by_cases hxy : A.getD k [] = B.getD k []
        · have HXY := hid hxy
          rw [hxy] at hbq hc1
          clear hbq
          generalize hy : B.getD k [] = y at *
          have HY := hid hy
          clear hxy hy
          go_upto_region 6 with (fail)
          go_quiet (fail)
          go_wp2
          have hkk : (k : Int) + 1 = ((k + 1 : Nat) : Int) := by omega
          have hd := fun n => (show Below wr.heap.size wr (wr.drewN n) from ⟨rfl, rfl, rfl, Nat.le_refl _, fun _ _ => rfl⟩)
          refine ⟨⟨k + 1, by omega, congrArg (Value.int .i64) hkk, fun j hj => ?_, HA1.out.below (hd _), HB1.out.below (hd _), HBL.out.trans ((hd _).mono HBL.out.size)⟩, by simp [intOf]; omega⟩
          by_cases h3 : j = k
          · subst h3; rw [HXY.out, HY.out]
          · exact HALL.out j (by omega)
        · rw [beq_eq_false_iff_ne.2 hxy] at hbq
          have HF := hid (show decide (A = B) = false from decide_eq_false fun h => hxy (by rw [h]))
          generalize A.getD k [] = x at *
          generalize B.getD k [] = y at *
          clear hxy
          go_upto_region 6 with (fail)
          go_quiet (fail)
          go_wp2
          exact bodyPost_ret (results_tmp rfl _ _ _) rfl ⟨by rw [HF.out]; rfl, HBL.out.trans ⟨rfl, rfl, rfl, Nat.le_refl _, fun _ _ => rfl⟩⟩
      · obtain rfl : k = A.length := by omega
        have HF := hid (show decide (A = B) = true from decide_eq_true (by
          apply List.ext_getElem HN.out
          intro j h1 h2
          have := HALL.out j h1
          rwa [List.getD_eq_getElem?_getD, List.getElem?_eq_getElem h1, List.getD_eq_getElem?_getD, List.getElem?_eq_getElem h2] at this))
        go_wp2
        exact bodyPost_ret (results_tmp rfl _ _ _) rfl ⟨by rw [HF.out]; rfl, HBL.out⟩
  · have g0 : ¬ (A.length : Int) = B.length := by omega
    have HF := hid (show decide (A = B) = false from decide_eq_false fun h => hn (by rw [h]))
    go_wp2
    exact bodyPost_ret (results_tmp rfl _ _ _) rfl ⟨by rw [HF.out]; rfl, Below.refl _ _⟩
namespace Wd
def tA : List Nat := [84, 104, 101, 32, 51, 32, 99, 97, 116, 115, 44, 32, 116, 104, 101, 32, 101, 110, 100]
def lA : List (List Nat) := [[51], [99, 97, 116, 115], [101, 110, 100], [116, 104, 101]]
theorem words_A : words tA = lA := by decide +kernel
theorem words_B : words [120, 32, 121] = [[120], [121]] := by decide +kernel
end Wd
theorem strs_four (w : World) (x y z u : List Nat) (t : TypeId) : Strs (w.alloc (.cells #[.string (str x), .string (str y), .string (str z), .string (str u)] t)) (some ⟨w.heap.size, 0, none⟩) [x, y, z, u] := by
  intro i hi
  obtain rfl | rfl | rfl | rfl : i = 0 ∨ i = 1 ∨ i = 2 ∨ i = 3 := by simp at hi; omega
  all_goals exact ⟨_, _, rfl, cell_of_row _ _ _ _ _ _ (heap_alloc_new _ _)⟩
set_option maxRecDepth 100000 in
set_option maxHeartbeats 1000000 in
theorem awake15_any (w : World) : Calls Try.prog 8 #[] w fun e w' => e = .returned (.bool true) ∧ Below w.heap.size w w' := by
  have HO := hid (of_any Wd.tA (by decide) (by decide) w)
  rw [Wd.words_A] at HO
  have HS := hid (fun (ao bo : Option Addr) (ca cb : Nat) (wx : World) (hx : Strs wx ao Wd.lA) (hy : Strs wx bo Wd.lA) => (same15_any ao Wd.lA ca bo Wd.lA cb wx hx hy (by decide) (by decide) (by decide) (by decide)).mono (R' := fun e w' => e = .returned (.bool true) ∧ Below wx.heap.size wx w') (fun e w' ⟨he, hw⟩ => ⟨by rw [he, decide_eq_true rfl], hw⟩))
  have HH := hid (fun ao cap wx hx => has_any [120, 32, 121] (by decide) (by decide) ao [[121]] cap wx hx (by decide) (by decide))
  rw [Wd.words_B] at HH
  have k1 : Wd.chk [97, 49] = true := by decide
  have k2 : Wd.chk [65] = false := by decide
  rw [show decide (∀ x ∈ ([[121]] : List (List Nat)), x ∈ ([[120], [121]] : List (List Nat))) = true from by decide] at HH
  have e1 : ({ data := #[51] } : ByteArray) = str [51] := rfl
  have e2 : ({ data := #[99, 97, 116, 115] } : ByteArray) = str [99, 97, 116, 115] := rfl
  have e3 : ({ data := #[101, 110, 100] } : ByteArray) = str [101, 110, 100] := rfl
  have e4 : ({ data := #[116, 104, 101] } : ByteArray) = str [116, 104, 101] := rfl
  have e5 : ({ data := #[121] } : ByteArray) = str [121] := rfl
  have e6 : ({ data := #[97, 49] } : ByteArray) = str [97, 49] := rfl
  have e7 : ({ data := #[65] } : ByteArray) = str [65] := rfl
  have e8 : ({ data := #[120, 32, 121] } : ByteArray) = str [120, 32, 121] := rfl
  have e9 : ({ data := #[84, 104, 101, 32, 51, 32, 99, 97, 116, 115, 44, 32, 116, 104, 101, 32, 101, 110, 100] } : ByteArray) = str Wd.tA := rfl
  go_enter Try.func8, Try.ntmps8
  go_wp2_with (first
    | (go_at_call 11; refine HO.out.mono ?_; rintro e w1 ⟨v, rfl, ho, hb1⟩; obtain ⟨ao, cap, rfl, hs1⟩ := ho.strs)
    | (go_at_call 12; (have hb2 : Below w1.heap.size w1 (w1.alloc (.cells #[.string (str [51]), .string (str [99, 97, 116, 115]), .string (str [101, 110, 100]), .string (str [116, 104, 101])] 9)) := (Below.refl _ _).alloc (Nat.le_refl _) _); refine (HS.out ao _ cap 4 _ (hs1.below hb2) (strs_four w1 [51] [99, 97, 116, 115] [101, 110, 100] [116, 104, 101] _)).mono ?_; rintro e w2 ⟨rfl, hb3⟩; have hb4 := hb2.trans (hb3.mono hb2.size); clear hb3 hb2)
    | (go_at_call 16; refine (check_any _ (by decide) (by decide) _).mono ?_; rintro e wz ⟨rfl, hwz⟩; replace hwz := hwz.symm; subst hwz)
    | (go_at_call 14; refine (HH.out (some ⟨_, 0, none⟩) 1 _ (strs_one _ [121] _)).mono ?_; rintro e w3 ⟨rfl, hb5⟩))
  have hb6 : Below w2.heap.size w2 (w2.alloc (.cells #[.string (str [121])] 9)) := (Below.refl _ _).alloc (Nat.le_refl _) _
  have h1 := hb1.trans (hb4.mono hb1.size)
  have h2 := h1.trans ((hb6.trans (hb5.mono hb6.size)).mono h1.size)
  exact bodyPost_ret (results_tmp rfl _ _ _) rfl ⟨rfl, h2⟩
end Go.Proofs.Ytaipaifnkpgmhaa
