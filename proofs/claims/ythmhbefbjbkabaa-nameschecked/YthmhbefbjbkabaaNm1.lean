/-
  Layer 17: Check: the library's three searches, and the program's own.
-/
import Derived.Test.YthmhbefbjbkabaaNm0
import Derived.Test.YthmhbefbjbkabaaShelf
namespace Go.Proofs.Ythmhbefbjbkabaa
open Go.ChangeShapes Go.WideShapes Go.ChangeAt Go.RowKit Go.Shelf
open Go.Lib (hid)

attribute [local go_sem] Oper.semAt_some

/-- The library's variable holds some number. -/
def MxL (w : World) : Prop := ∃ m, w.cell? ⟨0, 0, none⟩ = some (.int .i64 m)
theorem MxL.lt {w : World} (h : MxL w) : 0 < w.heap.size := by
  obtain ⟨m, h⟩ := h
  unfold World.cell? at h
  by_cases hlt : 0 < w.heap.size
  · exact hlt
  · rw [Array.getElem?_eq_none (by omega)] at h
    simp at h
theorem MxL.at {w w' : World} (h : MxL w) (hk : w'.heap[(0 : Nat)]? = w.heap[(0 : Nat)]?) : MxL w' := by
  obtain ⟨m, h⟩ := h
  refine ⟨m, ?_⟩
  unfold World.cell? at h ⊢
  rw [hk]; exact h
theorem MxL.below {w w' : World} {B : Nat} (h : MxL w) (hb : Below B w w') (hB : 0 < B) : MxL w' := h.at (hb.block _ hB)
theorem MxL.next {w w' : World} (h : MxL w) (hb : Below w.heap.size w w') : MxL w' := h.below hb h.lt

namespace Nx
theorem data_str (T : List Nat) : (str T).data.toList = T.map UInt8.ofNat := by rw [← str_toList, ByteArray.toList_eq]
theorem u8_47 (a : Nat) (ha : a < 256) : ((47 : UInt8) == UInt8.ofNat a) = (a == 47) := by
  rw [Bool.eq_iff_iff]
  simp only [beq_iff_eq]
  constructor
  · intro h
    have := congrArg UInt8.toNat h
    simp [Nat.mod_eq_of_lt ha] at this
    omega
  · rintro rfl; rfl
theorem pre_eq (T : List Nat) (hT : ∀ x ∈ T, x < 256) : Lib.hasPrefix (str T).data.toList [47] = decide (T.getD 0 0 = 47) := by
  rw [data_str]
  unfold Lib.hasPrefix
  cases T with
  | nil => rfl
  | cons a T =>
    rw [List.map_cons, List.isPrefixOf_cons_cons, u8_47 a (hT a (by simp))]
    simp [List.isPrefixOf]
    exact Bool.beq_eq_decide_eq _ _
theorem suf_eq (T : List Nat) (hT : ∀ x ∈ T, x < 256) : Lib.hasSuffix (str T).data.toList [47] = decide (T.getD (T.length - 1) 0 = 47) := by
  rw [data_str, ← Lib.hasSuffix_of_drop]
  rcases List.eq_nil_or_concat T with rfl | ⟨l, a, rfl⟩
  · rfl
  · have ha := hT a (by simp)
    simp only [List.concat_eq_append, List.map_append, List.map_cons, List.map_nil, List.length_append, List.length_map, List.length_cons, List.length_nil]
    rw [decide_eq_true (by omega), Bool.true_and, List.drop_append_of_le_length (by simp), List.drop_of_length_le (by simp), List.nil_append]
    rw [show l.length + (0 + 1) - 1 = l.length from by omega, List.getD_eq_getElem?_getD, List.getElem?_append_right (Nat.le_refl _), Nat.sub_self]
    rw [Bool.eq_iff_iff]
    simp only [List.getElem?_cons_zero, Option.getD_some, decide_eq_true_eq, beq_iff_eq, List.cons.injEq, and_true]
    have h := u8_47 a ha
    rw [Bool.eq_iff_iff] at h
    simp only [beq_iff_eq] at h
    exact ⟨fun e => h.1 e.symm, fun e => (h.2 e).symm⟩
/-- Two of 47 in a row. -/
def dbl : List Nat → Bool
  | a :: b :: r => (a == 47 && b == 47) || dbl (b :: r)
  | _ => false
theorem index_dbl : ∀ (T : List Nat), (∀ x ∈ T, x < 256) → decide (0 ≤ Lib.index (T.map UInt8.ofNat) [47, 47]) = dbl T
  | [], _ => rfl
  | [a], h => by
    simp [Lib.index, List.isPrefixOf, dbl]
  | a :: b :: r, h => by
    have ih := index_dbl (b :: r) (fun x hx => h x (List.mem_cons_of_mem _ hx))
    have h1 := u8_47 a (h a (by simp))
    have h2 := u8_47 b (h b (by simp))
    have hge := Lib.index_ge ((b :: r).map UInt8.ofNat) [47, 47]
    rw [List.map_cons, Lib.index, dbl, ← ih]
    have hp : ([47, 47] : List UInt8).isPrefixOf (UInt8.ofNat a :: (b :: r).map UInt8.ofNat) = (a == 47 && b == 47) := by
      rw [List.map_cons, List.isPrefixOf_cons_cons, List.isPrefixOf_cons_cons, h1, h2]
      simp [List.isPrefixOf]
    rw [hp]
    cases hab : (a == 47 && b == 47) with
    | true => simp
    | false =>
      simp only [Bool.false_or, Bool.false_eq_true, if_false]
      split
      · rename_i h3
        rw [beq_iff_eq] at h3
        rw [h3]
      · rename_i h3
        rw [beq_iff_eq] at h3
        congr 1
        exact propext ⟨fun _ => by omega, fun _ => by omega⟩
theorem dbl_iff : ∀ (T : List Nat), dbl T = true ↔ ∃ i, i + 1 < T.length ∧ T.getD i 0 = 47 ∧ T.getD (i + 1) 0 = 47
  | [] => by simp [dbl]
  | [a] => by simp [dbl]
  | a :: b :: r => by
    have ih := dbl_iff (b :: r)
    rw [dbl, Bool.or_eq_true, ih, Bool.and_eq_true, beq_iff_eq, beq_iff_eq]
    constructor
    · rintro (⟨rfl, rfl⟩ | ⟨i, h1, h2, h3⟩)
      · exact ⟨0, by simp, rfl, rfl⟩
      · exact ⟨i + 1, by simp only [List.length_cons] at h1 ⊢; omega, by simpa using h2, by simpa using h3⟩
    · rintro ⟨i, h1, h2, h3⟩
      cases i with
      | zero => left; exact ⟨by simpa using h2, by simpa using h3⟩
      | succ i => right; exact ⟨i, by simp only [List.length_cons] at h1 ⊢; omega, by simpa using h2, by simpa using h3⟩
theorem con_eq (T : List Nat) (hT : ∀ x ∈ T, x < 256) : Lib.contains (str T).data.toList [47, 47] = dbl T := by
  rw [data_str]; exact index_dbl T hT
/-- The program's own words for the same. -/
theorem chk_eq (T : List Nat) : chk T = (decide (∀ i, i < T.length → part (T.getD i 0) = true) && (decide (1 ≤ T.length ∧ T.length ≤ 32) && (!(decide (T.getD 0 0 = 47) || decide (T.getD (T.length - 1) 0 = 47)) && !dbl T))) := by
  rw [Bool.eq_iff_iff, chk_iff]
  simp only [Bool.and_eq_true, decide_eq_true_eq, Bool.not_eq_true', Bool.or_eq_false_iff, decide_eq_false_iff_not]
  constructor
  · rintro ⟨⟨h1, h2, h3, h4⟩, h5⟩
    refine ⟨fun i hi => ?_, ⟨h1, h2⟩, ⟨h3, h4⟩, ?_⟩
    · have := h5 i hi
      unfold okAt at this
      rw [Bool.and_eq_true] at this
      exact this.1
    · rw [Bool.eq_false_iff]
      intro hd
      obtain ⟨i, h6, h7, h8⟩ := (dbl_iff T).1 hd
      have := h5 (i + 1) h6
      unfold okAt at this
      rw [h8, show i + 1 - 1 = i from by omega, h7] at this
      simp at this
  · rintro ⟨h1, ⟨h2, h3⟩, ⟨h4, h5⟩, h6⟩
    refine ⟨⟨h2, h3, h4, h5⟩, fun j hj => ?_⟩
    unfold okAt
    rw [h1 j hj, Bool.true_and]
    cases j with
    | zero =>
      rw [beq_eq_false_iff_ne.2 h4]; rfl
    | succ j =>
      rw [show j + 1 - 1 = j from by omega]
      cases h7 : (T.getD (j + 1) 0 == 47 && T.getD j 0 == 47) with
      | false => rfl
      | true =>
        rw [Bool.and_eq_true, beq_iff_eq, beq_iff_eq] at h7
        rw [(dbl_iff T).2 ⟨j, hj, h7.2, h7.1⟩] at h6
        cases h6
end Nx
set_option maxRecDepth 100000 in
set_option maxHeartbeats 4000000 in
theorem check_any (T : List Nat) (hT : ∀ x ∈ T, x < 256) (hTl : T.length ≤ 1000000) (w : World) (hm : MxL w) :
    Calls Try.prog 11 #[.string (str T)] w fun e w' => e = .returned (.bool (Nx.chk T)) ∧ w' = w := by
  have hstr : (str T).size = T.length := str_size T
  have HP := hid (fun wx => Try.strings_HasPrefix (str T) ⟨#[47]⟩ wx)
  have HS := hid (fun wx => Try.strings_HasSuffix (str T) ⟨#[47]⟩ wx (by rw [hstr]; omega))
  have HC : Hid (Calls Try.prog 31 #[.string (str T), .string ⟨#[47, 47]⟩] w fun e w' => e = .returned (.bool (Lib.contains (str T).data.toList [47, 47])) ∧ w' = w) := by
    obtain ⟨m, hm⟩ := hm
    exact hid (Try.strings_Contains (str T) ⟨#[47, 47]⟩ m w (by rw [hstr]; omega) hm)
  rw [Nx.con_eq T hT] at HC
  have e1 := Nx.pre_eq T hT
  have e2 := Nx.suf_eq T hT
  have HQ := hid (Nx.chk_eq T)
  have HIX := hid (fun k hk wx => str_index T hT k hk wx)
  have HIP := hid (fun k hk wx => isPart_any (T.getD k 0) (getD_ltn hT k hk) wx)
  clear hT hm
  change Hid (∀ wx, Calls _ _ _ wx fun e w' => e = .returned (.bool (Lib.hasPrefix (str T).data.toList [47])) ∧ w' = wx) at HP
  change Hid (∀ wx, Calls _ _ _ wx fun e w' => e = .returned (.bool (Lib.hasSuffix (str T).data.toList [47])) ∧ w' = wx) at HS
  rw [e1] at HP
  rw [e2] at HS
  clear e1 e2
  generalize hpp : decide (T.getD 0 0 = 47) = pp at *
  generalize hps : decide (T.getD (T.length - 1) 0 = 47) = ps at *
  generalize hpd : Nx.dbl T = pd at *
  clear hpp hps hpd
  go_enter Try.func11, Try.ntmps11
  go_upto_region 2 with (fail)
  go_loopw [7] (fun i wr => ∃ k : Nat, k ≤ T.length ∧ i = .int .i64 (k : Nat) ∧ (∀ j, j < k → Nx.part (T.getD j 0) = true) ∧ wr = w)
    (fun i _ => T.length - (intOf i).toNat)
  case atStart => exact ⟨0, by omega, rfl, fun j h => by omega, rfl⟩
  case round =>
    obtain ⟨k, hk, rfl, hall, rfl⟩ := hrel
    have HALL := hid hall
    clear hall
    by_cases hkl : k < T.length
    · have g1 : (k : Int) < T.length := by omega
      have hix := HIX.out k hkl
      have HIQ := hid (HIP.out k hkl)
      obtain ⟨pb, hpb⟩ : ∃ pb, pb = Nx.part (T.getD k 0) := ⟨_, rfl⟩
      rw [← hpb] at HIQ
      have HPB := hid hpb
      clear hpb HIX HIP
      cases pb with
      | true =>
        clear HQ HC HP HS
        generalize hbb : T.getD k 0 = bb at *
        have HBB := hid hbb
        clear hbb
        go_wp2_with (go_at_call 28; refine (HIQ.out _).mono ?_; rintro e wz ⟨rfl, hwz⟩; replace hwz := hwz.symm; subst hwz)
        refine ⟨⟨k + 1, by omega, congrArg (Value.int .i64) (by omega), fun j hj => ?_, by trivial⟩, by simp [intOf]; omega⟩
        by_cases h3 : j = k
        · subst h3; rw [HBB.out]; exact HPB.out.symm
        · exact HALL.out j (by omega)
      | false =>
        have HF := hid (show Nx.chk T = false from by
          rw [HQ.out, decide_eq_false, Bool.false_and]
          intro h
          have := h k hkl
          rw [← HPB.out] at this
          cases this)
        clear HQ HC HP HS HPB HALL
        generalize T.getD k 0 = bb at *
        go_wp2_with (go_at_call 28; refine (HIQ.out _).mono ?_; rintro e wz ⟨rfl, hwz⟩; replace hwz := hwz.symm; subst hwz)
        exact bodyPost_ret (results_tmp rfl _ _ _) rfl ⟨by rw [HF.out]; rfl, rfl⟩
    · obtain rfl : k = T.length := by omega
      rw [decide_eq_true HALL.out, Bool.true_and] at HQ
      clear HALL HIX HIP
      have HL : (1 : Int) ≤ T.length ∨ ¬ (1 : Int) ≤ T.length := by omega
      have HL2 : (T.length : Int) ≤ 32 ∨ ¬ (T.length : Int) ≤ 32 := by omega
      rcases HL with h1 | h1 <;> rcases HL2 with h2 | h2 <;> cases pp <;> cases ps
      all_goals first
        | rw [decide_eq_true (show 1 ≤ T.length ∧ T.length ≤ 32 from by omega)] at HQ
        | rw [decide_eq_false (show ¬ (1 ≤ T.length ∧ T.length ≤ 32) from by omega)] at HQ
      all_goals
        go_wp2_with (first
          | (go_at_call 29; refine (HP.out _).mono ?_; rintro e wz ⟨rfl, hwz⟩; subst hwz)
          | (go_at_call 30; refine (HS.out _).mono ?_; rintro e wz ⟨rfl, hwz⟩; subst hwz)
          | (go_at_call 31; refine HC.out.mono ?_; rintro e wz ⟨rfl, hwz⟩; subst hwz))
        try exact bodyPost_ret (results_tmp rfl _ _ _) rfl ⟨by rw [HQ.out]; simp, rfl⟩
end Go.Proofs.Ythmhbefbjbkabaa
