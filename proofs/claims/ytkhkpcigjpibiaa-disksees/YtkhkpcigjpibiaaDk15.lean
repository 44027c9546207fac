/-
  Layer 9: a text as a page.
-/
import Derived.Test.YtkhkpcigjpibiaaDk14
namespace Go.Proofs.Ytkhkpcigjpibiaa
open Go.ChangeShapes Go.WideShapes Go.ChangeAt Go.RowKit Go.Shelf
open Go.Conc
open Go.Lib (hid)

attribute [local go_sem] Oper.semAt_some

theorem bytes_beq (a b : ByteArray) : (a.toList == b.toList) = decide (a = b) := by
  have h := str_beq (nums a) (nums b) (nums_lt a) (nums_lt b)
  rw [str_nums, str_nums] at h
  rw [h]
  by_cases e : a = b
  · subst e; simp
  · rw [decide_eq_false e, beq_eq_false_iff_ne]
    exact fun h2 => e (by rw [← str_nums a, ← str_nums b, h2])
theorem bytes_isEmpty (a : ByteArray) : a.toList.isEmpty = decide (a = ⟨#[]⟩) := by
  have e : (⟨#[]⟩ : ByteArray).toList = [] := by
    rw [ByteArray.toList, ByteArray.toList.loop]
    rfl
  rw [← bytes_beq, e]
  cases h : a.toList with
  | nil => rfl
  | cons x l => rfl
def Dv.szOf : Value → Nat | .string s => s.size | _ => 0
theorem Dv.szOf_str (s : ByteArray) : Dv.szOf (.string s) = s.size := rfl
namespace Dv
def pk (s : ByteArray) : List Nat := if s.size = 0 then [0] else nums s
def page (s : ByteArray) : ByteArray := str ((List.replicate 256 (pk s)).flatten.take 256)
theorem pk_length (s : ByteArray) : 1 ≤ (pk s).length := by
  unfold pk
  split
  · simp
  · rw [nums_length]; omega
theorem flat_length (l : List Nat) (k : Nat) : (List.replicate k l).flatten.length = k * l.length := by simp
theorem page_size (s : ByteArray) : (page s).size = 256 := by
  have h1 := pk_length s
  have : 256 * 1 ≤ 256 * (pk s).length := Nat.mul_le_mul_left _ h1
  unfold page
  rw [str_size, List.length_take, flat_length]
  omega
theorem page_of (s : ByteArray) (k : Nat) (hk : k ≤ 256) (h : 256 ≤ (List.replicate k (pk s)).flatten.length) : str ((List.replicate k (pk s)).flatten.take 256) = page s := by
  unfold page
  rw [show (256 : Nat) = k + (256 - k) from by omega, ← List.replicate_append_replicate, List.flatten_append, List.take_append_of_le_length (by omega)]
end Dv
set_option maxHeartbeats 1000000 in
set_option maxRecDepth 100000 in
theorem page_any (s : ByteArray) (hs : s.size ≤ 1000) (w : World) :
    Calls Try.prog 15 #[.string s] w fun e w' => e = .returned (.string (Dv.page s)) ∧ w = w' := by
  have hp := Dv.pk_length s
  have hp2 : (Dv.pk s).length ≤ 1000 := by
    unfold Dv.pk
    split
    · simp
    · rw [nums_length]; omega
  have hpl := Dv.flat_length (Dv.pk s)
  have hpo := Dv.page_of s
  obtain ⟨t, ht⟩ : ∃ t, t = str (Dv.pk s) := ⟨_, rfl⟩
  have hts : t.size ≤ 1000 := by rw [ht, str_size]; exact hp2
  have HLT := hid (show ∀ x ∈ Dv.pk s, x < 256 from by
    unfold Dv.pk
    split
    · intro x hx; simp only [List.mem_singleton] at hx; omega
    · exact nums_lt s)
  have hst : s.size = 0 ∨ s = t := by
    by_cases h0 : s.size = 0
    · exact Or.inl h0
    · refine Or.inr ?_
      rw [ht]; unfold Dv.pk; rw [if_neg h0, str_nums]
  have hst0 : s.size = 0 → (⟨#[0]⟩ : ByteArray) = t := by
    intro h0
    rw [ht]; unfold Dv.pk; rw [if_pos h0]; rfl
  have HKK := hid (show ∀ k, k * (Dv.pk s).length < 256 + (Dv.pk s).length → k ≤ 256 from by
    intro k hk
    rcases Nat.lt_or_ge 256 k with h | h
    · have h1 : 257 * (Dv.pk s).length ≤ k * (Dv.pk s).length := Nat.mul_le_mul_right _ h
      omega
    · exact h)
  generalize Dv.page s = PG at *
  generalize Dv.pk s = PK at *
  have HT := hid ht
  have HPO := hid hpo
  have HPL := hid hpl
  clear hpo hpl ht
  by_cases h0 : s.size = 0
  · have hse : s = ⟨#[]⟩ := by
      have : s.data.size = 0 := h0
      exact ByteArray.ext (Array.eq_empty_of_size_eq_zero this)
    have ht0 := hst0 h0
    have g1 : (s == (⟨#[]⟩ : ByteArray)) = true := by rw [hse]; rfl
    clear hst hst0
    go_enter Try.func15, Try.ntmps15
    go_wp2
    rw [ht0]
    go_loopw [3] (fun o wr => wr = w ∧ ∃ k : Nat, o = .string (str (List.replicate k PK).flatten) ∧ k * PK.length < 256 + PK.length)
      (fun o _ => 3000 - Dv.szOf o)
    case atStart => exact ⟨rfl, 0, rfl, by omega⟩
    case round =>
      obtain ⟨rfl, k, rfl, hk⟩ := hrel
      have hkl := HPL.out k
      have hkk := HKK.out k hk
      have hsz : (str (List.replicate k PK).flatten).size = k * PK.length := by rw [str_size, hkl]
      have hn : str (List.replicate k PK).flatten ++ t = str (List.replicate (k + 1) PK).flatten := by
        rw [HT.out, str_append, List.replicate_succ', List.flatten_append]
        simp
      have hsz1 : (str (List.replicate (k + 1) PK).flatten).size = k * PK.length + PK.length := by rw [str_size, HPL.out, Nat.add_mul, Nat.one_mul]
      have hk1 : (k + 1) * PK.length = k * PK.length + PK.length := by rw [Nat.add_mul, Nat.one_mul]
      have hnum : (str (List.replicate k PK).flatten).extract 0 256 = str ((List.replicate k PK).flatten.take 256) := by
        rw [extract_take, nums_str _ (fun x hx => by
          rw [List.mem_flatten] at hx
          obtain ⟨l, hl, hx⟩ := hx
          rw [List.mem_replicate] at hl
          rw [hl.2] at hx
          exact HLT.out x hx)]
      have HNUM := hid hnum
      have hpo := HPO.out k
      rw [hkl] at hpo
      have HP := hid hpo
      clear hkl hnum hpo
      generalize k * PK.length = z at *
      generalize str (List.replicate k PK).flatten = SK at *
      by_cases hlt : z < 256
      · have g1 : (SK.size : Int) < 256 := by omega
        have g2 : (SK.size : Int) + t.size ≤ 9223372036854775807 := by have : t.size ≤ 1000 := hts; omega
        go_wp2
        refine ⟨⟨trivial, k + 1, rfl, by rw [hk1]; omega⟩, ?_⟩
        rw [Dv.szOf_str, Dv.szOf_str, hsz1, hsz]
        omega
      · have g1 : ¬ (SK.size : Int) < 256 := by omega
        go_wp2
        have hex := HNUM.out.trans (HP.out hkk (by omega))
        rw [hex]
        exact bodyPost_ret (results_tmp rfl _ _ _) rfl ⟨rfl, rfl⟩
  · have ht1 : s = t := hst.resolve_left h0
    subst ht1
    have g1 : s.toList.isEmpty = false := by
      rw [bytes_isEmpty, decide_eq_false]
      rintro rfl
      exact h0 rfl
    clear hst hst0
    go_enter Try.func15, Try.ntmps15
    go_wp2
    clear g1 h0
    generalize s = t at *
    go_loopw [3] (fun o wr => wr = w ∧ ∃ k : Nat, o = .string (str (List.replicate k PK).flatten) ∧ k * PK.length < 256 + PK.length)
      (fun o _ => 3000 - Dv.szOf o)
    case atStart => exact ⟨rfl, 0, rfl, by omega⟩
    case round =>
      obtain ⟨rfl, k, rfl, hk⟩ := hrel
      have hkl := HPL.out k
      have hkk := HKK.out k hk
      have hsz : (str (List.replicate k PK).flatten).size = k * PK.length := by rw [str_size, hkl]
      have hn : str (List.replicate k PK).flatten ++ t = str (List.replicate (k + 1) PK).flatten := by
        rw [HT.out, str_append, List.replicate_succ', List.flatten_append]
        simp
      have hsz1 : (str (List.replicate (k + 1) PK).flatten).size = k * PK.length + PK.length := by rw [str_size, HPL.out, Nat.add_mul, Nat.one_mul]
      have hk1 : (k + 1) * PK.length = k * PK.length + PK.length := by rw [Nat.add_mul, Nat.one_mul]
      have hnum : (str (List.replicate k PK).flatten).extract 0 256 = str ((List.replicate k PK).flatten.take 256) := by
        rw [extract_take, nums_str _ (fun x hx => by
          rw [List.mem_flatten] at hx
          obtain ⟨l, hl, hx⟩ := hx
          rw [List.mem_replicate] at hl
          rw [hl.2] at hx
          exact HLT.out x hx)]
      have HNUM := hid hnum
      have hpo := HPO.out k
      rw [hkl] at hpo
      have HP := hid hpo
      clear hkl hnum hpo
      generalize k * PK.length = z at *
      generalize str (List.replicate k PK).flatten = SK at *
      by_cases hlt : z < 256
      · have g1 : (SK.size : Int) < 256 := by omega
        have g2 : (SK.size : Int) + t.size ≤ 9223372036854775807 := by have : t.size ≤ 1000 := hts; omega
        go_wp2
        refine ⟨⟨trivial, k + 1, rfl, by rw [hk1]; omega⟩, ?_⟩
        rw [Dv.szOf_str, Dv.szOf_str, hsz1, hsz]
        omega
      · have g1 : ¬ (SK.size : Int) < 256 := by omega
        go_wp2
        have hex := HNUM.out.trans (HP.out hkk (by omega))
        rw [hex]
        exact bodyPost_ret (results_tmp rfl _ _ _) rfl ⟨rfl, rfl⟩
end Go.Proofs.Ytkhkpcigjpibiaa
