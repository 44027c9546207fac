/-
  Layer 2: what mac.Extract, Expand and Derive return, and the reference's Expand.
-/
import Derived.Test.YtgjkkcggcljcdaaDoorBase
import Derived.Test.YtgjkkcggcljcdaaDoorRefA
import Derived.Lib.AppendStr
namespace Go.Proofs.YtgjkkcggcljcdaaDoor
open Go.RowKit
open Go.Lib (hid)

namespace Sx
/-- Part i of what a key is expanded to. -/
def part (k info : List Nat) : Nat → List Nat
  | 0 => []
  | i + 1 => hmac k (part k info i ++ info ++ [i + 1])
def parts (k info : List Nat) : Nat → List Nat
  | 0 => []
  | i + 1 => parts k info i ++ part k info (i + 1)
def expand (k info : List Nat) (n : Nat) : List Nat := (parts k info ((n + 31) / 32)).take n
theorem part_length (k info : List Nat) (i : Nat) : (part k info (i + 1)).length = 32 := digest_length _
theorem part_lt (k info : List Nat) (i : Nat) : ∀ x ∈ part k info i, x < 256 := by
  cases i with
  | zero => intro x hx; simp [part] at hx
  | succ i => exact digest_lt _
theorem part_le (k info : List Nat) (i : Nat) : (part k info i).length ≤ 32 := by
  cases i with
  | zero => simp [part]
  | succ i => rw [part_length]; omega
theorem parts_length (k info : List Nat) (i : Nat) : (parts k info i).length = 32 * i := by
  induction i with
  | zero => rfl
  | succ i ih => rw [parts, List.length_append, ih, part_length]; omega
theorem parts_lt (k info : List Nat) (i : Nat) : ∀ x ∈ parts k info i, x < 256 := by
  induction i with
  | zero => intro x hx; simp [parts] at hx
  | succ i ih =>
    intro x hx
    rcases List.mem_append.1 hx with h | h
    · exact ih x h
    · exact part_lt _ _ _ x h
theorem shortK_shortK (k : List Nat) : shortK (shortK k) = shortK k := by
  have h := shortK_le k
  generalize shortK k = K at h
  unfold shortK
  rw [if_neg (by omega)]
theorem hmac_short (k t : List Nat) : hmac (shortK k) t = hmac k t := by unfold hmac; rw [shortK_shortK]
theorem part_short (k info : List Nat) (i : Nat) : part (shortK k) info i = part k info i := by
  induction i with
  | zero => rfl
  | succ i ih => rw [part, part, ih, hmac_short]
theorem parts_short (k info : List Nat) (i : Nat) : parts (shortK k) info i = parts k info i := by
  induction i with
  | zero => rfl
  | succ i ih => rw [parts, parts, ih, part_short]
theorem expand_length (k info : List Nat) (n : Nat) : (expand k info n).length = n := by
  unfold expand; rw [List.length_take, parts_length]; omega
theorem expand_lt (k info : List Nat) (n : Nat) : ∀ x ∈ expand k info n, x < 256 := fun x hx => parts_lt _ _ _ x (List.mem_of_mem_take hx)
theorem parts_more (k info : List Nat) (i j : Nat) : (parts k info (i + j)).take (32 * i) = parts k info i := by
  induction j with
  | zero => rw [Nat.add_zero, List.take_of_length_le (by rw [parts_length]; omega)]
  | succ j ih => rw [← Nat.add_assoc, parts, List.take_append_of_le_length (by rw [parts_length]; omega), ih]
/-- More of them begin with fewer. -/
theorem expand_take (k info : List Nat) (n m : Nat) (h : n ≤ m) : (expand k info m).take n = expand k info n := by
  unfold expand
  rw [List.take_take, Nat.min_eq_left h, ← parts_more k info ((n + 31) / 32) ((m + 31) / 32 - (n + 31) / 32), List.take_take, Nat.min_eq_left (by omega), show (n + 31) / 32 + ((m + 31) / 32 - (n + 31) / 32) = (m + 31) / 32 from by omega]
/-- How many there are of n bytes. -/
def clamp (n : Int) : Nat := if n < 0 then 0 else if 8160 < n then 8160 else n.toNat
end Sx

namespace Sx
theorem clamp_le (n : Int) : clamp n ≤ 8160 := by unfold clamp; split <;> (try split) <;> omega
theorem clamp_eq (n : Int) : (if (0 : Int) < (if 8160 < n then 8160 else n) then (if 8160 < n then 8160 else n) else 0) = ((clamp n : Nat) : Int) := by
  unfold clamp
  by_cases h : n < 0
  · rw [if_neg (show ¬ 8160 < n by omega), if_neg (by omega), if_pos h]; rfl
  · by_cases h2 : 8160 < n
    · rw [if_pos h2, if_pos (by omega), if_neg h, if_pos h2]; rfl
    · rw [if_neg h2, if_neg h, if_neg h2]; split <;> omega
end Sx

set_option maxRecDepth 100000 in
theorem extract_any (k t : List Nat) (hk : ∀ x ∈ k, x < 256) (hkl : k.length ≤ 1000000) (ht : ∀ x ∈ t, x < 256) (htl : t.length ≤ 100000000) (w : World) (hT : Tabs w) :
    Calls Tryd.prog 53 #[.string (str k), .string (str t)] w fun e w' => e = .returned (.string (str (Sx.hmac k t))) ∧ Below w.heap.size w w' := by
  have HC := hid (mac_any k hk hkl [t] (some ⟨w.heap.size, 0, none⟩) 1 (by simpa using ht) (w.alloc (.cells #[.string (str t)] 9)) (hT.below ((Below.refl _ _).alloc (Nat.le_refl _) _) (Nat.le_refl _)) (strs_one w t 9) (by simp; omega) (by simp))
  simp only [List.flatten_cons, List.flatten_nil, List.append_nil, List.length_singleton] at HC
  have HD := hid (show (Sx.hmac k t).length = 32 from digest_length _)
  generalize Sx.hmac k t = R at *
  generalize str k = K at *
  generalize str t = T at *
  go_enter Tryd.func53, Tryd.ntmps53
  go_wp2_with fail
  refine HC.out.mono ?_
  rintro e w1 ⟨rfl, hb1⟩
  go_wp2_with fail
  refine (mtext_any R HD.out _).mono ?_
  rintro e w2 ⟨rfl, hb2⟩
  go_wp2_with fail
  go_ret
  exact ⟨rfl, (((Below.refl _ _).alloc (Nat.le_refl _) _).next (Nat.le_refl _) hb1).next (Nat.le_refl _) hb2⟩

set_option maxRecDepth 100000 in
set_option maxHeartbeats 1000000 in
theorem exp_any (k f : List Nat) (n : Int) (hk : ∀ x ∈ k, x < 256) (hkl : k.length ≤ 1000000) (hf : ∀ x ∈ f, x < 256) (hfl : f.length ≤ 1000000) (w : World) (hT : Tabs w) :
    Calls Tryd.prog 52 #[.string (str k), .string (str f), .int .i64 n] w fun e w' => e = .returned (.string (str (Sx.expand k f (Sx.clamp n)))) ∧ Below w.heap.size w w' := by
  have hcl := Sx.clamp_le n
  have hmx := Sx.clamp_eq n
  generalize hmn : (if 8160 < n then 8160 else n) = n1 at *
  generalize hN : Sx.clamp n = N at *
  have HF := hid hf
  have HT := hid hT
  have HSH := hid (short_any k hk hkl w hT)
  have HM := hid (fun L ao cap hl wx hTx hA hlen => mac_any (Sx.shortK k) (shortK_lt k hk) (by have := shortK_le k; omega) L ao cap hl wx hTx hA hlen)
  clear hN hf hk hT
  generalize str k = SK0 at *
  go_enter Tryd.func52, Tryd.ntmps52
  go_wp2_with fail
  refine HSH.out.mono ?_
  rintro e w0 ⟨rfl, hb0⟩
  clear HSH
  have HB0 := hid hb0
  clear hb0
  generalize hSK : str (Sx.shortK k) = SK at *
  generalize hSF : str f = SF at *
  have HSK := hid hSK
  have HSF := hid hSF
  clear hSK hSF
  go_upto_region 6 with (fail)
  clear hmx hmn
  go_loopw [7, 8, 9] (fun o l i wr => ∃ j : Nat, j ≤ (N + 31) / 32 ∧ i = .int .i64 ((j : Int) + 1) ∧ Own wr w.heap.size o (Sx.parts k f j) ∧ l = .string (str (Sx.part k f j)) ∧ Below w.heap.size w wr)
    (fun _ _ i _ => 300 - (intOf i).toNat)
  case atStart => exact ⟨0, by omega, rfl, Own.nil _ _, rfl, HB0.out⟩
  case round =>
    obtain ⟨j, hj, rfl, hown, rfl, hbel⟩ := hrel
    have hpz := Sx.parts_length k f j
    have hol := own_len hown
    rw [hpz] at hol
    by_cases hlt : j < (N + 31) / 32
    · have hj255 : j < 255 := by omega
      have hlN : ((32 * j : Nat) : Int) < (N : Int) := by omega
      have hlz : (str (Sx.part k f j)).size ≤ 32 := by rw [str_size]; exact Sx.part_le k f j
      have hb1 : ∀ x ∈ ([Sx.part k f j, f, [j + 1]] : List (List Nat)).flatten, x < 256 := by
        intro x hx
        simp only [List.flatten_cons, List.flatten_nil, List.append_nil, List.mem_append, List.mem_singleton] at hx
        rcases hx with h | h | h
        · exact Sx.part_lt _ _ _ x h
        · exact HF.out x h
        · omega
      have hfl2 : ([Sx.part k f j, f, [j + 1]] : List (List Nat)).flatten = Sx.part k f j ++ f ++ [j + 1] := by simp
      have hl1 : ([Sx.part k f j, f, [j + 1]] : List (List Nat)).flatten.length ≤ 1000000000 := by
        rw [hfl2]; simp only [List.length_append, List.length_singleton]; have := Sx.part_le k f j; omega
      have HP : Hid (Sx.hmac (Sx.shortK k) (Sx.part k f j ++ f ++ [j + 1]) = Sx.part k f (j + 1)) := by rw [Sx.hmac_short]; exact rfl
      have hTr := HT.out.below hbel (Nat.le_refl _)
      have hbA : Below wr.heap.size wr ((wr.alloc (.cells #[.int .u8 ((j : Int) + 1)] 5)).alloc (.cells #[.string (str (Sx.part k f j)), .string (str f), .string (str [j + 1])] 9)) :=
        ((Below.refl _ _).alloc (Nat.le_refl _) _).alloc (by simp) _
      have hst := strs_three (wr.alloc (.cells #[.int .u8 ((j : Int) + 1)] 5)) (Sx.part k f j) f [j + 1] 9
      rw [show (wr.alloc (.cells #[.int .u8 ((j : Int) + 1)] 5)).heap.size = wr.heap.size + 1 from by simp] at hst
      have HC := hid (HM.out [Sx.part k f j, f, [j + 1]] (some ⟨wr.heap.size + 1, 0, none⟩) 3 hb1 _ (hTr.below hbA (Nat.le_refl _)) hst hl1 (by simp))
      rw [hfl2, HP.out] at HC
      have HBA := hid hbA
      have HD := hid (Sx.part_length k f j)
      have HPB := hid (Sx.part_lt k f (j + 1))
      have HPS : Hid (Sx.parts k f j ++ Sx.part k f (j + 1) = Sx.parts k f (j + 1)) := rfl
      have hz2 : (str (Sx.part k f (j + 1))).size = 32 := by rw [str_size, Sx.part_length]
      obtain ⟨v, hv⟩ : ∃ v, v = j + 1 := ⟨_, rfl⟩
      have hc : ∀ wx : World, (convert 46 9 (.slice (some ⟨wx.heap.size, 0, none⟩) 1 1)).run Tryd.prog (wx.alloc (.cells #[.int .u8 ((j : Int) + 1)] 5)) = .ok (.string (str [v])) (wx.alloc (.cells #[.int .u8 ((j : Int) + 1)] 5)) := fun wx => by rw [hv]; exact one_str wx (j + 1)
      rw [← hv] at HC HBA HD HPS hz2 HPB
      have HV := hid hv
      have HBL := hid hbel
      have HOW := hid hown
      have hsz := hbel.size
      have HPL := hid hpz
      have HSF' := HSF.out
      rw [HSF'] at HC
      simp only [List.length_cons, List.length_nil, Nat.zero_add, Nat.reduceAdd] at HC
      rw [HSF'] at HBA
      clear hbel hv hown hpz hb1 hfl2 hl1 HP hTr hbA hst HM HSF'
      generalize str (Sx.part k f j) = S1 at *
      generalize str [v] = S5 at *
      generalize hR : Sx.part k f v = R at *
      have HR := hid hR
      clear hR
      go_wp2_with fail
      refine HC.out.mono ?_
      rintro e w1 ⟨rfl, hb1⟩
      go_wp2_with fail
      refine (mtext_any R HD.out _).mono ?_
      rintro e w2 ⟨rfl, hb2⟩
      have HB12 := hid ((HBA.out.next (Nat.le_refl _) hb1).next (Nat.le_refl _) hb2)
      clear HBA HC hb1 hb2
      go_wp2_with (refine wpList_appT rfl _ _ rfl w.heap.size _ (Sx.parts k f j) rfl (HOW.out.below HB12.out) R HPB.out rfl (by rw [HPL.out, HD.out]; omega) (by have := HB12.out.size; omega) ?_; intro v' w' hown' hbel')
      go_roundw
      case rel =>
        rw [HPS.out] at hown'
        have hv := HV.out
        subst hv
        first
          | exact ⟨j + 1, by omega, by go_num, hown', by rw [HR.out], (HBL.out.next (Nat.le_refl _) HB12.out).trans hbel'⟩
          | ((repeat apply Exists.intro); refine ⟨?_, rfl⟩; exact ⟨j + 1, by omega, by go_num, hown', by rw [HR.out], (HBL.out.next (Nat.le_refl _) HB12.out).trans hbel'⟩)
      case measure => simp [intOf]; omega
    · have hge : ¬ ((32 * j : Nat) : Int) < (N : Int) := by omega
      obtain rfl : j = (N + 31) / 32 := by omega
      obtain ⟨v2, hs1, hs2⟩ := own_cut hown N (by rw [hpz]; omega)
      rw [show List.take N (Sx.parts k f ((N + 31) / 32)) = Sx.expand k f N from rfl] at hs2
      have HBL := hid hbel
      clear hbel hown hpz
      go_wp2_with fail
      go_ret
      exact ⟨rfl, HBL.out⟩

set_option maxRecDepth 100000 in
theorem derive_any (s k f : List Nat) (n : Int) (hs : ∀ x ∈ s, x < 256) (hsl : s.length ≤ 1000000) (hk : ∀ x ∈ k, x < 256) (hkl : k.length ≤ 1000000) (hf : ∀ x ∈ f, x < 256) (hfl : f.length ≤ 1000000) (w : World) (hT : Tabs w) :
    Calls Tryd.prog 34 #[.string (str s), .string (str k), .string (str f), .int .i64 n] w fun e w' => e = .returned (.string (str (Sx.expand (Sx.hmac s k) f (Sx.clamp n)))) ∧ Below w.heap.size w w' := by
  have HT := hid hT
  have HE := hid (extract_any s k hs hsl hk (by omega) w hT)
  have HD := hid (show (Sx.hmac s k).length = 32 from digest_length _)
  have HX := hid (fun wx hTx => exp_any (Sx.hmac s k) f n (digest_lt _) (by rw [HD.out]; omega) hf hfl wx hTx)
  generalize Sx.expand (Sx.hmac s k) f (Sx.clamp n) = R at *
  generalize str (Sx.hmac s k) = H at *
  generalize str s = S at *
  generalize str k = K at *
  generalize str f = F at *
  clear hT
  go_enter Tryd.func34, Tryd.ntmps34
  go_wp2_with fail
  refine HE.out.mono ?_
  rintro e w1 ⟨rfl, hb1⟩
  go_wp2_with fail
  refine (HX.out _ (HT.out.below hb1 (Nat.le_refl _))).mono ?_
  rintro e w2 ⟨rfl, hb2⟩
  go_wp2_with fail
  go_ret
  exact ⟨rfl, hb1.next (Nat.le_refl _) hb2⟩
end Go.Proofs.YtgjkkcggcljcdaaDoor
