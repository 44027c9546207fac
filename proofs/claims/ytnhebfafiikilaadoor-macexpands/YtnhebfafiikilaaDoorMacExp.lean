/-
  Layer 2: what mac.Extract, Expand and Derive return, and the reference's Expand.
-/
import Derived.Test.YtnhebfafiikilaaDoorRefMac
import Derived.Lib.AppendStr
namespace Go.Proofs.YtnhebfafiikilaaDoor
open Go.RowKit
open Go.Lib (hid)

namespace Sx
/-- Part i of what a key is expanded to. -/
def part (k info : List Nat) : Nat → List Nat
  | 0 => []
  | i + 1 => hmac k (part k info i ++ info ++ [i + 1])
def parts (k info : List Nat) : Nat → List Nat
  | 0 => []
  | i + 1 => parts k info i ++ part k info (i + 1)
def expand (k info : List Nat) (n : Nat) : List Nat := (parts k info ((n + 31) / 32)).take n
theorem part_length (k info : List Nat) (i : Nat) : (part k info (i + 1)).length = 32 := digest_length _
theorem part_lt (k info : List Nat) (i : Nat) : ∀ x ∈ part k info i, x < 256 := by
  cases i with
  | zero => intro x hx; simp [part] at hx
  | succ i => exact digest_lt _
theorem part_le (k info : List Nat) (i : Nat) : (part k info i).length ≤ 32 := by
  cases i with
  | zero => simp [part]
  | succ i => rw [part_length]; omega
theorem parts_length (k info : List Nat) (i : Nat) : (parts k info i).length = 32 * i := by
  induction i with
  | zero => rfl
  | succ i ih => rw [parts, List.length_append, ih, part_length]; omega
theorem parts_lt (k info : List Nat) (i : Nat) : ∀ x ∈ parts k info i, x < 256 := by
  induction i with
  | zero => intro x hx; simp [parts] at hx
  | succ i ih =>
    intro x hx
    rcases List.mem_append.1 hx with h | h
    · exact ih x h
    · exact part_lt _ _ _ x h
theorem shortK_shortK (k : List Nat) : shortK (shortK k) = shortK k := by
  have h := shortK_le k
  generalize shortK k = K at h
  unfold shortK
  rw [if_neg (by omega)]
theorem hmac_short (k t : List Nat) : hmac (shortK k) t = hmac k t := by unfold hmac; rw [shortK_shortK]
theorem part_short (k info : List Nat) (i : Nat) : part (shortK k) info i = part k info i := by
  induction i with
  | zero => rfl
  | succ i ih => rw [part, part, ih, hmac_short]
theorem parts_short (k info : List Nat) (i : Nat) : parts (shortK k) info i = parts k info i := by
  induction i with
  | zero => rfl
  | succ i ih => rw [parts, parts, ih, part_short]
theorem expand_length (k info : List Nat) (n : Nat) : (expand k info n).length = n := by
  unfold expand; rw [List.length_take, parts_length]; omega
theorem expand_lt (k info : List Nat) (n : Nat) : ∀ x ∈ expand k info n, x < 256 := fun x hx => parts_lt _ _ _ x (List.mem_of_mem_take hx)
theorem parts_more (k info : List Nat) (i j : Nat) : (parts k info (i + j)).take (32 * i) = parts k info i := by
  induction j with
  | zero => rw [Nat.add_zero, List.take_of_length_le (by rw [parts_length]; omega)]
  | succ j ih => rw [← Nat.add_assoc, parts, List.take_append_of_le_length (by rw [parts_length]; omega), ih]
/-- More of them begin with fewer. -/
theorem expand_take (k info : List Nat) (n m : Nat) (h : n ≤ m) : (expand k info m).take n = expand k info n := by
  unfold expand
  rw [List.take_take, Nat.min_eq_left h, ← parts_more k info ((n + 31) / 32) ((m + 31) / 32 - (n + 31) / 32), List.take_take, Nat.min_eq_left (by omega), show (n + 31) / 32 + ((m + 31) / 32 - (n + 31) / 32) = (m + 31) / 32 from by omega]
/-- How many there are of n bytes. -/
def clamp (n : Int) : Nat := if n < 0 then 0 else if 8160 < n then 8160 else n.toNat
end Sx

theorem strs_three (w : World) (x y z : List Nat) (t : TypeId) : Strs (w.alloc (.cells #[.string (str x), .string (str y), .string (str z)] t)) (some ⟨w.heap.size, 0, none⟩) [x, y, z] := by
  intro i hi
  obtain rfl | rfl | rfl : i = 0 ∨ i = 1 ∨ i = 2 := by simp at hi; omega
  all_goals exact ⟨_, _, rfl, cell_of_row _ _ _ _ _ _ (heap_alloc_new _ _)⟩

theorem strCells_str (l : List Nat) (h : ∀ x ∈ l, x < 256) : Lib.strCells (str l) = (ints .u8 l).toList := by
  unfold Lib.strCells str ints
  simp only [List.map_map]
  apply List.map_congr_left
  intro x hx
  simp [Nat.mod_eq_of_lt (h x hx)]

/-- append(s, text...), s the call's own. -/
theorem wpList_appT {w : World} {ops : Array Oper} {rest : List Oper} {o : Oper} {a : Act} {Q : Exit → Act → World → Prop} (hgd : o.guard = none) (s x : Operand)
    (ho : o.op = .call { callee := .builtin .append, args := #[s, x], argTypes := #[47, 9] })
    (base : Nat) (v : Value) (l : List Nat) (hs : a.eval s = v) (hown : Own w base v l) (t : List Nat) (ht : ∀ y ∈ t, y < 256) (hx : a.eval x = .string (str t))
    (hlen : l.length + t.length ≤ 1000000000000) (hbase : base ≤ w.heap.size)
    (h : ∀ v' w', Own w' base v' (l ++ t) → Below base w w' → wpList Tryd.prog ops Q rest (a.put o.dst v') w') : wpList Tryd.prog ops Q (o :: rest) a w := by
  obtain ⟨i, hi, hz0, hz1, hz2⟩ := info_parts info5
  refine Lib.wpList_append_own_string w hgd s x 47 9 ho base 5 i Tryd.underlying47 Tryd.underlying9 hi hz0 hz1 hz2 v l.length _ hs hown (str t) hx (by rw [str_size]; unfold maxLen; omega) (by rw [str_size]; omega) hbase ?_
  intro v' w' h2 h3 _
  refine h v' w' ?_ ((Below.refl base w).grown h3 hbase ?_)
  · unfold Own
    rw [List.length_append]
    have e : (ints .u8 (l ++ t)).toList = (ints .u8 l).toList ++ (ints .u8 t).toList := by simp [ints]
    rw [e, ← strCells_str t ht]
    rwa [str_size] at h2
  · intro k hk
    obtain ⟨_, h2' | ⟨g, cap, cur, hv, hg, _⟩⟩ := hown
    · rw [h2'.1] at hk; cases hk
    · rw [hv] at hk; simp only [Value.ownBlock, Option.some.injEq] at hk; omega

/-- len(s), s the call's own. -/
theorem own_len {w : World} {base : Nat} {v : Value} {l : List Nat} (h : Own w base v l) : ∀ wx : World, (Builtin.len_ #[47] 3 #[v]).run Tryd.prog wx = .ok (.int .i64 (l.length : Int)) wx := by
  obtain ⟨h1, ⟨hv, h0⟩ | ⟨g, cap, cur, hv, hg, hh, hn', hcm, hs, hc⟩⟩ := h
  · subst hv
    have hl : l = [] := List.eq_nil_of_length_eq_zero h0
    subst hl
    intro wx; kernel_rfl
  · subst hv
    intro wx
    simp [Builtin.len_, go_sem]
/-- s[:n] of bytes of the call's own, as a text. -/
theorem own_cut {w : World} {base : Nat} {v : Value} {l : List Nat} (h : Own w base v l) (n : Nat) (hn : n ≤ l.length) :
    ∃ v2, (Instr.sliceAt 47 v none (some (.int .i64 (n : Int))) none).run Tryd.prog w = .ok v2 w ∧ (convert 47 9 v2).run Tryd.prog w = .ok (.string (str (l.take n))) w := by
  obtain ⟨h1, ⟨hv, h0⟩ | ⟨g, cap, cur, hv, hg, hh, hn', hcm, hs, hc⟩⟩ := h
  · subst hv
    have hl : l = [] := List.eq_nil_of_length_eq_zero h0
    subst hl
    obtain rfl : n = 0 := by simpa using hn
    exact ⟨.slice none 0 0, by kernel_rfl, run_ownstr (Own.nil w base)⟩
  · subst hv
    refine ⟨.slice (some ⟨g, 0, none⟩) n cap, ?_, ?_⟩
    · have hle : (n : Int) ≤ (cap : Int) := by omega
      rw [run_sliceAt_slice w 47 _ _ _ _ (by kernel_rfl), run_slice_h w 47 _ _ _ (by kernel_rfl) .i64 (n : Int) (by omega) hle]
      have e1 : (sizeOf (Tryd.prog.elem 47)).run Tryd.prog w = .ok 1 w := by kernel_rfl
      rw [e1]
      simp [sliced, Result.andThen, Addr.add_mid]
    · have := run_ownstr (w := w) (base := base) (v := .slice (some ⟨g, 0, none⟩) n cap) (l := l.take n) ⟨by simp [ints], Or.inr ⟨g, cap, cur, by simp [Nat.min_eq_left hn], hg, hh, by simp; omega, hcm, hs, ?_⟩⟩
      · exact this
      · have e : (ints .u8 (l.take n)).toList = (ints .u8 l).toList.take n := by simp [ints, List.map_take]
        rw [e, ← hc, List.take_take, List.length_take, Nat.min_eq_left hn]
        congr 1
        omega

namespace Sx
theorem clamp_le (n : Int) : clamp n ≤ 8160 := by unfold clamp; split <;> (try split) <;> omega
theorem clamp_eq (n : Int) : (if (0 : Int) < (if 8160 < n then 8160 else n) then (if 8160 < n then 8160 else n) else 0) = ((clamp n : Nat) : Int) := by
  unfold clamp
  by_cases h : n < 0
  · rw [if_neg (show ¬ 8160 < n by omega), if_neg (by omega), if_pos h]; rfl
  · by_cases h2 : 8160 < n
    · rw [if_pos h2, if_pos (by omega), if_neg h, if_pos h2]; rfl
    · rw [if_neg h2, if_neg h, if_neg h2]; split <;> omega
end Sx

set_option maxHeartbeats 1000000 in
theorem refexp_any (k f : List Nat) (n : Int) (hk : ∀ x ∈ k, x < 256) (hkl : k.length ≤ 1000000) (hf : ∀ x ∈ f, x < 256) (hfl : f.length ≤ 1000000) (w : World) :
    Calls Tryd.prog 30 #[.string (str k), .string (str f), .int .i64 n] w fun e w' => e = .returned (.string (str (Sx.expand k f (Sx.clamp n)))) ∧ Below w.heap.size w w' := by
  have hcl := Sx.clamp_le n
  have hmx := Sx.clamp_eq n
  generalize hmn : (if 8160 < n then 8160 else n) = n1 at *
  generalize hN : Sx.clamp n = N at *
  have HF := hid hf
  have HM := hid (fun t ht htl wx => refmac_any k t hk hkl ht htl wx)
  have hzf : (str f).size = f.length := str_size f
  clear hN hf hk
  obtain ⟨F, hFe⟩ : ∃ F, F = str f := ⟨_, rfl⟩
  rw [← hFe] at hzf ⊢
  have hzF : F.size ≤ 1000000 := by omega
  have HFE := hid hFe
  clear hFe hzf
  go_enter Tryd.func30, Tryd.ntmps30
  go_upto_region 5 with (fail)
  clear hmx hmn
  go_loopw [7, 8, 9] (fun o l i wr => ∃ j : Nat, j ≤ (N + 31) / 32 ∧ i = .int .i64 ((j : Int) + 1) ∧ o = .string (str (Sx.parts k f j)) ∧ l = .string (str (Sx.part k f j)) ∧ Below w.heap.size w wr)
    (fun _ _ i _ => 300 - (intOf i).toNat)
  case atStart => exact ⟨0, by omega, rfl, rfl, rfl, Below.refl _ _⟩
  case round =>
    obtain ⟨j, hj, rfl, rfl, rfl, hbel⟩ := hrel
    have hpz : (str (Sx.parts k f j)).size = 32 * j := by rw [str_size, Sx.parts_length]
    by_cases hlt : j < (N + 31) / 32
    · have hj255 : j < 255 := by omega
      have hlN : (32 * j : Int) < (N : Int) := by omega
      have hlz : (str (Sx.part k f j)).size ≤ 32 := by rw [str_size]; exact Sx.part_le k f j
      have hb1 : ∀ x ∈ Sx.part k f j ++ f ++ [j + 1], x < 256 := by
        intro x hx
        rcases List.mem_append.1 hx with h | h
        · rcases List.mem_append.1 h with h | h
          · exact Sx.part_lt _ _ _ x h
          · exact HF.out x h
        · simp at h; omega
      have HC := hid (fun wx => HM.out (Sx.part k f j ++ f ++ [j + 1]) hb1 (by simp only [List.length_append, List.length_singleton]; have := Sx.part_le k f j; omega) wx)
      have HP : Hid (Sx.hmac k (Sx.part k f j ++ f ++ [j + 1]) = Sx.part k f (j + 1)) := rfl
      rw [HP.out] at HC
      have he : str (Sx.part k f j) ++ F ++ str [j + 1] = str (Sx.part k f j ++ f ++ [j + 1]) := by rw [HFE.out, str_append, str_append]
      have HPS : Hid (str (Sx.parts k f j) ++ str (Sx.part k f (j + 1)) = str (Sx.parts k f (j + 1))) := by rw [str_append]; exact rfl
      have hz2 : (str (Sx.part k f (j + 1))).size = 32 := by rw [str_size, Sx.part_length]
      obtain ⟨v, hv⟩ : ∃ v, v = j + 1 := ⟨_, rfl⟩
      have hv2 : ((j : Int) + 1) % 256 = (v : Int) := by omega
      rw [← hv] at he HC HPS hz2
      have HV := hid hv
      have hc : ∀ wx : World, (convert 47 9 (.slice (some ⟨wx.heap.size, 0, none⟩) 1 1)).run Tryd.prog (wx.alloc (.cells #[.int .u8 ((j : Int) + 1)] 5)) = .ok (.string (str [v])) (wx.alloc (.cells #[.int .u8 ((j : Int) + 1)] 5)) := fun wx => by rw [hv]; exact one_str wx (j + 1)
      have hsv : (str [v]).size = 1 := rfl
      have HBL := hid hbel
      have hsz := hbel.size
      clear hb1 HP hbel hv HM
      generalize str (Sx.part k f j ++ f ++ [v]) = S4 at *
      generalize str (Sx.part k f j) = S1 at *
      generalize hS2 : str (Sx.part k f v) = S2 at *
      have HS2 := hid hS2
      clear hS2
      generalize str (Sx.parts k f j) = S3 at *
      generalize str [v] = S5 at *
      go_wp2_with fail
      refine (HC.out _).mono ?_
      rintro e w1 ⟨rfl, hb1⟩
      go_wp2_with fail
      go_roundw
      case rel =>
        have hv := HV.out
        subst hv
        first
          | exact ⟨j + 1, by omega, by go_num, by rw [HPS.out], by rw [HS2.out], (HBL.out.alloc hsz _).next (Nat.le_refl _) hb1⟩
          | ((repeat apply Exists.intro); refine ⟨?_, rfl⟩; exact ⟨j + 1, by omega, by go_num, by rw [HPS.out], by rw [HS2.out], (HBL.out.alloc hsz _).next (Nat.le_refl _) hb1⟩)
      case measure => simp [intOf]; omega
    · have hge : ¬ (32 * j : Int) < (N : Int) := by omega
      obtain rfl : j = (N + 31) / 32 := by omega
      have hex : (str (Sx.parts k f ((N + 31) / 32))).extract 0 N = str (Sx.expand k f N) := by
        have := extract_mid (Sx.parts k f ((N + 31) / 32)) (Sx.parts_lt k f _) 0 N
        rw [Nat.zero_add] at this
        rw [this]; rfl
      have hNle : (N : Int) ≤ ((str (Sx.parts k f ((N + 31) / 32))).size : Int) := by rw [hpz]; omega
      have HBL := hid hbel
      clear hbel
      generalize str (Sx.parts k f ((N + 31) / 32)) = S3 at *
      go_wp2_with fail
      go_ret
      exact ⟨rfl, HBL.out⟩

theorem extract_any (k t : List Nat) (hk : ∀ x ∈ k, x < 256) (hkl : k.length ≤ 1000000) (ht : ∀ x ∈ t, x < 256) (htl : t.length ≤ 100000000) (w : World) (hT : Tabs w) :
    Calls Tryd.prog 28 #[.string (str k), .string (str t)] w fun e w' => e = .returned (.string (str (Sx.hmac k t))) ∧ Below w.heap.size w w' := by
  have HC := hid (mac_any k hk hkl [t] (some ⟨w.heap.size, 0, none⟩) 1 (by simpa using ht) (w.alloc (.cells #[.string (str t)] 9)) (hT.below ((Below.refl _ _).alloc (Nat.le_refl _) _) (Nat.le_refl _)) (strs_one w t 9) (by simp; omega) (by simp))
  simp only [List.flatten_cons, List.flatten_nil, List.append_nil, List.length_singleton] at HC
  have HD := hid (show (Sx.hmac k t).length = 32 from digest_length _)
  generalize Sx.hmac k t = R at *
  generalize str k = K at *
  generalize str t = T at *
  go_enter Tryd.func28, Tryd.ntmps28
  go_wp2_with fail
  refine HC.out.mono ?_
  rintro e w1 ⟨rfl, hb1⟩
  go_wp2_with fail
  refine (mtext_any R HD.out _).mono ?_
  rintro e w2 ⟨rfl, hb2⟩
  go_wp2_with fail
  go_ret
  exact ⟨rfl, (((Below.refl _ _).alloc (Nat.le_refl _) _).next (Nat.le_refl _) hb1).next (Nat.le_refl _) hb2⟩

set_option maxHeartbeats 1000000 in
theorem exp_any (k f : List Nat) (n : Int) (hk : ∀ x ∈ k, x < 256) (hkl : k.length ≤ 1000000) (hf : ∀ x ∈ f, x < 256) (hfl : f.length ≤ 1000000) (w : World) (hT : Tabs w) :
    Calls Tryd.prog 31 #[.string (str k), .string (str f), .int .i64 n] w fun e w' => e = .returned (.string (str (Sx.expand k f (Sx.clamp n)))) ∧ Below w.heap.size w w' := by
  have hcl := Sx.clamp_le n
  have hmx := Sx.clamp_eq n
  generalize hmn : (if 8160 < n then 8160 else n) = n1 at *
  generalize hN : Sx.clamp n = N at *
  have HF := hid hf
  have HT := hid hT
  have HSH := hid (short_any k hk hkl w hT)
  have HM := hid (fun L ao cap hl wx hTx hA hlen => mac_any (Sx.shortK k) (shortK_lt k hk) (by have := shortK_le k; omega) L ao cap hl wx hTx hA hlen)
  clear hN hf hk hT
  generalize str k = SK0 at *
  go_enter Tryd.func31, Tryd.ntmps31
  go_wp2_with fail
  refine HSH.out.mono ?_
  rintro e w0 ⟨rfl, hb0⟩
  clear HSH
  have HB0 := hid hb0
  clear hb0
  generalize hSK : str (Sx.shortK k) = SK at *
  generalize hSF : str f = SF at *
  have HSK := hid hSK
  have HSF := hid hSF
  clear hSK hSF
  go_upto_region 6 with (fail)
  clear hmx hmn
  go_loopw [7, 8, 9] (fun o l i wr => ∃ j : Nat, j ≤ (N + 31) / 32 ∧ i = .int .i64 ((j : Int) + 1) ∧ Own wr w.heap.size o (Sx.parts k f j) ∧ l = .string (str (Sx.part k f j)) ∧ Below w.heap.size w wr)
    (fun _ _ i _ => 300 - (intOf i).toNat)
  case atStart => exact ⟨0, by omega, rfl, Own.nil _ _, rfl, HB0.out⟩
  case round =>
    obtain ⟨j, hj, rfl, hown, rfl, hbel⟩ := hrel
    have hpz := Sx.parts_length k f j
    have hol := own_len hown
    rw [hpz] at hol
    by_cases hlt : j < (N + 31) / 32
    · have hj255 : j < 255 := by omega
      have hlN : ((32 * j : Nat) : Int) < (N : Int) := by omega
      have hlz : (str (Sx.part k f j)).size ≤ 32 := by rw [str_size]; exact Sx.part_le k f j
      have hb1 : ∀ x ∈ ([Sx.part k f j, f, [j + 1]] : List (List Nat)).flatten, x < 256 := by
        intro x hx
        simp only [List.flatten_cons, List.flatten_nil, List.append_nil, List.mem_append, List.mem_singleton] at hx
        rcases hx with h | h | h
        · exact Sx.part_lt _ _ _ x h
        · exact HF.out x h
        · omega
      have hfl2 : ([Sx.part k f j, f, [j + 1]] : List (List Nat)).flatten = Sx.part k f j ++ f ++ [j + 1] := by simp
      have hl1 : ([Sx.part k f j, f, [j + 1]] : List (List Nat)).flatten.length ≤ 1000000000 := by
        rw [hfl2]; simp only [List.length_append, List.length_singleton]; have := Sx.part_le k f j; omega
      have HP : Hid (Sx.hmac (Sx.shortK k) (Sx.part k f j ++ f ++ [j + 1]) = Sx.part k f (j + 1)) := by rw [Sx.hmac_short]; exact rfl
      have hTr := HT.out.below hbel (Nat.le_refl _)
      have hbA : Below wr.heap.size wr ((wr.alloc (.cells #[.int .u8 ((j : Int) + 1)] 5)).alloc (.cells #[.string (str (Sx.part k f j)), .string (str f), .string (str [j + 1])] 9)) :=
        ((Below.refl _ _).alloc (Nat.le_refl _) _).alloc (by simp) _
      have hst := strs_three (wr.alloc (.cells #[.int .u8 ((j : Int) + 1)] 5)) (Sx.part k f j) f [j + 1] 9
      rw [show (wr.alloc (.cells #[.int .u8 ((j : Int) + 1)] 5)).heap.size = wr.heap.size + 1 from by simp] at hst
      have HC := hid (HM.out [Sx.part k f j, f, [j + 1]] (some ⟨wr.heap.size + 1, 0, none⟩) 3 hb1 _ (hTr.below hbA (Nat.le_refl _)) hst hl1 (by simp))
      rw [hfl2, HP.out] at HC
      have HBA := hid hbA
      have HD := hid (Sx.part_length k f j)
      have HPB := hid (Sx.part_lt k f (j + 1))
      have HPS : Hid (Sx.parts k f j ++ Sx.part k f (j + 1) = Sx.parts k f (j + 1)) := rfl
      have hz2 : (str (Sx.part k f (j + 1))).size = 32 := by rw [str_size, Sx.part_length]
      obtain ⟨v, hv⟩ : ∃ v, v = j + 1 := ⟨_, rfl⟩
      have hc : ∀ wx : World, (convert 47 9 (.slice (some ⟨wx.heap.size, 0, none⟩) 1 1)).run Tryd.prog (wx.alloc (.cells #[.int .u8 ((j : Int) + 1)] 5)) = .ok (.string (str [v])) (wx.alloc (.cells #[.int .u8 ((j : Int) + 1)] 5)) := fun wx => by rw [hv]; exact one_str wx (j + 1)
      rw [← hv] at HC HBA HD HPS hz2 HPB
      have HV := hid hv
      have HBL := hid hbel
      have HOW := hid hown
      have hsz := hbel.size
      have HPL := hid hpz
      have HSF' := HSF.out
      rw [HSF'] at HC
      simp only [List.length_cons, List.length_nil, Nat.zero_add, Nat.reduceAdd] at HC
      rw [HSF'] at HBA
      clear hbel hv hown hpz hb1 hfl2 hl1 HP hTr hbA hst HM HSF'
      generalize str (Sx.part k f j) = S1 at *
      generalize str [v] = S5 at *
      generalize hR : Sx.part k f v = R at *
      have HR := hid hR
      clear hR
      go_wp2_with fail
      refine HC.out.mono ?_
      rintro e w1 ⟨rfl, hb1⟩
      go_wp2_with fail
      refine (mtext_any R HD.out _).mono ?_
      rintro e w2 ⟨rfl, hb2⟩
      have HB12 := hid ((HBA.out.next (Nat.le_refl _) hb1).next (Nat.le_refl _) hb2)
      clear HBA HC hb1 hb2
      go_wp2_with (refine wpList_appT rfl _ _ rfl w.heap.size _ (Sx.parts k f j) rfl (HOW.out.below HB12.out) R HPB.out rfl (by rw [HPL.out, HD.out]; omega) (by have := HB12.out.size; omega) ?_; intro v' w' hown' hbel')
      go_roundw
      case rel =>
        rw [HPS.out] at hown'
        have hv := HV.out
        subst hv
        first
          | exact ⟨j + 1, by omega, by go_num, hown', by rw [HR.out], (HBL.out.next (Nat.le_refl _) HB12.out).trans hbel'⟩
          | ((repeat apply Exists.intro); refine ⟨?_, rfl⟩; exact ⟨j + 1, by omega, by go_num, hown', by rw [HR.out], (HBL.out.next (Nat.le_refl _) HB12.out).trans hbel'⟩)
      case measure => simp [intOf]; omega
    · have hge : ¬ ((32 * j : Nat) : Int) < (N : Int) := by omega
      obtain rfl : j = (N + 31) / 32 := by omega
      obtain ⟨v2, hs1, hs2⟩ := own_cut hown N (by rw [hpz]; omega)
      rw [show List.take N (Sx.parts k f ((N + 31) / 32)) = Sx.expand k f N from rfl] at hs2
      have HBL := hid hbel
      clear hbel hown hpz
      go_wp2_with fail
      go_ret
      exact ⟨rfl, HBL.out⟩

theorem derive_any (s k f : List Nat) (n : Int) (hs : ∀ x ∈ s, x < 256) (hsl : s.length ≤ 1000000) (hk : ∀ x ∈ k, x < 256) (hkl : k.length ≤ 1000000) (hf : ∀ x ∈ f, x < 256) (hfl : f.length ≤ 1000000) (w : World) (hT : Tabs w) :
    Calls Tryd.prog 29 #[.string (str s), .string (str k), .string (str f), .int .i64 n] w fun e w' => e = .returned (.string (str (Sx.expand (Sx.hmac s k) f (Sx.clamp n)))) ∧ Below w.heap.size w w' := by
  have HT := hid hT
  have HE := hid (extract_any s k hs hsl hk (by omega) w hT)
  have HD := hid (show (Sx.hmac s k).length = 32 from digest_length _)
  have HX := hid (fun wx hTx => exp_any (Sx.hmac s k) f n (digest_lt _) (by rw [HD.out]; omega) hf hfl wx hTx)
  generalize Sx.expand (Sx.hmac s k) f (Sx.clamp n) = R at *
  generalize str (Sx.hmac s k) = H at *
  generalize str s = S at *
  generalize str k = K at *
  generalize str f = F at *
  clear hT
  go_enter Tryd.func29, Tryd.ntmps29
  go_wp2_with fail
  refine HE.out.mono ?_
  rintro e w1 ⟨rfl, hb1⟩
  go_wp2_with fail
  refine (HX.out _ (HT.out.below hb1 (Nat.le_refl _))).mono ?_
  rintro e w2 ⟨rfl, hb2⟩
  go_wp2_with fail
  go_ret
  exact ⟨rfl, hb1.next (Nat.le_refl _) hb2⟩
end Go.Proofs.YtnhebfafiikilaaDoor
