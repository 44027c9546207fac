/-
  Layer 6: what wire.Out's Fixed, Raw and Text write.
-/
import Derived.Test.YtlehhalakjjnkaaWire3
import Derived.Test.YtlehhalakjjnkaaShelf
namespace Go.Proofs.Ytlehhalakjjnkaa
open Go.RowKit
open Go.Lib (hid)

namespace Wx
/-- The first k bytes, filled with noughts. -/
def fix (s : List Nat) (k : Nat) : List Nat := s.take k ++ List.replicate (k - s.length) 0
theorem fix_length (s : List Nat) (k : Nat) : (fix s k).length = k := by simp [fix]; omega
theorem fix_lt (s : List Nat) (k : Nat) (h : ∀ x ∈ s, x < 256) : ∀ x ∈ fix s k, x < 256 := by
  intro x hx
  rcases List.mem_append.1 hx with h1 | h1
  · exact h x (List.mem_of_mem_take h1)
  · rw [List.mem_replicate] at h1; omega
end Wx
theorem rep_str (c : Nat) : (⟨(Lib.repeatL (⟨#[0]⟩ : ByteArray).data.toList c).toArray⟩ : ByteArray) = str (List.replicate c 0) := by
  unfold str
  congr 2
  induction c with
  | zero => rfl
  | succ n ih =>
    show [0] ++ Lib.repeatL [0] n = _
    rw [show Lib.repeatL [0] n = List.map UInt8.ofNat (List.replicate n 0) from ih]
    rfl

set_option maxHeartbeats 1000000 in
set_option maxRecDepth 100000 in
theorem ofixed_any (o : Nat) (x s : List Nat) (n : Int) (k : Nat) (w : World) (h : OutAt w o x) (hs : ∀ c ∈ s, c < 256) (hsl : s.length ≤ 1000000) (hk : max 0 (min n 4096) = (k : Int)) (hl : x.length ≤ 100000000000) :
    Calls Try.prog 18 #[.pointer (some ⟨o, 0, none⟩), .string (str s), .int .i64 n] w fun e w' => e = .returned (.pointer (some ⟨o, 0, none⟩)) ∧ OutAt w' o (x ++ Wx.fix s k) ∧ KeptB o w w' := by
  have hk1 : k ≤ 4096 := by omega
  have HO := hid h
  obtain ⟨m, hm⟩ : ∃ m, m = min k s.length := ⟨_, rfl⟩
  have hmin : min (k : Int) (s.length : Int) = (m : Int) := by omega
  have hz := str_size s
  have hex : (str s).extract 0 m = str (s.take m) := by
    have := extract_mid s hs 0 m
    rwa [Nat.zero_add, List.drop_zero] at this
  have hzt : (str (s.take m)).size = m := by rw [str_size, List.length_take]; omega
  obtain ⟨d, hd⟩ : ∃ d, d = k - m := ⟨_, rfl⟩
  have hsub : (k : Int) - (m : Int) = (d : Int) := by omega
  have hml : m ≤ s.length := by omega
  have hd1 : d ≤ 4096 := by omega
  have HRP := hid (fun wx => Try.strings_Repeat (⟨#[0]⟩ : ByteArray) d wx (by omega) (by show 1 * d ≤ _; omega))
  rw [rep_str] at HRP
  have hap := str_append (s.take m) (List.replicate d 0)
  have HFX := hid (show s.take m ++ List.replicate d 0 = Wx.fix s k from by
    unfold Wx.fix
    rw [hd, hm]
    by_cases h : k ≤ s.length
    · rw [Nat.min_eq_left h, Nat.sub_self, show k - s.length = 0 from by omega]
    · rw [Nat.min_eq_right (by omega), List.take_of_length_le (by omega), List.take_of_length_le (show s.length ≤ k by omega)])
  rw [HFX.out] at hap
  have hzr : (str (List.replicate d 0)).size = d := by rw [str_size, List.length_replicate]
  have HAD := hid (fun wx hx => oadd_any o x (Wx.fix s k) wx hx (by rw [Wx.fix_length]; omega))
  clear h hs hm hd
  generalize str (Wx.fix s k) = SF at *
  generalize str (s.take m) = ST at *
  generalize str (List.replicate d 0) = SR at *
  generalize str s = SS at *
  go_enter Try.func18, Try.ntmps18
  go_upto_region 3 with (fail)
  go_wp2_with (first
    | (go_at_call 28; refine (HRP.out _).mono ?_; rintro e w1 ⟨rfl, hb1⟩)
    | (go_at_call 27; refine (HAD.out _ (HO.out.below hb1)).mono ?_; rintro e w2 ⟨rfl, ho2, hk2⟩))
  go_ret
  exact ⟨rfl, ho2, (KeptB.of_below hb1).trans hk2⟩

theorem inter_nil : ∀ xs : List (List UInt8), ([] : List UInt8).intercalate xs = xs.flatten
  | [] => rfl
  | [a] => by simp [List.intercalate]
  | a :: b :: l => by
    have h := inter_nil (b :: l)
    simp only [List.intercalate, List.intersperse] at h ⊢
    simp only [List.flatten_cons, List.nil_append] at h ⊢
    rw [h]
theorem Strs.keptO {w w' : World} {o : Nat} {x : List Nat} {ao : Option Addr} {L : List (List Nat)} (h : Strs w ao L) (ho : OutAt w o x) (hk : KeptB o w w') : Strs w' ao L := by
  intro i hi
  obtain ⟨sb, so, ha, hc⟩ := h i hi
  refine ⟨sb, so, ha, ?_⟩
  obtain ⟨p, ts, hb, _⟩ := ho
  have hlt := block_lt_of_cell hc
  have hne : sb ≠ o := fun e => by
    subst e
    rw [Lib.cell_of_heap hb] at hc
    match so + i, hc with
    | 0, hc => exact absurd hc (by simp)
    | 1, hc => exact absurd hc (by simp)
    | _ + 2, hc => exact absurd hc (by simp)
  rw [← hc]
  simp only [World.cell?, hk.block sb hlt hne]

namespace Wx
/-- The bytes of texts, each behind its length. -/
def texts (L : List (List Nat)) : List Nat := (L.map fun s => num8 s.length ++ s).flatten
theorem texts_succ (L : List (List Nat)) (k : Nat) (h : k < L.length) : texts (L.take k) ++ (num8 (L.getD k []).length ++ L.getD k []) = texts (L.take (k + 1)) := by
  rw [List.take_succ_eq_append_getElem h]
  simp only [texts, List.map_append, List.flatten_append, List.map_cons, List.map_nil, List.flatten_cons, List.flatten_nil, List.append_nil]
  rw [List.getD_eq_getElem?_getD, List.getElem?_eq_getElem h, Option.getD_some]
theorem texts_le (L : List (List Nat)) : (texts L).length = 8 * L.length + L.flatten.length := by
  induction L with
  | nil => rfl
  | cons a l ih => simp only [texts, List.map_cons, List.flatten_cons, List.length_append, num8_length, List.length_cons] at ih ⊢; omega
theorem nums8_one (n : Nat) : nums8 [(n : Int)] = num8 n := by simp [nums8]
end Wx
theorem flat_take_le (L : List (List Nat)) (k : Nat) : (L.take k).flatten.length ≤ L.flatten.length := by
  conv => rhs; rw [← List.take_append_drop k L, List.flatten_append, List.length_append]
  omega
theorem flat_get_le (L : List (List Nat)) (k : Nat) : (L.getD k []).length ≤ L.flatten.length := by
  by_cases h : k < L.length
  · conv => rhs; rw [← List.take_append_drop k L, List.flatten_append, List.length_append, List.drop_eq_getElem_cons h, List.flatten_cons, List.length_append]
    rw [List.getD_eq_getElem?_getD, List.getElem?_eq_getElem h, Option.getD_some]
    omega
  · rw [List.getD_eq_getElem?_getD, List.getElem?_eq_none (by omega)]; simp
theorem ints_one_at (w : World) (n : Int) (t : TypeId) : IntsB (w.alloc (.cells #[.int .i64 n] t)) (some ⟨w.heap.size, 0, none⟩) [n] := by
  intro i hi
  obtain rfl : i = 0 := by simpa using hi
  exact ⟨_, _, rfl, cell_of_row _ _ _ _ _ _ (heap_alloc_new _ _)⟩

set_option maxHeartbeats 1000000 in
set_option maxRecDepth 100000 in
theorem otext_any (o : Nat) (x : List Nat) (ao : Option Addr) (cap : Nat) (L : List (List Nat)) (w : World) (h : OutAt w o x) (hA : Strs w ao L) (hL : L.length ≤ 1000) (hb : L.flatten.length ≤ 1000000) (hl : x.length ≤ 1000000000) :
    Calls Try.prog 16 #[.pointer (some ⟨o, 0, none⟩), .slice ao L.length cap] w fun e w' => e = .returned (.pointer (some ⟨o, 0, none⟩)) ∧ OutAt w' o (x ++ Wx.texts L) ∧ KeptB o w w' := by
  have HO := hid h
  have HA := hid hA
  clear h hA
  go_enter Try.func16, Try.ntmps16
  go_upto_region 2 with (fail)
  go_loopw [9] (fun i wr => ∃ k : Nat, k ≤ L.length ∧ i = .int .i64 k ∧ OutAt wr o (x ++ Wx.texts (L.take k)) ∧ KeptB o w wr)
    (fun i _ => L.length - (intOf i).toNat)
  case atStart => exact ⟨0, by omega, rfl, by rw [List.take_zero]; simpa [Wx.texts] using HO.out, KeptB.refl _ _⟩
  case round =>
    obtain ⟨k, hk, rfl, hout, hkept⟩ := hrel
    by_cases hlt : k < L.length
    · obtain ⟨sb, so, hao, hc⟩ := (HA.out.keptO HO.out hkept) k hlt
      subst hao
      have HNX := hid (show ((x ++ Wx.texts (L.take k)) ++ Wx.nums8 [((L.getD k []).length : Int)]) ++ L.getD k [] = x ++ Wx.texts (L.take (k + 1)) from by
        rw [Wx.nums8_one, List.append_assoc, List.append_assoc, Wx.texts_succ L k hlt])
      have hpl := Wx.texts_le (L.take k)
      have hf1 := flat_take_le L k
      have hf2 := flat_get_le L k
      rw [List.length_take] at hpl
      have hz := str_size (L.getD k [])
      have hpl2 : (x ++ Wx.texts (L.take k)).length ≤ 1010000000 := by rw [List.length_append]; omega
      generalize L.getD k [] = s at *
      generalize x ++ Wx.texts (L.take k) = pre at *
      have HNU := hid (onum_any o pre (some ⟨wr.heap.size, 0, none⟩) 1 [(s.length : Int)] (wr.alloc (.cells #[.int .i64 (s.length : Int)] 3)) (hout.below ((Below.refl _ _).alloc (Nat.le_refl _) _)) (ints_one_at wr _ _) (by simp) (by intro n hn; simp at hn; omega) (by omega))
      have HAD := hid (fun wx hx => oadd_any o (pre ++ Wx.nums8 [(s.length : Int)]) s wx hx (by rw [List.length_append, Wx.nums8_length]; simp; omega))
      have HKA := hid (show KeptB o wr (wr.alloc (.cells #[.int .i64 (s.length : Int)] 3)) from KeptB.of_below ((Below.refl _ _).alloc (Nat.le_refl _) _))
      have HK := hid hkept
      rw [show [(s.length : Int)].length = 1 from rfl] at HNU
      clear hout hkept hpl hf1 hf2 hpl2
      go_wp2_with (first
        | (go_at_call 26; refine HNU.out.mono ?_; rintro e w1 ⟨rfl, ho1, hk1⟩)
        | (go_at_call 27; refine (HAD.out _ ho1).mono ?_; rintro e w2 ⟨rfl, ho2, hk2⟩))
      go_roundw
      case rel =>
        rw [HNX.out] at ho2
        first
          | exact ⟨k + 1, by omega, by go_num, ho2, ((HK.out.trans HKA.out).trans hk1).trans hk2⟩
          | ((repeat apply Exists.intro); refine ⟨?_, rfl⟩; exact ⟨k + 1, by omega, by go_num, ho2, ((HK.out.trans HKA.out).trans hk1).trans hk2⟩)
      case measure => simp [intOf]; omega
    · obtain rfl : k = L.length := by omega
      rw [List.take_length] at hout
      have HOUT := hid hout
      have HK := hid hkept
      clear hout hkept
      go_wp2
      go_ret
      exact ⟨rfl, HOUT.out, HK.out⟩
end Go.Proofs.Ytlehhalakjjnkaa
