/-
  Layer 6: what wire.Out's Num writes.
-/
import Derived.Test.YtlfjhpmachblkaaWire1
namespace Go.Proofs.Ytlfjhpmachblkaa
open Go.RowKit
open Go.Lib (hid)

namespace Wx
/-- The eight bytes of a number, the greatest first. -/
def num8 (v : Nat) : List Nat := (List.range 8).map fun i => v / 2 ^ (8 * (7 - i)) % 256
theorem num8_length (v : Nat) : (num8 v).length = 8 := by simp [num8]
theorem num8_lt (v : Nat) : ∀ x ∈ num8 v, x < 256 := by
  intro x hx
  simp only [num8, List.mem_map] at hx
  obtain ⟨i, _, rfl⟩ := hx
  omega
theorem num8_get (v i : Nat) (h : i < 8) : (num8 v).getD i 0 = v / 2 ^ (8 * (7 - i)) % 256 := by
  simp [num8, List.getD_eq_getElem?_getD, h]
/-- The bytes of numbers, a negative one's as of nought. -/
def nums8 (L : List Int) : List Nat := (L.map fun n => num8 n.toNat).flatten
theorem nums8_length (L : List Int) : (nums8 L).length = 8 * L.length := by
  induction L with
  | nil => rfl
  | cons a l ih => simp only [nums8, List.map_cons, List.flatten_cons, List.length_append, num8_length, List.length_cons] at ih ⊢; omega
theorem nums8_lt (L : List Int) : ∀ x ∈ nums8 L, x < 256 := by
  intro x hx
  simp only [nums8, List.mem_flatten, List.mem_map] at hx
  obtain ⟨l, ⟨n, _, rfl⟩, hx⟩ := hx
  exact num8_lt _ x hx
theorem nums8_succ (L : List Int) (k : Nat) (h : k < L.length) : nums8 (L.take k) ++ num8 (L.getD k 0).toNat = nums8 (L.take (k + 1)) := by
  rw [List.take_succ_eq_append_getElem h]
  simp only [nums8, List.map_append, List.flatten_append, List.map_cons, List.map_nil, List.flatten_cons, List.flatten_nil, List.append_nil]
  rw [List.getD_eq_getElem?_getD, List.getElem?_eq_getElem h, Option.getD_some]
end Wx

/-- No byte yet, room for n. -/
theorem run_made0 (n : Nat) (hn : n ≤ 1000000) (w : World) : (Instr.makeSlice 94 (.int .i64 0) (.int .i64 (n : Int))).run Try.prog w = .ok (.slice (some ⟨w.heap.size, 0, none⟩) 0 n) (w.alloc (.cells (ints .u8 (List.replicate n 0)) 5)) := by
  obtain ⟨i, hi, hz0, hz1, hz2⟩ := info_parts info5
  have h := run_make (P := Try.prog) w 94 5 i (.int .u8 0) Try.underlying94 hi hz0 .i64 .i64 0 n (by omega) (by omega) (by rw [hz2]; omega) (by omega)
  rw [h, hz1]
  have e : madeCells (Value.int .u8 0).cells (n * 1) = ints .u8 (List.replicate n 0) := by
    apply Array.ext
    · simp [madeCells, ints]
    · intro i h1 h2
      simp [madeCells, ints, Value.cells, Nat.mod_one]
  simp only [Int.toNat_natCast, e]
  rfl

set_option maxHeartbeats 1000000 in
set_option maxRecDepth 100000 in
theorem onum_any (o : Nat) (x : List Nat) (ao : Option Addr) (cap : Nat) (L : List Int) (w : World) (h : OutAt w o x) (hA : IntsB w ao L) (hL : L.length ≤ 1000) (hb : ∀ n ∈ L, n ≤ 9223372036854775807) (hl : x.length ≤ 100000000000) :
    Calls Try.prog 42 #[.pointer (some ⟨o, 0, none⟩), .slice ao L.length cap] w fun e w' => e = .returned (.pointer (some ⟨o, 0, none⟩)) ∧ OutAt w' o (x ++ Wx.nums8 L) ∧ KeptB o w w' := by
  have HO := hid h
  have HA := hid hA
  have HB := hid hb
  clear h hA hb
  have hmk := fun wx => run_made0 (8 * L.length) (by omega) wx
  rw [show ((8 * L.length : Nat) : Int) = 8 * (L.length : Int) from by omega] at hmk
  go_enter Try.func42, Try.ntmps42
  go_upto_region 3 with (fail)
  clear hmk
  have hsz0 := HO.out.lt
  have HOW := hid (Own.made w w.heap.size (8 * L.length) (Nat.le_refl _) (by omega))
  have HB0 := hid (show Below w.heap.size w (w.alloc (.cells (ints .u8 (List.replicate (8 * L.length) 0)) 5)) from (Below.refl _ _).alloc (Nat.le_refl _) _)
  generalize w.alloc _ = w0 at *
  go_loopw [5, 16] (fun v i wr => ∃ k : Nat, k ≤ L.length ∧ i = .int .i64 k ∧ Own wr w.heap.size v (Wx.nums8 (L.take k)) ∧ Below w.heap.size w wr)
    (fun _ i _ => L.length - (intOf i).toNat)
  case atStart => exact ⟨0, by omega, rfl, HOW.out, HB0.out⟩
  case round =>
    clear HOW HB0
    obtain ⟨k, hk, rfl, hown, hbel⟩ := hrel
    by_cases hlt : k < L.length
    · obtain ⟨sb, so, hao, hc⟩ := HA.out.below hbel k hlt
      have hm0 := HB.out (L.getD k 0) (by rw [List.getD_eq_getElem?_getD, List.getElem?_eq_getElem hlt, Option.getD_some]; exact List.getElem_mem hlt)
      have HNX := hid (Wx.nums8_succ L k hlt)
      have HPL := hid (show (Wx.nums8 (L.take k)).length = 8 * k from by rw [Wx.nums8_length, List.length_take]; omega)
      have HOWN := hid hown
      have HBEL := hid hbel
      have hsz := hbel.size
      clear hown hbel
      subst hao
      generalize L.getD k 0 = q at *
      obtain ⟨v, hv⟩ : ∃ v : Nat, max 0 q = (v : Int) := ⟨q.toNat, by omega⟩
      have hv2 : q.toNat = v := by omega
      have hv3 : (v : Int) % 18446744073709551616 = (v : Int) := by omega
      rw [hv2] at HNX
      have hv4 : (if (0 : Int) < q then q else 0) = (v : Int) := by split <;> omega
      have hv5 : (if q < 0 then (0 : Int) else q) = (v : Int) := by split <;> omega
      have hv6 : (if q ≤ 0 then (0 : Int) else q) = (v : Int) := by split <;> omega
      have hv7 : (if 0 ≤ q then q else 0) = (v : Int) := by split <;> omega
      clear hm0 hv2
      generalize Wx.nums8 (L.take k) = pre at *
      go_upto_region 7 with (fail)
      clear hv hc hv3 hv4 hv5 hv6 hv7
      go_loopw [5, 23] (fun u i wq => ∃ n : Nat, n ≤ 8 ∧ i = .int .i64 n ∧ Own wq w.heap.size u (pre ++ (Wx.num8 v).take n) ∧ Below w.heap.size w wq)
        (fun _ i _ => 8 - (intOf i).toNat)
      case atStart => exact ⟨0, by omega, rfl, by rw [List.take_zero, List.append_nil]; exact HOWN.out, HBEL.out⟩
      case round =>
        clear HOWN HBEL
        obtain ⟨n, hn, rfl, hown, hbel⟩ := hrel
        by_cases hlt2 : n < 8
        · obtain ⟨m, hm⟩ : ∃ m : Nat, m = 7 - n := ⟨_, rfl⟩
          have h7 : 7 - (n : Int) = (m : Int) := by omega
          have hmm : m ≤ 7 := by omega
          have hsh : (v : Int) / 2 ^ (8 * m) % 256 = ((v / 2 ^ (8 * m) % 256 : Nat) : Int) := by simp
          have HGT := hid (show (Wx.num8 v).getD n 0 = v / 2 ^ (8 * m) % 256 from by rw [hm]; exact Wx.num8_get v n hlt2)
          have HTL := hid (show (pre ++ (Wx.num8 v).take n).length = 8 * k + n from by rw [List.length_append, HPL.out, List.length_take, Wx.num8_length]; omega)
          have HTS := hid (take_getD_succ (Wx.num8 v) n (by rw [Wx.num8_length]; exact hlt2))
          rw [HGT.out] at HTS
          have HOWN := hid hown
          have HBEL := hid hbel
          have hsz2 := hbel.size
          clear hown hbel hm
          generalize v / 2 ^ (8 * m) % 256 = z at *
          go_wp2_with (refine wpList_app rfl _ _ rfl w.heap.size _ (pre ++ (Wx.num8 v).take n) rfl (HOWN.out.below ((Below.refl _ _).alloc (Nat.le_refl _) _)) _ 1 1 [z] rfl rfl (cells_one wr z _) (by rw [HTL.out]; omega) (by simp; omega) ?_; intro v' w' hown' hbel')
          go_roundw
          case rel =>
            rw [List.append_assoc, HTS.out] at hown'
            first
              | exact ⟨n + 1, by omega, by go_num, hown', (HBEL.out.alloc HBEL.out.size _).trans hbel'⟩
              | ((repeat apply Exists.intro); refine ⟨?_, rfl⟩; exact ⟨n + 1, by omega, by go_num, hown', (HBEL.out.alloc HBEL.out.size _).trans hbel'⟩)
          case measure => simp [intOf]; omega
        · obtain rfl : n = 8 := by omega
          rw [List.take_of_length_le (by rw [Wx.num8_length]; omega), HNX.out] at hown
          have HOWN := hid hown
          have HBEL := hid hbel
          clear hown hbel
          rw [show ((8 : Nat) : Int) = 8 from rfl]
          go_wp2
          exact ⟨⟨k + 1, by omega, by go_num, HOWN.out, HBEL.out⟩, by simp [intOf]; omega⟩
    · obtain rfl : k = L.length := by omega
      rw [List.take_length] at hown
      have hcv := run_ownstr hown
      have hzn := Wx.nums8_length L
      have HAD := hid (oadd_any o x (Wx.nums8 L) wr (HO.out.below hbel) (by omega))
      have HBEL := hid hbel
      clear hown hbel hzn
      generalize str (Wx.nums8 L) = SN at *
      go_wp2_with (go_at_call 52; refine HAD.out.mono ?_; rintro e w5 ⟨rfl, ho5, hk5⟩)
      go_ret
      exact ⟨rfl, ho5, (KeptB.of_below HBEL.out).trans hk5⟩
end Go.Proofs.Ytlfjhpmachblkaa
