/-
  Layer 5: what aead.filling and aead.sizes return.
-/
import Derived.Test.YtgjkkcggcljcdaaDoorPolyA
import Derived.Test.YtgjkkcggcljcdaaDoorShelf
namespace Go.Proofs.YtgjkkcggcljcdaaDoor
open Go.RowKit
open Go.Lib (hid)

namespace Ax
/-- The noughts that make a text one of whole blocks. -/
def fill (s : List Nat) : List Nat := List.replicate ((16 - s.length % 16) % 16) 0
/-- A number in eight bytes, the lowest first. -/
def le8 (n : Nat) : List Nat := (List.range 8).map fun i => n / 2 ^ (8 * i) % 256
theorem le8_length (n : Nat) : (le8 n).length = 8 := by simp [le8]
theorem le8_lt (n : Nat) : ∀ x ∈ le8 n, x < 256 := by
  intro x hx
  simp only [le8, List.mem_map] at hx
  obtain ⟨i, _, rfl⟩ := hx
  omega
theorem le8_get (n i : Nat) (h : i < 8) : (le8 n).getD i 0 = n / 2 ^ (8 * i) % 256 := by
  simp [le8, List.getD_eq_getElem?_getD, h]
/-- The lengths of texts. -/
def sizes (L : List (List Nat)) : List Nat := (L.map fun s => le8 s.length).flatten
theorem sizes_length (L : List (List Nat)) : (sizes L).length = 8 * L.length := by
  induction L with
  | nil => rfl
  | cons a l ih => simp only [sizes, List.map_cons, List.flatten_cons, List.length_append, le8_length, List.length_cons] at ih ⊢; omega
theorem sizes_lt (L : List (List Nat)) : ∀ x ∈ sizes L, x < 256 := by
  intro x hx
  simp only [sizes, List.mem_flatten, List.mem_map] at hx
  obtain ⟨l, ⟨n, _, rfl⟩, hx⟩ := hx
  exact le8_lt _ x hx
theorem sizes_succ (L : List (List Nat)) (k : Nat) (h : k < L.length) : sizes (L.take k) ++ le8 (L.getD k []).length = sizes (L.take (k + 1)) := by
  rw [List.take_succ_eq_append_getElem h]
  simp only [sizes, List.map_append, List.flatten_append, List.map_cons, List.map_nil, List.flatten_cons, List.flatten_nil, List.append_nil]
  rw [List.getD_eq_getElem?_getD, List.getElem?_eq_getElem h, Option.getD_some]
end Ax
theorem rep_strA (c : Nat) : (⟨(Lib.repeatL (⟨#[0]⟩ : ByteArray).data.toList c).toArray⟩ : ByteArray) = str (List.replicate c 0) := by
  unfold str
  congr 2
  induction c with
  | zero => rfl
  | succ n ih =>
    show [0] ++ Lib.repeatL [0] n = _
    rw [show Lib.repeatL [0] n = List.map UInt8.ofNat (List.replicate n 0) from ih]
    rfl

set_option maxHeartbeats 1000000 in
set_option maxRecDepth 100000 in
theorem filling_any (s : List Nat) (hl : s.length ≤ 1000000) (w : World) :
    Calls Tryd.prog 59 #[.string (str s)] w fun e w' => e = .returned (.string (str (Ax.fill s))) ∧ Below w.heap.size w w' := by
  have hz := str_size s
  obtain ⟨c, hc⟩ : ∃ c, c = (16 - s.length % 16) % 16 := ⟨_, rfl⟩
  have HRP := hid (fun wx => Tryd.strings_Repeat (⟨#[0]⟩ : ByteArray) c wx (by omega) (by show 1 * c ≤ _; omega))
  rw [rep_strA] at HRP
  rw [show Ax.fill s = List.replicate c 0 from by rw [hc]; rfl]
  obtain ⟨m, hm⟩ : ∃ m, m = s.length % 16 := ⟨_, rfl⟩
  have hm16 : m < 16 := by omega
  have h1 : (s.length : Int).tmod 16 = (m : Int) := by rw [Int.tmod_eq_emod_of_nonneg (by omega)]; omega
  have h1' : (s.length : Int) % 16 = (m : Int) := by omega
  have h2 : (16 - (m : Int)).tmod 16 = (c : Int) := by rw [Int.tmod_eq_emod_of_nonneg (by omega)]; omega
  have h2' : (16 - (m : Int)) % 16 = (c : Int) := by omega
  clear hc hm
  generalize str (List.replicate c 0) = SR at *
  generalize str s = SS at *
  go_enter Tryd.func59, Tryd.ntmps59
  go_wp2_with (go_at_call 73; refine (HRP.out _).mono ?_; rintro e w1 ⟨rfl, hb1⟩)
  go_ret
  exact ⟨rfl, hb1⟩

set_option maxHeartbeats 1000000 in
set_option maxRecDepth 100000 in
theorem asizes_any (ao : Option Addr) (L : List (List Nat)) (cap : Nat) (w : World) (hA : Strs w ao L) (hL : L.length ≤ 1000) (hb : ∀ k, (L.getD k []).length ≤ 1000000) :
    Calls Tryd.prog 60 #[.slice ao L.length cap] w fun e w' => e = .returned (.string (str (Ax.sizes L))) ∧ Below w.heap.size w w' := by
  have HA := hid hA
  have HB := hid hb
  clear hA hb
  go_enter Tryd.func60, Tryd.ntmps60
  go_upto_region 3 with (fail)
  have HOW := hid (Own.nil w w.heap.size)
  go_loopw [3, 9] (fun v i wr => ∃ k : Nat, k ≤ L.length ∧ i = .int .i64 k ∧ Own wr w.heap.size v (Ax.sizes (L.take k)) ∧ Below w.heap.size w wr)
    (fun _ i _ => L.length - (intOf i).toNat)
  case atStart => exact ⟨0, by omega, rfl, HOW.out, Below.refl _ _⟩
  case round =>
    clear HOW
    obtain ⟨k, hk, rfl, hown, hbel⟩ := hrel
    by_cases hlt : k < L.length
    · obtain ⟨sb, so, hao, hc⟩ := HA.out.below hbel k hlt
      have hvl := HB.out k
      have HNX := hid (Ax.sizes_succ L k hlt)
      have HPL := hid (show (Ax.sizes (L.take k)).length = 8 * k from by rw [Ax.sizes_length, List.length_take]; omega)
      have hz := str_size (L.getD k [])
      have HOWN := hid hown
      have HBEL := hid hbel
      have hsz := hbel.size
      clear hown hbel
      subst hao
      generalize str (L.getD k []) = ST at *
      generalize (L.getD k []).length = v at *
      generalize Ax.sizes (L.take k) = pre at *
      have hv3 : (v : Int) % 18446744073709551616 = (v : Int) := by omega
      go_upto_region 6 with (fail)
      clear hc
      go_loopw [3, 13] (fun u i wq => ∃ n : Nat, n ≤ 8 ∧ i = .int .i64 n ∧ Own wq w.heap.size u (pre ++ (Ax.le8 v).take n) ∧ Below w.heap.size w wq)
        (fun _ i _ => 8 - (intOf i).toNat)
      case atStart => exact ⟨0, by omega, rfl, by rw [List.take_zero, List.append_nil]; exact HOWN.out, HBEL.out⟩
      case round =>
        clear HOWN HBEL
        obtain ⟨n, hn, rfl, hown, hbel⟩ := hrel
        by_cases hlt2 : n < 8
        · have hsh : (v : Int) / 2 ^ (8 * n) % 256 = ((v / 2 ^ (8 * n) % 256 : Nat) : Int) := by simp
          have HGT := hid (Ax.le8_get v n hlt2)
          have HTL := hid (show (pre ++ (Ax.le8 v).take n).length = 8 * k + n from by rw [List.length_append, HPL.out, List.length_take, Ax.le8_length]; omega)
          have HTS := hid (take_getD_succ (Ax.le8 v) n (by rw [Ax.le8_length]; exact hlt2))
          rw [HGT.out] at HTS
          have HOWN := hid hown
          have HBEL := hid hbel
          have hsz2 := hbel.size
          clear hown hbel
          generalize v / 2 ^ (8 * n) % 256 = z at *
          go_wp2_with (refine wpList_app rfl _ _ rfl w.heap.size _ (pre ++ (Ax.le8 v).take n) rfl (HOWN.out.below ((Below.refl _ _).alloc (Nat.le_refl _) _)) _ 1 1 [z] rfl rfl (cells_one wr z _) (by rw [HTL.out]; omega) (by simp; omega) ?_; intro v' w' hown' hbel')
          go_roundw
          case rel =>
            rw [List.append_assoc, HTS.out] at hown'
            first
              | exact ⟨n + 1, by omega, by go_num, hown', (HBEL.out.alloc HBEL.out.size _).trans hbel'⟩
              | ((repeat apply Exists.intro); refine ⟨?_, rfl⟩; exact ⟨n + 1, by omega, by go_num, hown', (HBEL.out.alloc HBEL.out.size _).trans hbel'⟩)
          case measure => simp [intOf]; omega
        · obtain rfl : n = 8 := by omega
          rw [List.take_of_length_le (by rw [Ax.le8_length]; omega), HNX.out] at hown
          have HOWN := hid hown
          have HBEL := hid hbel
          clear hown hbel
          rw [show ((8 : Nat) : Int) = 8 from rfl]
          go_wp2
          exact ⟨⟨k + 1, by omega, by go_num, HOWN.out, HBEL.out⟩, by simp [intOf]; omega⟩
    · obtain rfl : k = L.length := by omega
      rw [List.take_length] at hown
      have hcv := run_ownstr hown
      have HBEL := hid hbel
      clear hown hbel
      generalize hSN : str (Ax.sizes L) = SN at *
      have HSN := hid hSN
      clear hSN
      go_wp2
      go_ret
      exact ⟨by rw [HSN.out]; rfl, HBEL.out⟩
end Go.Proofs.YtgjkkcggcljcdaaDoor
