/-
  The document's answer for layer 1: Hex.
-/
import Derived.Test.YtnhebfafiikilaaDoorShaAwake
namespace Go.Proofs.YtnhebfafiikilaaDoor
open Go.RowKit
open Go.Lib (hid)

theorem str_append (l r : List Nat) : str l ++ str r = str (l ++ r) := by
  unfold str
  apply ByteArray.ext
  simp

theorem str_get (l : List Nat) (h : ∀ x ∈ l, x < 256) (i : Nat) (hi : i < (str l).size) : (str l)[i].toNat = l.getD i 0 := by
  have hl : i < l.length := by rwa [str_size] at hi
  have e : (str l)[i] = UInt8.ofNat l[i] := by
    show (str l).data[i] = _
    simp [str]
  rw [e, List.getD_eq_getElem?_getD, List.getElem?_eq_getElem hl, Option.getD_some]
  simp [Nat.mod_eq_of_lt (h _ (List.getElem_mem hl))]

theorem hex_slice (w : World) (n : Nat) (h : n < 16) :
    (Instr.slice 9 (.string ⟨#[48, 49, 50, 51, 52, 53, 54, 55, 56, 57, 97, 98, 99, 100, 101, 102]⟩) (some (.int .i64 (n : Int))) (some (.int .i64 ((n : Int) + 1))) none).run Tryd.prog w = .ok (.string (str [Sx.hexd n])) w := by
  obtain rfl | rfl | rfl | rfl | rfl | rfl | rfl | rfl | rfl | rfl | rfl | rfl | rfl | rfl | rfl | rfl : n = 0 ∨ n = 1 ∨ n = 2 ∨ n = 3 ∨ n = 4 ∨ n = 5 ∨ n = 6 ∨ n = 7 ∨ n = 8 ∨ n = 9 ∨ n = 10 ∨ n = 11 ∨ n = 12 ∨ n = 13 ∨ n = 14 ∨ n = 15 := by omega
  all_goals kernel_rfl

set_option maxHeartbeats 1000000 in
theorem refhex_any (s : List Nat) (hx : ∀ x ∈ s, x < 256) (hl : s.length ≤ 1000000) (w : World) :
    Calls Tryd.prog 19 #[.string (str s)] w fun e w' => e = .returned (.string (str (Sx.hexL s))) ∧ Below w.heap.size w w' := by
  have hsz := str_size s
  have HX := hid hx
  have HSZ := hid hsz
  obtain ⟨S, hS⟩ : ∃ S, S = str s := ⟨_, rfl⟩
  rw [← hS] at hsz
  have hSz : S.size ≤ 1000000 := by omega
  have HS := hid hS
  have hszI : S.size = s.length := hsz
  have HSI := hid hszI
  rw [← hS]
  clear hx hsz hS hszI
  go_enter Tryd.func19, Tryd.ntmps19
  go_wp2
  go_loopw [3, 4] (fun o i wr => ∃ k : Nat, k ≤ S.size ∧ i = .int .i64 k ∧ o = .string (str (Sx.hexL (s.take k))) ∧ ∃ n, wr = w.drewN n)
    (fun _ i _ => S.size - (intOf i).toNat)
  case atStart => exact ⟨0, Nat.zero_le _, rfl, rfl, 0, rfl⟩
  case round =>
    obtain ⟨k, hk, rfl, rfl, n, hwr⟩ := hrel
    have HWR := hid hwr
    clear hwr
    by_cases hlt : k < S.size
    · have hlt' : k < s.length := by have := HSI.out; omega
      have hget : (S[k].toNat : Int) = ((s.getD k 0 : Nat) : Int) := by
        have hS := HS.out
        subst hS
        rw [str_get s HX.out k hlt]
      have hxk := getD_lt (by omega) HX.out k
      have HTS := hid (Sx.hexL_take s k hlt')
      have HTL := hid (show (Sx.hexL (s.take k)).length = 2 * k from by rw [Sx.hexL_length]; simp; omega)
      obtain ⟨x, hxe⟩ : ∃ x, x = s.getD k 0 := ⟨_, rfl⟩
      rw [← hxe] at hget hxk HTS
      obtain ⟨O, hO⟩ : ∃ O, O = str (Sx.hexL (s.take k)) := ⟨_, rfl⟩
      have hOz : O.size ≤ 2000000 := by rw [hO, str_size, HTL.out]; omega
      rw [← hO]
      have HO := hid hO
      clear hxe hO
      go_upto_region 6 with (fail)
      have q1 : (x : Int) / 16 = ((x / 16 : Nat) : Int) := by omega
      have q2 : (x : Int) % 16 = ((x % 16 : Nat) : Int) := by omega
      have q3 : (x : Int).tdiv 16 = ((x / 16 : Nat) : Int) := by rw [Int.tdiv_eq_ediv_of_nonneg (by omega)]; omega
      have q4 : (x : Int).tmod 16 = ((x % 16 : Nat) : Int) := by rw [Int.tmod_eq_emod_of_nonneg (by omega)]; omega
      have hs1 := fun wx => hex_slice wx (x / 16) (by omega)
      have hs2 := fun wx => hex_slice wx (x % 16) (by omega)
      have b1 : x / 16 < 16 := by omega
      have b2 : x % 16 < 16 := by omega
      generalize x / 16 = d1 at *
      generalize x % 16 = d2 at *
      have w1 : IntKind.i64.wrap (d1 : Int) = d1 := by rw [IntKind.wrap_i64]; omega
      have w2 : IntKind.i64.wrap (d2 : Int) = d2 := by rw [IntKind.wrap_i64]; omega
      have w3 : IntKind.i64.wrap ((d1 : Int) + 1) = (d1 : Int) + 1 := by rw [IntKind.wrap_i64]; omega
      have w4 : IntKind.i64.wrap ((d2 : Int) + 1) = (d2 : Int) + 1 := by rw [IntKind.wrap_i64]; omega
      have z1 : (str [Sx.hexd d1]).size = 1 := str_size _
      have z2 : (str [Sx.hexd d2]).size = 1 := str_size _
      go_quiet (fail)
      have hO' : O ++ (str [Sx.hexd d1] ++ str [Sx.hexd d2]) = str (Sx.hexL (s.take (k + 1))) := by
        rw [HO.out, str_append, str_append, ← HTS.out]; rfl
      rw [hO']
      clear hO' w1 w2 w3 w4 z1 z2 q1 q2 q3 q4 hs1 hs2 hget
      go_wp2
      go_roundw
      case rel => exact ⟨k + 1, by omega, by go_num, rfl, n + nq, by rw [HWR.out, World.drewN_drewN]⟩
      case measure => simp [intOf]; omega
    · obtain rfl : k = S.size := by omega
      rw [List.take_of_length_le (by rw [HSI.out]; exact Nat.le_refl _)]
      go_wp2
      go_ret
      exact ⟨rfl, by rw [HWR.out]; exact ⟨rfl, rfl, rfl, Nat.le_refl _, fun _ _ => rfl⟩⟩
end Go.Proofs.YtnhebfafiikilaaDoor
