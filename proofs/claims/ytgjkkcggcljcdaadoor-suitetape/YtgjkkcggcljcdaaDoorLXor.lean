/-
  Layer 3: what the laws of xoring stand on: a place that lies in memory, and the laws of the xored text.
-/
import Derived.Test.YtgjkkcggcljcdaaDoorLStr
import Derived.Test.YtgjkkcggcljcdaaDoorXor2
namespace Go.Proofs.YtgjkkcggcljcdaaDoor
open Go.ChangeShapes Go.WideShapes Go.ChangeAt Go.RowKit
open Go.Lib (hid)

theorem getD_ext' (a b : List Nat) (hl : a.length = b.length) (h : ∀ i, i < a.length → a.getD i 0 = b.getD i 0) : a = b := by
  apply List.ext_getElem hl
  intro i h1 h2
  have := h i h1
  simpa [List.getD_eq_getElem?_getD, h1, h2] using this
theorem Cx.xors_xors (key nonce s : List Nat) (c : Nat) : Cx.xors key c nonce (Cx.xors key c nonce s) = s := by
  apply getD_ext'
  · rw [Cx.xors_length, Cx.xors_length]
  · intro i hi
    rw [Cx.xors_length, Cx.xors_length] at hi
    rw [Cx.xors_get _ _ _ _ _ (by rw [Cx.xors_length]; exact hi), Cx.xors_get _ _ _ _ _ hi, Nat.xor_assoc, Nat.xor_self, Nat.xor_zero]
/-- A text in parts of whole blocks. -/
theorem Cx.xors_parts (key nonce s : List Nat) (c q : Nat) (h : 64 * q ≤ s.length) :
    Cx.xors key c nonce (s.take (64 * q)) ++ Cx.xors key ((c + q) % Sx.M) nonce (s.drop (64 * q)) = Cx.xors key c nonce s := by
  have l1 : (Cx.xors key c nonce (s.take (64 * q))).length = 64 * q := by rw [Cx.xors_length, List.length_take]; omega
  apply getD_ext'
  · rw [List.length_append, l1, Cx.xors_length, Cx.xors_length, List.length_drop]; omega
  · intro i hi
    rw [List.length_append, l1, Cx.xors_length, List.length_drop] at hi
    rw [Cx.xors_get _ _ _ s i (by omega)]
    by_cases hlt : i < 64 * q
    · have e : (Cx.xors key c nonce (s.take (64 * q)) ++ Cx.xors key ((c + q) % Sx.M) nonce (s.drop (64 * q))).getD i 0 = (Cx.xors key c nonce (s.take (64 * q))).getD i 0 := by
        rw [List.getD_eq_getElem?_getD, List.getElem?_append_left (by omega), List.getD_eq_getElem?_getD]
      rw [e, Cx.xors_get _ _ _ _ _ (by rw [List.length_take]; omega)]
      rw [show (s.take (64 * q)).getD i 0 = s.getD i 0 from by simp [List.getD_eq_getElem?_getD, hlt]]
    · have e : (Cx.xors key c nonce (s.take (64 * q)) ++ Cx.xors key ((c + q) % Sx.M) nonce (s.drop (64 * q))).getD i 0 = (Cx.xors key ((c + q) % Sx.M) nonce (s.drop (64 * q))).getD (i - 64 * q) 0 := by
        rw [List.getD_eq_getElem?_getD, List.getElem?_append_right (by omega), l1, List.getD_eq_getElem?_getD]
      rw [e, Cx.xors_get _ _ _ _ _ (by rw [List.length_drop]; omega)]
      have e1 : (s.drop (64 * q)).getD (i - 64 * q) 0 = s.getD i 0 := by
        simp only [List.getD_eq_getElem?_getD, List.getElem?_drop]
        rw [show 64 * q + (i - 64 * q) = i from by omega]
      have e2 : Cx.xorB key ((c + q) % Sx.M) nonce (i - 64 * q) = Cx.xorB key c nonce i := by
        unfold Cx.xorB
        rw [show (i - 64 * q) % 64 = i % 64 from by omega, Nat.mod_add_mod, show c + q + (i - 64 * q) / 64 = c + i / 64 from by omega]
      rw [e1, e2]
end Go.Proofs.YtgjkkcggcljcdaaDoor
