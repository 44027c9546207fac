/-
  The reference of layer 3: what sealwaxref03.Fit and Xor return.
-/
import Derived.Test.YtgjkkcggcljcdaaDoorStr5
namespace Go.Proofs.YtgjkkcggcljcdaaDoor
open Go.RowKit
open Go.Lib (hid)

namespace Cx
/-- Byte i of the blocks of the counter and those after it. -/
def xorB (key : List Nat) (c : Nat) (nonce : List Nat) (i : Nat) : Nat := (block key ((c + i / 64) % Sx.M) nonce).getD (i % 64) 0
/-- A text, xored. -/
def xors (key : List Nat) (c : Nat) (nonce s : List Nat) : List Nat := (List.range s.length).map fun i => s.getD i 0 ^^^ xorB key c nonce i
theorem xors_length (key : List Nat) (c : Nat) (nonce s : List Nat) : (xors key c nonce s).length = s.length := by simp [xors]
theorem xorB_lt (key : List Nat) (c : Nat) (nonce : List Nat) (i : Nat) : xorB key c nonce i < 256 := getD_lt (by omega) (block_lt _ _ _) _
theorem xors_get (key : List Nat) (c : Nat) (nonce s : List Nat) (i : Nat) (h : i < s.length) : (xors key c nonce s).getD i 0 = s.getD i 0 ^^^ xorB key c nonce i := by
  simp [xors, h]
theorem xors_lt (key : List Nat) (c : Nat) (nonce s : List Nat) (hs : ∀ x ∈ s, x < 256) : ∀ x ∈ xors key c nonce s, x < 256 := by
  intro x hx
  simp only [xors, List.mem_map] at hx
  obtain ⟨i, _, rfl⟩ := hx
  exact xor_lt256 _ _ (getD_lt (by omega) hs i) (xorB_lt _ _ _ _)
end Cx



end Go.Proofs.YtgjkkcggcljcdaaDoor
