/-
  The plain mathematics of layer 3: ChaCha20 over natural numbers.
-/
import Derived.Test.YtgjkkcggcljcdaaDoorBase
import Derived.Test.YtgjkkcggcljcdaaDoorRg2
namespace Go.Proofs.YtgjkkcggcljcdaaDoor
open Go.RowKit
open Go.Lib (hid)
namespace Cx
open Sx (M)
def rotl (x n : Nat) : Nat := x * 2 ^ n % M + x / 2 ^ (32 - n)
def mix (x : List Nat) (s o t n : Nat) : List Nat :=
  let y := x.set s ((x.getD s 0 + x.getD o 0) % M)
  y.set t (rotl (y.getD t 0 ^^^ y.getD s 0) n)
def quarter (x : List Nat) (a b c d : Nat) : List Nat := mix (mix (mix (mix x a b d 16) c d b 12) a b d 8) c d b 7
def quarters : List (List Nat) := [[0, 4, 8, 12], [1, 5, 9, 13], [2, 6, 10, 14], [3, 7, 11, 15], [0, 5, 10, 15], [1, 6, 11, 12], [2, 7, 8, 13], [3, 4, 9, 14]]
def step (x : List Nat) (q : List Nat) : List Nat := quarter x (q.getD 0 0) (q.getD 1 0) (q.getD 2 0) (q.getD 3 0)
/-- Behind the first k quarter rounds of a round. -/
def part (x : List Nat) (k : Nat) : List Nat := (quarters.take k).foldl step x
def round (x : List Nat) : List Nat := part x 8
def rounds (x : List Nat) : Nat → List Nat
  | 0 => x
  | n + 1 => round (rounds x n)
/-- The number of four bytes, the least significant first. -/
def le4 (l : List Nat) (i : Nat) : Nat := l.getD (4 * i) 0 + 256 * l.getD (4 * i + 1) 0 + 65536 * l.getD (4 * i + 2) 0 + 16777216 * l.getD (4 * i + 3) 0
def les (l : List Nat) (k : Nat) : List Nat := (List.range k).map (le4 l)
def init (key : List Nat) (c : Nat) (nonce : List Nat) : List Nat := [1634760805, 857760878, 2036477234, 1797285236] ++ les key 8 ++ [c] ++ les nonce 3
def addM (l r : List Nat) : List Nat := List.zipWith (fun x y => (x + y) % M) l r
def bytes4 (v : Nat) : List Nat := [v % 256, v / 256 % 256, v / 65536 % 256, v / 16777216 % 256]
def out (l : List Nat) : List Nat := l.flatMap bytes4
/-- The 64 bytes of a counter. -/
def block (key : List Nat) (c : Nat) (nonce : List Nat) : List Nat := out (addM (rounds (init key c nonce) 10) (init key c nonce))

theorem mix_length (x : List Nat) (s o t n : Nat) : (mix x s o t n).length = x.length := by simp [mix]
theorem quarter_length (x : List Nat) (a b c d : Nat) : (quarter x a b c d).length = x.length := by simp [quarter, mix_length]
theorem part_length (x : List Nat) (k : Nat) : (part x k).length = x.length := by
  unfold part
  generalize quarters.take k = l
  induction l generalizing x with
  | nil => rfl
  | cons q l ih => rw [List.foldl_cons, ih]; exact quarter_length _ _ _ _ _
theorem rounds_length (x : List Nat) (n : Nat) : (rounds x n).length = x.length := by
  induction n with
  | zero => rfl
  | succ n ih => rw [rounds, round, part_length, ih]
theorem rotl_lt (x n : Nat) (hn : n ≤ 32) (hx : x < M) : rotl x n < M := by
  unfold rotl
  have hp : 2 ^ (32 - n) * 2 ^ n = M := by rw [← Nat.pow_add, show 32 - n + n = 32 from by omega]; rfl
  have h1 : x / 2 ^ (32 - n) < 2 ^ n := by apply Nat.div_lt_of_lt_mul; rw [hp]; exact hx
  have h2 : x * 2 ^ n % M = x % 2 ^ (32 - n) * 2 ^ n := by rw [← hp, Nat.mul_mod_mul_right]
  have h3 : x % 2 ^ (32 - n) + 1 ≤ 2 ^ (32 - n) := Nat.mod_lt _ (Nat.pow_pos (by omega))
  have h4 : (x % 2 ^ (32 - n) + 1) * 2 ^ n ≤ 2 ^ (32 - n) * 2 ^ n := Nat.mul_le_mul_right _ h3
  rw [Nat.add_mul, Nat.one_mul, hp] at h4
  rw [h2]
  omega
/-- All numbers are below 2^32. -/
def Ok (x : List Nat) : Prop := ∀ v ∈ x, v < M
theorem Ok.get {x : List Nat} (h : Ok x) (i : Nat) : x.getD i 0 < M := getD_lt (by decide) h i
theorem Ok.set {x : List Nat} (h : Ok x) (i v : Nat) (hv : v < M) : Ok (x.set i v) := by
  intro u hu
  rcases List.mem_or_eq_of_mem_set hu with h' | rfl
  · exact h u h'
  · exact hv
theorem Ok.mix {x : List Nat} (h : Ok x) (s o t n : Nat) (hn : n ≤ 32) : Ok (mix x s o t n) := by
  unfold Cx.mix
  have h1 := h.set s ((x.getD s 0 + x.getD o 0) % M) (Nat.mod_lt _ (by decide))
  exact h1.set _ _ (rotl_lt _ _ hn (xor32_lt _ _ (h1.get _) (h1.get _)))
theorem Ok.quarter {x : List Nat} (h : Ok x) (a b c d : Nat) : Ok (quarter x a b c d) :=
  (((h.mix _ _ _ _ (by omega)).mix _ _ _ _ (by omega)).mix _ _ _ _ (by omega)).mix _ _ _ _ (by omega)
theorem Ok.part {x : List Nat} (h : Ok x) (k : Nat) : Ok (part x k) := by
  unfold Cx.part
  generalize quarters.take k = l
  induction l generalizing x with
  | nil => exact h
  | cons q l ih => rw [List.foldl_cons]; exact ih (h.quarter _ _ _ _)
theorem Ok.rounds {x : List Nat} (h : Ok x) (n : Nat) : Ok (rounds x n) := by
  induction n with
  | zero => exact h
  | succ n ih => exact ih.part 8
theorem part_succ (x : List Nat) (k : Nat) (hk : k < 8) : part x (k + 1) = step (part x k) (quarters.getD k []) := by
  unfold part
  rw [List.take_succ_eq_append_getElem (show k < quarters.length from hk), List.foldl_append, List.getD_eq_getElem?_getD, List.getElem?_eq_getElem (show k < quarters.length from hk)]
  rfl
theorem le4_lt (l : List Nat) (h : ∀ x ∈ l, x < 256) (i : Nat) : le4 l i < M := by
  have h0 := getD_lt (by omega) h (4 * i)
  have h1 := getD_lt (by omega) h (4 * i + 1)
  have h2 := getD_lt (by omega) h (4 * i + 2)
  have h3 := getD_lt (by omega) h (4 * i + 3)
  unfold le4 M
  omega
end Cx
end Go.Proofs.YtgjkkcggcljcdaaDoor
