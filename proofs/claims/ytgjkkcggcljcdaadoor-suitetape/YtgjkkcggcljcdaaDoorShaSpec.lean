/-
  The plain mathematics of layer 1: SHA-256 over natural numbers. Nothing of the program stands here.
-/
import Derived.Test.YtgjkkcggcljcdaaDoorBase
namespace Go.Proofs.YtgjkkcggcljcdaaDoor
namespace Sx

def rotr (x n : Nat) : Nat := x / 2 ^ n + x % 2 ^ n * 2 ^ (32 - n)
def ls0 (x : Nat) : Nat := (rotr x 7 ^^^ rotr x 18) ^^^ (x / 8)
def ls1 (x : Nat) : Nat := (rotr x 17 ^^^ rotr x 19) ^^^ (x / 1024)
def bs0 (x : Nat) : Nat := (rotr x 2 ^^^ rotr x 13) ^^^ rotr x 22
def bs1 (x : Nat) : Nat := (rotr x 6 ^^^ rotr x 11) ^^^ rotr x 25
def chs (e f g : Nat) : Nat := (e &&& f) ^^^ ((M - 1 - e) &&& g)
def maj (a b c : Nat) : Nat := ((a &&& b) ^^^ (a &&& c)) ^^^ (b &&& c)

def H0 : List Nat := [0x6a09e667, 0xbb67ae85, 0x3c6ef372, 0xa54ff53a, 0x510e527f, 0x9b05688c, 0x1f83d9ab, 0x5be0cd19]
def K : List Nat := [
    0x428a2f98, 0x71374491, 0xb5c0fbcf, 0xe9b5dba5, 0x3956c25b, 0x59f111f1, 0x923f82a4, 0xab1c5ed5,
    0xd807aa98, 0x12835b01, 0x243185be, 0x550c7dc3, 0x72be5d74, 0x80deb1fe, 0x9bdc06a7, 0xc19bf174,
    0xe49b69c1, 0xefbe4786, 0x0fc19dc6, 0x240ca1cc, 0x2de92c6f, 0x4a7484aa, 0x5cb0a9dc, 0x76f988da,
    0x983e5152, 0xa831c66d, 0xb00327c8, 0xbf597fc7, 0xc6e00bf3, 0xd5a79147, 0x06ca6351, 0x14292967,
    0x27b70a85, 0x2e1b2138, 0x4d2c6dfc, 0x53380d13, 0x650a7354, 0x766a0abb, 0x81c2c92e, 0x92722c85,
    0xa2bfe8a1, 0xa81a664b, 0xc24b8b70, 0xc76c51a3, 0xd192e819, 0xd6990624, 0xf40e3585, 0x106aa070,
    0x19a4c116, 0x1e376c08, 0x2748774c, 0x34b0bcb5, 0x391c0cb3, 0x4ed8aa4a, 0x5b9cca4f, 0x682e6ff3,
    0x748f82ee, 0x78a5636f, 0x84c87814, 0x8cc70208, 0x90befffa, 0xa4506ceb, 0xbef9a3f7, 0xc67178f2]

/-- Word i of a block of bytes. -/
def word (b : List Nat) (i : Nat) : Nat := ((b.getD (4 * i) 0 * 256 + b.getD (4 * i + 1) 0) * 256 + b.getD (4 * i + 2) 0) * 256 + b.getD (4 * i + 3) 0
/-- The first k words. -/
def words (b : List Nat) (k : Nat) : List Nat := (List.range k).map (word b)
/-- The word behind a list of at least 16. -/
def nextW (l : List Nat) : Nat := (l.getD (l.length - 16) 0 + l.getD (l.length - 7) 0 + ls0 (l.getD (l.length - 15) 0) + ls1 (l.getD (l.length - 2) 0)) % M
/-- The first 16 + k words of the schedule. -/
def sched (b : List Nat) : Nat → List Nat
  | 0 => words b 16
  | k + 1 => sched b k ++ [nextW (sched b k)]

structure St where
  a : Nat
  b : Nat
  c : Nat
  d : Nat
  e : Nat
  f : Nat
  g : Nat
  h : Nat

def rnd (s : St) (k w : Nat) : St :=
  let x := s.h + bs1 s.e + chs s.e s.f s.g + k + w
  let y := bs0 s.a + maj s.a s.b s.c
  ⟨(x + y) % M, s.a, s.b, s.c, (s.d + x) % M, s.e, s.f, s.g⟩
def rounds (w : List Nat) (s : St) : Nat → St
  | 0 => s
  | k + 1 => rnd (rounds w s k) (K.getD k 0) (w.getD k 0)
def St.of (l : List Nat) : St := ⟨l.getD 0 0, l.getD 1 0, l.getD 2 0, l.getD 3 0, l.getD 4 0, l.getD 5 0, l.getD 6 0, l.getD 7 0⟩
def St.list (s : St) : List Nat := [s.a, s.b, s.c, s.d, s.e, s.f, s.g, s.h]
def addM (l r : List Nat) : List Nat := List.zipWith (fun x y => (x + y) % M) l r
/-- What the rounds over a block make of a state. -/
def mixed (h b : List Nat) : List Nat := (rounds (sched b 48) (St.of h) 64).list
def compress (h b : List Nat) : List Nat := addM h (mixed h b)
/-- The state behind the first n blocks of a text. -/
def runB (t : List Nat) : Nat → List Nat
  | 0 => H0
  | n + 1 => compress (runB t n) ((t.drop (64 * n)).take 64)
/-- n in k bytes, the most significant first. -/
def be (n : Nat) : Nat → List Nat
  | 0 => []
  | k + 1 => be (n / 256) k ++ [n % 256]
def zeros (n : Nat) : Nat := (119 - n % 64) % 64
def ending (n : Nat) : List Nat := 128 :: (List.replicate (zeros n) 0 ++ be (8 * n) 8)
def bytes4 (x : Nat) : List Nat := [x / 16777216, x / 65536 % 256, x / 256 % 256, x % 256]
def out (h : List Nat) : List Nat := h.flatMap bytes4
/-- The hash of a text, as 32 bytes. -/
def digest (t : List Nat) : List Nat := out (runB (t ++ ending t.length) ((t ++ ending t.length).length / 64))

end Sx
end Go.Proofs.YtgjkkcggcljcdaaDoor
