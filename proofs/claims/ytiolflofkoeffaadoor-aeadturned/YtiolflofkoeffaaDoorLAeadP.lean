/-
  The laws of layer 5: a place that lies in memory, and both tables.
-/
import Derived.Test.YtiolflofkoeffaaDoorLAead
namespace Go.Proofs.YtiolflofkoeffaaDoor
open Go.ChangeShapes Go.WideShapes Go.ChangeAt Go.RowKit
open Go.Lib (hid)

/-- The worlds behind w in which a place still lies at bp, and both tables. -/
def Pl5 (w : World) (bp : Nat) (PC : Array Value) (u : World) : Prop := PlS w bp PC u ∧ TabK u
theorem Pl5.keep {w : World} {bp : Nat} {PC : Array Value} {u u' : World} (h : Pl5 w bp PC u) (hb : Below u.heap.size u u') : Pl5 w bp PC u' :=
  ⟨h.1.keep hb, h.2.below hb (Nat.le_refl _)⟩
theorem Pl5.rk {w u : World} {bp : Nat} {PC : Array Value} {key nonce : List Nat} {c : Nat} (h : Pl5 w bp PC u) (hP : PC = plC key c nonce) : u.rangeAt bp 0 (ints .u8 key).toList := by
  have h1 := h.1.1; rw [hP] at h1; exact plC_key h1
theorem Pl5.rn {w u : World} {bp : Nat} {PC : Array Value} {key nonce : List Nat} {c : Nat} (h : Pl5 w bp PC u) (hP : PC = plC key c nonce) (kl : key.length = 32) : u.rangeAt bp 33 (ints .u8 nonce).toList := by
  have h1 := h.1.1; rw [hP] at h1; exact plC_nonce h1 kl
end Go.Proofs.YtiolflofkoeffaaDoor
