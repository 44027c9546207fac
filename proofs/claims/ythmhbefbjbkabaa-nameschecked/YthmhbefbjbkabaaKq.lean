/-
  What a call keeps, where some blocks are its own; rows that are grown.
-/
import Derived.Test.YthmhbefbjbkabaaBase
import Derived.Lib.MinMax
namespace Go.Proofs.Ythmhbefbjbkabaa
open Go.ChangeShapes Go.WideShapes Go.ChangeAt Go.RowKit
open Go.Lib (hid)

/-- The world but for some blocks, and for new ones. -/
structure KeptQ (p : Nat → Prop) (w w' : World) : Prop where
  os : w'.os = w.os
  tape : w'.tape = w.tape
  output : w'.output = w.output
  size : w.heap.size ≤ w'.heap.size
  block : ∀ k, k < w.heap.size → ¬ p k → w'.heap[k]? = w.heap[k]?
theorem KeptQ.refl (p : Nat → Prop) (w : World) : KeptQ p w w := ⟨rfl, rfl, rfl, Nat.le_refl _, fun _ _ _ => rfl⟩
theorem KeptQ.trans {p : Nat → Prop} {u v w : World} (h : KeptQ p u v) (k : KeptQ p v w) : KeptQ p u w :=
  ⟨k.os.trans h.os, k.tape.trans h.tape, k.output.trans h.output, Nat.le_trans h.size k.size, fun i hi hb => (k.block i (Nat.lt_of_lt_of_le hi h.size) hb).trans (h.block i hi hb)⟩
theorem KeptQ.mono {p q : Nat → Prop} {u v : World} (h : KeptQ p u v) (hpq : ∀ k, p k → q k) : KeptQ q u v := ⟨h.os, h.tape, h.output, h.size, fun i hi hb => h.block i hi (fun hp => hb (hpq i hp))⟩
theorem KeptQ.of_below {p : Nat → Prop} {w w' : World} (h : Below w.heap.size w w') : KeptQ p w w' := ⟨h.os, h.tape, h.output, h.size, fun k hk _ => h.block k hk⟩
theorem KeptQ.alloc {p : Nat → Prop} (w : World) (o : Obj) : KeptQ p w (w.alloc o) := KeptQ.of_below ((Below.refl _ _).alloc (Nat.le_refl _) _)
theorem KeptQ.drewN {p : Nat → Prop} (w : World) (m : Nat) : KeptQ p w (w.drewN m) := ⟨rfl, rfl, rfl, Nat.le_refl _, fun _ _ _ => rfl⟩
theorem KeptQ.setCell {p : Nat → Prop} (w : World) (a : Addr) (v : Value) (hp : p a.block) : KeptQ p w (w.setCell a v) :=
  ⟨rfl, rfl, rfl, by simp [World.setCell], fun k _ hk => Below.heap_setCell w a v k (fun e => hk (e ▸ hp))⟩
theorem KeptQ.below {p : Nat → Prop} {w w' : World} {B : Nat} (h : KeptQ p w w') (hp : ∀ k, p k → B ≤ k) (hB : B ≤ w.heap.size) : Below B w w' :=
  ⟨h.os, h.tape, h.output, h.size, fun k hk => h.block k (by omega) (fun hq => by have := hp k hq; omega)⟩

/-- Of a row nothing but its block counts. -/
theorem ownsRow_at {w w' : World} {e : TypeId} {size n : Nat} {v : Value} {xs : List Value} (h : w.ownsRow 0 e size v n xs) (hk : ∀ g, some g = v.ownBlock → w'.heap[g]? = w.heap[g]?) : w'.ownsRow 0 e size v n xs := by
  obtain ⟨h1, h2 | ⟨g, cap, cur, hv, hg, hh, rest⟩⟩ := h
  · exact ⟨h1, Or.inl h2⟩
  · exact ⟨h1, Or.inr ⟨g, cap, cur, hv, hg, (hk g (by rw [hv]; rfl)).trans hh, rest⟩⟩
theorem range_row {w : World} {b : Nat} {cs : Array Value} {t : TypeId} {fr : Nat × Nat} (h : w.heap[b]? = some (.cells cs t fr)) : w.rangeAt b 0 cs.toList := by
  intro i v hi
  rw [cell_of_row _ _ _ _ _ _ h, Nat.zero_add, ← Array.getElem?_toList]
  exact hi
/-- Where a slice's block is from. -/
def VNext (w : World) (v v' : Value) : Prop := ∀ k, some k = v'.ownBlock → some k = v.ownBlock ∨ w.heap.size ≤ k
theorem VNext.refl (w : World) (v : Value) : VNext w v v := fun _ h => Or.inl h
theorem ownsRow_slice {w : World} {base : Nat} {e : TypeId} {size n : Nat} {v : Value} {xs : List Value} (h : w.ownsRow base e size v n xs) : ∃ ao cap, v = .slice ao n cap := by
  obtain ⟨_, ⟨h1, h2⟩ | ⟨g, cap, cur, hv, _⟩⟩ := h
  · subst h2; exact ⟨_, _, h1⟩
  · exact ⟨_, _, hv⟩
end Go.Proofs.Ythmhbefbjbkabaa
