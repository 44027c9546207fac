/-
  A range over a function value (a method value, too), all of whose rounds go on: the rounds as a fold.
-/
import Derived.Test.YthmhbefbjbkabaaChecked
import Derived.RangeFuncNested
import Derived.RangeFuncBound
import Derived.RangeFuncCalls
import Derived.RangeFuncLeaves
import Derived.RangeFuncBox
import Derived.Shelf.Abstract
import Derived.Shelf.RegionOpen
import Derived.OwnWalkIn
import Derived.TacticsInMore
import Derived.LoopNIn
import Derived.LoopIn
import Derived.WalkKit
namespace Go.Proofs.Ythmhbefbjbkabaa
open Go.RowKit Go.Shelf

/-- What holds no cells from B on stays as it is. -/
def Books (B : Nat) (W W' : World) : Prop := ∀ (k : Nat) (o : Obj), B ≤ k → W.heap[k]? = some o → o.isCells = false → W'.heap[k]? = some o
theorem Books.refl (B : Nat) (W : World) : Books B W W := fun _ _ _ h _ => h
theorem Books.trans {B : Nat} {U V W : World} (h : Books B U V) (k : Books B V W) : Books B U W := fun i o hi ho hc => k i o hi (h i o hi ho hc) hc
/-- From B on a book alone is written. -/
structure BookAt (B : Nat) (W W' : World) : Prop where
  os : W'.os = W.os
  tape : W'.tape = W.tape
  output : W'.output = W.output
  size : W.heap.size ≤ W'.heap.size
  block : ∀ k, k < W.heap.size → W'.heap[k]? = W.heap[k]? ∨ (B ≤ k ∧ ∃ o : Obj, W.heap[k]? = some o ∧ o.isCells = false)
theorem bookAt_put {B : Nat} {W : World} {l : Nat} {o o' : Obj} (hl : B ≤ l) (h : W.heap[l]? = some o) (hc : o.isCells = false) : BookAt B W (W.putObj l o') := by
  refine ⟨rfl, rfl, rfl, by simp [World.putObj], fun k _ => ?_⟩
  by_cases e : k = l
  · subst e; exact Or.inr ⟨hl, o, h, hc⟩
  · exact Or.inl (World.putObj_heap_other e)
theorem bookAt_alloc {B : Nat} (W : World) (o : Obj) : BookAt B W (W.alloc o) := ⟨rfl, rfl, rfl, by simp, fun k hk => Or.inl (Below.heap_alloc W o k hk)⟩

section
variable {P : Program} {σ β : Type}
set_option maxHeartbeats 1000000 in
theorem wp_rangeAll {n : Nat} (hn : 1 ≤ n) {g : Operand} {p0 : Tmp} {assign body : Code} {Q : Exit → Act → World → Prop} {a : Act} {w : World} {gf : FuncId} {rb lb : Array Value}
    (hg : a.eval g = .func (.func gf) rb lb) (eg : ∀ args w, (callFunc gf args).run P w = .ok (.enter gf args) w) (enc : β → Value)
    (E : σ → World → Prop) (f : σ → β → σ) (s0 s1 : σ) (R : σ → β → World → Prop) (R2 : σ → β → Act → World → Prop) (pk : Nat → Prop) (hpk : ∀ k, pk k → k < w.heap.size)
    (hE0 : E s0 w) (hE : ∀ s W W', E s W → BookAt w.heap.size W W' → E s W') (hR2 : ∀ s q a' W W', R2 s q a' W → BookAt w.heap.size W W' → R2 s q a' W')
    (hiter : ∀ (l : Nat) (X : World → Prop) (W1 : World), w.heap.size ≤ l → E s0 W1 → X W1 → (∀ W W', X W → (∀ k, k < W.heap.size → ¬ pk k → W'.heap[k]? = W.heap[k]?) → X W') →
      (∀ s q W, R s q W → X W → YieldAt Fence.wide (n - 1 - 1) P l #[enc q] W fun e W' => e = .returned (.bool true) ∧ E (f s q) W' ∧ X W') →
      CallsIn Fence.wide (n - 1) P gf (rb ++ #[.func (.yield l) #[] #[]] ++ lb) W1 fun e W' => (∃ v, e = .returned v) ∧ E s1 W' ∧ X W')
    (hassign : ∀ (l : Nat) s q W, w.heap.size ≤ l → R s q W → assign.wpIn (Fence.wide.inRound l) (n - 1 - 1) P (Exit.then (fun a' W' => Books w.heap.size W W' ∧ W.heap.size ≤ W'.heap.size ∧ R2 s q a' W') (fun _ _ _ => False)) { tmps := a.tmps.setIfInBounds p0 (enc q), defers := [] } W)
    (hbody : ∀ (l : Nat) s q a' W, w.heap.size ≤ l → R2 s q a' W → body.wpIn (Fence.wide.inRound l) (n - 1 - 1) P (fun e _ W' => e = .normal ∧ Books w.heap.size W W' ∧ E (f s q) W') a' W)
    (hdone : ∀ W, E s1 W → W.heap[w.heap.size]? = some (.deferred (some [])) → Q .normal { a with defers := { target := .collected w.heap.size, args := #[] } :: a.defers } W) :
    (Code.rangeFunc g #[p0] assign body).wpIn Fence.wide n P Q a w := by
  refine wpIn_rangeFunc fun fn hfn => ?_
  obtain ⟨rc, hrc⟩ : ∃ rc : LoopState → Loop, rc = fun st => { state := st, pending := none, fn, tmps := a.tmps, params := #[p0], assign, body, defers := w.heap.size } := ⟨_, rfl⟩
  obtain ⟨W1, hW1⟩ : ∃ W1, (w.alloc (.deferred (some []))).alloc (.loop (rc .ready)) = W1 := ⟨_, rfl⟩
  have hsz : (w.alloc (.deferred (some []))).heap.size = w.heap.size + 1 := World.size_alloc _ _
  have hl1 : W1.heap[w.heap.size + 1]? = some (.loop (rc .ready)) := by
    rw [← hW1, ← hsz]; exact World.alloc_heap_new _ _
  have hk1 : W1.heap[w.heap.size]? = some (.deferred (some [])) := by
    rw [← hW1, Below.heap_alloc _ _ _ (by rw [hsz]; omega)]; exact World.alloc_heap_new _ _
  have hE1 : E s0 W1 := by rw [← hW1]; exact hE _ _ _ (hE _ _ _ hE0 (bookAt_alloc _ _)) (bookAt_alloc _ _)
  -- the two books
  obtain ⟨X, hX⟩ : ∃ X : World → Prop, X = fun W => W.heap[w.heap.size + 1]? = some (.loop (rc .ready)) ∧ W.heap[w.heap.size]? = some (.deferred (some [])) := ⟨_, rfl⟩
  have hlt : ∀ {W : World} {k : Nat} {o : Obj}, W.heap[k]? = some o → k < W.heap.size := fun h => (Array.getElem?_eq_some_iff.1 h).1
  have hit := hiter (w.heap.size + 1) X W1 (by omega) hE1 (by rw [hX]; exact ⟨hl1, hk1⟩) (fun W W' hx hk => by
    rw [hX] at hx ⊢
    exact ⟨(hk _ (hlt hx.1) (fun h => by have := hpk _ h; omega)).trans hx.1, (hk _ (hlt hx.2) (fun h => by have := hpk _ h; omega)).trans hx.2⟩) (fun s q W hr hx => ?_)
  · refine ⟨w.heap.size + 1, [{ target := .collected w.heap.size, args := #[] }], W1, { target := .fn (.func gf) lb, args := rb ++ #[.func (.yield (w.heap.size + 1)) #[] #[]] }, W1, gf, rb ++ #[.func (.yield (w.heap.size + 1)) #[] #[]] ++ lb, W1, ?_, ?_, ?_, ?_, fun _ => hn, ?_⟩
    · rw [← hW1, hrc]; exact run_enterLoop_outer _ _ _ _ _
    · simp only [resolve, hg]
      simp [go_sem]
    · intro _ _; trivial
    · simp [invoke, go_sem, eg]
    · refine hit.mono ?_
      rintro e W2 ⟨⟨v, rfl⟩, hE2, hx2⟩
      rw [hX] at hx2
      have he := run_endLoop (P := P) hx2.1 (by rw [hrc]; simp)
      rw [hrc] at he
      refine ⟨none, _, he, hdone _ (hE _ _ _ hE2 (bookAt_put (by omega) hx2.1 rfl)) ?_⟩
      exact (World.putObj_heap_other (by omega)).trans hx2.2
  · -- a round
    rw [hX] at hx
    have hy := run_yield (P := P) (args := #[enc q]) hx.1 (by rw [hrc]; rfl)
    have hz : ((#[p0] : Array Tmp).zip #[enc q]).foldl (fun t (p, v) => t.setIfInBounds p v) a.tmps = a.tmps.setIfInBounds p0 (enc q) := by simp
    rw [hrc] at hy
    simp only [hz] at hy
    refine ⟨fn, _, assign, body, hy, roundIn_of_wpIn hfn (wpIn_mono (hassign (w.heap.size + 1) s q W (by omega) hr) ?_)⟩
    intro e a' W3 h3
    cases e with
    | normal =>
      obtain ⟨hb3, hs3, hr3⟩ := h3
      have hl3 := hb3 _ _ (by omega) hx.1 rfl
      have hk3 := hb3 _ _ (Nat.le_refl _) hx.2 rfl
      refine ⟨_, run_beginRound hl3 (by rw [hrc]), ?_⟩
      have hl4 : (W3.putObj (w.heap.size + 1) (.loop { rc .ready with state := .busy })).heap[w.heap.size + 1]? = some (.loop { rc .ready with state := .busy }) := World.putObj_heap_same (hlt hl3)
      have hk4 : (W3.putObj (w.heap.size + 1) (.loop { rc .ready with state := .busy })).heap[w.heap.size]? = some (.deferred (some [])) := (World.putObj_heap_other (by omega)).trans hk3
      refine wpIn_mono (hbody (w.heap.size + 1) s q a' _ (by omega) (hR2 _ _ _ _ _ hr3 (bookAt_put (by omega) hl3 rfl))) ?_
      rintro e2 a2 W5 ⟨rfl, hb5, hE5⟩
      have hl5 := hb5 _ _ (by omega) hl4 rfl
      have hk5 := hb5 _ _ (Nat.le_refl _) hk4 rfl
      have hend := run_endRound (P := P) none hl5
      refine ⟨_, _, hend, rfl, hE _ _ _ hE5 (bookAt_put (by omega) hl5 rfl), ?_⟩
      rw [hX]
      refine ⟨?_, (World.putObj_heap_other (by omega)).trans hk5⟩
      rw [World.putObj_heap_same (hlt hl5), hrc]
      rfl
    | exit id => exact h3.elim
    | goto t => exact h3.elim
    | ret => exact h3.elim
    | panic c => exact h3.elim
    | outgrown => exact h3.elim
end
end Go.Proofs.Ythmhbefbjbkabaa
