/-
  Regions that draw their order: a head in whatever order, then a chain.
-/
import Derived.Test.YthmhbefbjbkabaaRg
namespace Go.Proofs.Ythmhbefbjbkabaa
section
variable {P : Program} {ops : Array Oper} {Q : Exit → Act → World → Prop} {md : Region.Mode} {C : World → Prop}
theorem range_filterMap (l : List Oper) (n : Nat) : (List.range n).filterMap (l[·]?) = l.take n := by
  induction n with
  | zero => rfl
  | succ n ih => rw [List.range_succ, List.filterMap_append, ih, List.take_add_one]; cases h : l[n]? <;> simp [h]
/-- A head of n operations, quiet in the class, in whatever order; then the last g as a chain. -/
theorem wp_region_hd {id : Nat} {l : List Oper} {a : Act} {w : World} (S : World → Prop) (n g : Nat) (hl : l.length = n + g) (hm : P.follows .mixedOrders = true) (hB : rgB .any l.toArray [] (List.range n) g = true)
    (hS : S { w with drawn := w.drawn + 1 }) (hQ : ∀ c d v a w, Q (.panic c) (Act.put a d v) w → Q (.panic c) a w)
    (h : ∀ (Z : Type) (φ : Z → World), Nonempty Z → (∀ z, S (φ z)) → (∀ u, S u → ∃ z, u = φ z) →
      wpQuiet P l.toArray (fun w' => ∃ z, w' = φ z) (fun a' => ∀ z, wpList P l.toArray Q (l.drop n) a' (φ z)) (l.take n) a) :
    (Code.region id l.toArray true).wp P Q a w := by
  refine wp_region_rgc S [] (List.range n) g hm hB hQ hS ?_
  intro Z φ hZ _ h1 h2
  refine wpQuiet_nil ?_
  rw [range_filterMap, show l.length - g = n by omega]
  exact h Z φ hZ h1 h2
/-- The same at one world but for draws. -/
theorem wp_region_hd1 {id : Nat} {l : List Oper} {a : Act} {w : World} (n g : Nat) (hl : l.length = n + g) (hm : P.follows .mixedOrders = true) (hB : rgB .any l.toArray [] (List.range n) g = true)
    (hQ : ∀ c d v a w, Q (.panic c) (Act.put a d v) w → Q (.panic c) a w)
    (h : wpQuiet P l.toArray (fun w' => ∃ n, w' = w.drewN n) (fun a' => ∀ m, wpList P l.toArray Q (l.drop n) a' (w.drewN m)) (l.take n) a) :
    (Code.region id l.toArray true).wp P Q a w := by
  refine wp_region_rg (C := fun w' => ∃ n, w' = w.drewN n) [] (List.range n) g hm hB hQ ⟨1, rfl⟩ ?_
  refine wpQuiet_nil ?_
  rw [range_filterMap, show l.length - g = n by omega]
  have e : (fun a' => ∀ w', (∃ n, w' = w.drewN n) → wpList P l.toArray Q (l.drop n) a' w') = (fun a' => ∀ m, wpList P l.toArray Q (l.drop n) a' (w.drewN m)) := by
    funext a'
    apply propext
    exact ⟨fun h m => h _ ⟨m, rfl⟩, fun h w' ⟨m, hm⟩ => by rw [hm]; exact h m⟩
  rw [e]
  exact h

theorem range1_filterMap (o : Oper) (l : List Oper) (n : Nat) : (List.range' 1 n).filterMap ((o :: l)[·]?) = l.take n := by
  rw [← range_filterMap l n, List.range_eq_range', List.range'_eq_map_range, List.filterMap_map, List.range'_eq_map_range, List.filterMap_map]
  congr 1
  funext i
  simp [Nat.add_comm]
/-- The first operation floats; then a head of n operations, then the last g as a chain; at one world but for draws. -/
theorem wp_region_f1 {id : Nat} {o : Oper} {l : List Oper} {a : Act} {w : World} (n g : Nat) (hl : l.length = n + g) (hm : P.follows .mixedOrders = true) (hB : rgB .any (o :: l).toArray [0] (List.range' 1 n) g = true)
    (hQ : ∀ c d v a w, Q (.panic c) (Act.put a d v) w → Q (.panic c) a w)
    (h : Nonempty World → wpQuiet P (o :: l).toArray (fun w' => ∃ z : World, w' = z) (wpQuiet P (o :: l).toArray (fun w' => ∃ n, w' = w.drewN n) (fun a' => ∀ m, wpList P (o :: l).toArray Q (l.drop n) a' (w.drewN m)) (l.take n)) [o] a) :
    (Code.region id (o :: l).toArray true).wp P Q a w := by
  refine wp_region_rg (C := fun w' => ∃ n, w' = w.drewN n) [0] (List.range' 1 n) g hm hB hQ ⟨1, rfl⟩ ?_
  rw [range1_filterMap, show (o :: l).length - g = n + 1 by simp; omega, List.drop_succ_cons]
  have e : (fun a' => ∀ w', (∃ n, w' = w.drewN n) → wpList P (o :: l).toArray Q (l.drop n) a' w') = (fun a' => ∀ m, wpList P (o :: l).toArray Q (l.drop n) a' (w.drewN m)) := by
    funext a'
    apply propext
    exact ⟨fun h m => h _ ⟨m, rfl⟩, fun h w' ⟨m, hm⟩ => by rw [hm]; exact h m⟩
  rw [e]
  exact h ⟨w⟩
end
end Go.Proofs.Ythmhbefbjbkabaa
