/-
  A region that draws its order: some operations that yield their value in whatever world (F), then quiet ones (H), then the rest one by one, these numbers (T).
-/
import Derived.Test.YtgjkkcggcljcdaaDoorRg2
namespace Go.Proofs.YtgjkkcggcljcdaaDoor
section
variable {P : Program} {ops : Array Oper} {Q : Exit → Act → World → Prop} {md : Region.Mode} {C : World → Prop}
/-- These come up one by one. -/
def listB (md : Region.Mode) (ops : Array Oper) : List Nat → Array Bool → Bool
  | [], listed => (Region.ready md ops listed).isEmpty
  | i :: is, listed => decide (Region.ready md ops listed = [i]) && (decide (i < ops.size)) && listB md ops is (listed.setIfInBounds i true)
theorem wpAny_of_list : ∀ (is : List Nat) (listed : Array Bool) (a : Act) (w : World), listB md ops is listed = true → wpList P ops Q (is.filterMap (ops[·]?)) a w → wpAny P md ops Q is.length listed a w
  | [], _, _, _, hB, h => ⟨by simpa [listB] using hB, h⟩
  | i :: is, listed, a, w, hB, h => by
    simp only [listB, Bool.and_eq_true, decide_eq_true_eq] at hB
    obtain ⟨⟨h1, h2⟩, h3⟩ := hB
    refine ⟨fun h0 => (by rw [h1] at h0; cases h0), fun j hj => ?_⟩
    rw [h1] at hj
    obtain rfl : j = i := by simpa using hj
    have h4 : ops[j]? = some ops[j] := by simp [h2]
    rw [List.filterMap_cons, h4] at h
    have hw : wpOp P ops Q j (wpList P ops Q (is.filterMap (ops[·]?))) a w := by unfold wpOp; simp only [h4]; exact h
    exact wpOp_mono (fun a' w' h' => wpAny_of_list is _ a' w' h3 h') hw
/-- The Bool of such a region. -/
def rgT (md : Region.Mode) (ops : Array Oper) (F H T : List Nat) : Bool :=
  Region.noSelect ops && decide (T.length + H.length + F.length = ops.size) &&
  floatB md ops (fun listed => headB md ops (marked H listed) H listed && listB md ops T (marked H listed)) F (Array.replicate ops.size false)
theorem wp_region_rgt {id : Nat} {l : List Oper} {a : Act} {w : World} (F H T : List Nat) (hm : P.follows .mixedOrders = true) (hB : rgT .any l.toArray F H T = true)
    (hQ : ∀ c d v a w, Q (.panic c) (Act.put a d v) w → Q (.panic c) a w) (hC : C { w with drawn := w.drawn + 1 })
    (h : wpQuiet P l.toArray (fun w' => ∃ z : World, w' = z) (wpQuiet P l.toArray C (fun a' => ∀ w', C w' → wpList P l.toArray Q (T.filterMap (l[·]?)) a' w') (H.filterMap (l[·]?))) (F.filterMap (l[·]?)) a) :
    (Code.region id l.toArray true).wp P Q a w := by
  simp only [rgT, Bool.and_eq_true, decide_eq_true_eq] at hB
  obtain ⟨⟨hsel, hsz⟩, hfl⟩ := hB
  refine wp_region_any hm ?_
  rw [← hsz]
  refine wpAny_float (R := wpQuiet P l.toArray C (fun a' => ∀ w', C w' → wpList P l.toArray Q (T.filterMap (l[·]?)) a' w') (H.filterMap (l[·]?))) hsel hQ ?_ F _ a (by rw [hsz]; exact hfl) (Clos.zero _) (by simpa using h)
  intro listed a' hn hcl hR
  simp only [Bool.and_eq_true] at hn
  refine wpAny_of_hd (g := T.length) (L := fun l' a' => l' = marked H listed ∧ ∀ w', C w' → wpList P l.toArray Q (T.filterMap (l[·]?)) a' w') ?_ H.length listed a' _ (wpHd_of_quiet hsel H listed a' hn.1 hcl (by simpa using hR)) hC
  intro listed' a'' w'' hL hC''
  obtain ⟨rfl, hL⟩ := hL
  exact wpAny_of_list T _ a'' w'' hn.2 (by simpa using hL w'' hC'')
/-- At one world but for draws; the operations named. -/
theorem wp_region_fht {id : Nat} {l : List Oper} {a : Act} {w : World} (F H T : List Nat) {lF lH lT : List Oper} (hm : P.follows .mixedOrders = true) (hB : rgT .any l.toArray F H T = true)
    (hQ : ∀ c d v a w, Q (.panic c) (Act.put a d v) w → Q (.panic c) a w) (eF : F.filterMap (l[·]?) = lF) (eH : H.filterMap (l[·]?) = lH) (eT : T.filterMap (l[·]?) = lT)
    (h : Nonempty World → wpQuiet P l.toArray (fun w' => ∃ z : World, w' = z) (wpQuiet P l.toArray (fun w' => ∃ n, w' = w.drewN n) (fun a' => ∀ m, wpList P l.toArray Q lT a' (w.drewN m)) lH) lF a) :
    (Code.region id l.toArray true).wp P Q a w := by
  refine wp_region_rgt (C := fun w' => ∃ n, w' = w.drewN n) F H T hm hB hQ ⟨1, rfl⟩ ?_
  subst eF eH eT
  have e : (fun a' => ∀ w', (∃ n, w' = w.drewN n) → wpList P l.toArray Q (T.filterMap (l[·]?)) a' w') = (fun a' => ∀ m, wpList P l.toArray Q (T.filterMap (l[·]?)) a' (w.drewN m)) := by
    funext a'
    apply propext
    exact ⟨fun h m => h _ ⟨m, rfl⟩, fun h w' ⟨m, hm⟩ => by rw [hm]; exact h m⟩
  rw [e]
  exact h ⟨w⟩
end
end Go.Proofs.YtgjkkcggcljcdaaDoor
