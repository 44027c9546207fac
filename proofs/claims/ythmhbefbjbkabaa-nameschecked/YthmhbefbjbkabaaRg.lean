/-
  A region that draws its order, walked once: some operations that yield their value in whatever world (F), then operations and calls each of which yields one value in every world of a class and leaves a world of it (H), then a tail that is a chain.
-/
import Derived.BigQuiet
import Derived.StillTail
import Derived.WalkKit
namespace Go.Proofs.Ythmhbefbjbkabaa
section
variable {P : Program} {ops : Array Oper} {Q : Exit → Act → World → Prop} {md : Region.Mode} {C : World → Prop}

/-- Whatever order is picked for the next operations, all quiet in the class; then L. -/
def wpHd (P : Program) (md : Region.Mode) (ops : Array Oper) (C : World → Prop) (L : Array Bool → Act → Prop) : Nat → Array Bool → Act → Prop
  | 0, listed, a => L listed a
  | fuel + 1, listed, a => Region.ready md ops listed ≠ [] ∧ ∀ i ∈ Region.ready md ops listed, qOp P ops C i (wpHd P md ops C L fuel (listed.setIfInBounds i true)) a

theorem wpAny_of_hd {g : Nat} {L : Array Bool → Act → Prop} (hL : ∀ listed a w, L listed a → C w → wpAny P md ops Q g listed a w) :
    ∀ (fuel : Nat) (listed : Array Bool) (a : Act) (w : World), wpHd P md ops C L fuel listed a → C w → wpAny P md ops Q (g + fuel) listed a w
  | 0, _, _, _, h, hC => hL _ _ _ h hC
  | fuel + 1, _, _, _, h, hC => ⟨fun h0 => absurd h0 h.1, fun i hi => wpOp_of_qOp hC (fun a' w' hw' h' => wpAny_of_hd hL fuel _ a' w' h' hw') (h.2 i hi)⟩

/-- What has come up had all come up that it waits for. -/
def Clos (md : Region.Mode) (ops : Array Oper) (listed : Array Bool) : Prop :=
  ∀ (j : Nat) (o : Oper), ops[j]? = some o → listed.getD j false = true → ∀ e ∈ o.after, Region.binds md e = true → listed.getD e.on false = true
theorem Clos.set {listed : Array Bool} {i : Nat} (h : Clos md ops listed) (hr : i ∈ Region.ready md ops listed) : Clos md ops (listed.setIfInBounds i true) := by
  intro j o ho hj e he hb
  by_cases hji : j = i
  · subst hji
    obtain ⟨_, o', ho', hall⟩ := mem_ready.1 hr
    obtain rfl : o' = o := Option.some.inj (ho'.symm.trans ho)
    exact getD_set_true (hall e he hb)
  · rw [getD_set_ne false (Ne.symm hji)] at hj
    exact getD_set_true (h j o ho hj e he hb)
theorem Clos.zero (n : Nat) : Clos md ops (Array.replicate n false) := by
  intro j o _ hj
  rw [getD_replicate_false] at hj
  cases hj
/-- With all but i of the head come up, only i may come up: or something of the head waits for i. -/
def sinkAt (md : Region.Mode) (ops : Array Oper) (LT : Array Bool) (i : Nat) : Bool :=
  decide (Region.ready md ops (LT.setIfInBounds i false) = [i]) ||
  (List.range ops.size).any fun j => j != i && LT.getD j false && ((ops[j]?).map fun o => o.after.any fun e => Region.binds md e && e.on == i).getD false

theorem wpHd_first {L : Array Bool → Act → Prop} {LT : Array Bool} (hLT : ∀ listed a, L listed a → listed = LT)
    {i : Nat} {oi : Oper} {v : Value} (hs : sinkAt md ops LT i = true) (hi : ops[i]? = some oi) (hsel : ∀ (j : Nat) (o : Oper) cs b, ops[j]? = some o → o.op ≠ .select cs b) :
    ∀ (fuel : Nat) (listed : Array Bool) (a : Act),
      (∀ j oj, ops[j]? = some oj → j ≠ i → listed.getD j true = false → (∀ e ∈ oj.after, Region.binds md e = true → e.on ≠ i) → oi.apart ops oj = true) →
      i ∈ Region.ready md ops listed → Clos md ops listed → YieldsIn P ops C oi v a →
      wpHd P md ops C L fuel (listed.setIfInBounds i true) (a.put oi.dst v) → wpHd P md ops C L (fuel + 1) listed a := by
  intro fuel
  induction fuel with
  | zero =>
    intro listed a _ hr hcl hy H
    have e := hLT _ _ H
    have h0 := (mem_ready.1 hr).1
    have hlt : i < listed.size := by
      rcases Nat.lt_or_ge i listed.size with h' | h'
      · exact h'
      · simp [Array.getElem?_eq_none h'] at h0
    have hli : listed[i] = false := by simpa [hlt] using h0
    have el : LT.setIfInBounds i false = listed := by
      rw [← e]
      apply Array.ext_getElem?
      intro k
      by_cases hk : i = k
      · subst hk; simp [hlt, hli]
      · rw [Array.getElem?_setIfInBounds_ne hk, Array.getElem?_setIfInBounds_ne hk]
    have hone : Region.ready md ops listed = [i] := by
      simp only [sinkAt, Bool.or_eq_true, decide_eq_true_eq] at hs
      rcases hs with hs | hs
      · rw [← el]; exact hs
      · exfalso
        obtain ⟨j, _, hj⟩ := List.any_eq_true.1 hs
        simp only [Bool.and_eq_true, bne_iff_ne] at hj
        obtain ⟨⟨hji, hjl⟩, hjo⟩ := hj
        cases hoj : ops[j]? with
        | none => rw [hoj] at hjo; simp at hjo
        | some oj =>
          rw [hoj] at hjo
          simp only [Option.map_some, Option.getD_some] at hjo
          obtain ⟨e', he', hb'⟩ := Array.any_eq_true'.1 hjo
          simp only [Bool.and_eq_true, beq_iff_eq] at hb'
          rw [← e, getD_set_ne false (Ne.symm hji)] at hjl
          have := hcl j oj hoj hjl e' he' hb'.1
          rw [hb'.2] at this
          simp [hlt, hli] at this
    refine ⟨by rw [hone]; simp, fun j hj => ?_⟩
    rw [hone] at hj
    obtain rfl : j = i := by simpa using hj
    exact hy.qOp hi H
  | succ fuel ih =>
    intro listed a hfree hr hcl hy H
    refine ⟨fun h => (by rw [h] at hr; cases hr), fun j hj => ?_⟩
    by_cases hji : j = i
    · subst hji; exact hy.qOp hi H
    · have h1 := H.2 j (ready_mono hj hji)
      obtain ⟨hjun, oj, hoj, hall⟩ := mem_ready.1 hj
      have hnot : ∀ e ∈ oj.after, Region.binds md e = true → e.on ≠ i := fun e he hb heq => by
        have h1 := hall e he hb
        have h0 := (mem_ready.1 hr).1
        rw [heq] at h1
        rcases Nat.lt_or_ge i listed.size with h' | h'
        · simp [h'] at h0 h1; rw [h0] at h1; cases h1
        · simp [Array.getElem?_eq_none h'] at h1
      have h2 := qOp_put hoj (hfree j oj hoj hji hjun hnot) (fun cs b => hsel i oi cs b hi) (fun cs b => hsel j oj cs b hoj) hy h1
      have hfree' : ∀ k ok, ops[k]? = some ok → k ≠ i → (listed.setIfInBounds j true).getD k true = false →
          (∀ e ∈ ok.after, Region.binds md e = true → e.on ≠ i) → oi.apart ops ok = true := fun k ok hk hki hun hno => by
        refine hfree k ok hk hki ?_ hno
        by_cases hjk : j = k
        · subst hjk; exact hjun
        · rw [getD_set_ne true hjk] at hun; exact hun
      refine qOp_mono (fun a' h3 => ih (listed.setIfInBounds j true) a' hfree' (ready_mono hr (Ne.symm hji)) (hcl.set hj) h3.1 ?_) h2
      rw [Array.setIfInBounds_comm _ _ hji]
      exact h3.2

/-- The operations of these numbers come up in this order, each free; LT has come up behind them. -/
def headB (md : Region.Mode) (ops : Array Oper) (LT : Array Bool) : List Nat → Array Bool → Bool
  | [], listed => listed == LT
  | i :: is, listed => sinkAt md ops LT i && (Region.ready md ops listed).contains i && Region.free md ops listed i && headB md ops LT is (listed.setIfInBounds i true)

theorem wpHd_of_quiet {LT : Array Bool} {R : Act → Prop} (hsel : Region.noSelect ops = true) : ∀ (is : List Nat) (listed : Array Bool) (a : Act), headB md ops LT is listed = true → Clos md ops listed →
    wpQuiet P ops C R (is.filterMap (ops[·]?)) a → wpHd P md ops C (fun l a' => l = LT ∧ R a') is.length listed a
  | [], listed, a, hB, _, h => ⟨by simpa [headB] using hB, h⟩
  | i :: is, listed, a, hB, hcl, h => by
    simp only [headB, Bool.and_eq_true] at hB
    obtain ⟨⟨⟨hs, hr⟩, hf⟩, hB'⟩ := hB
    have hr' : i ∈ Region.ready md ops listed := by simpa using hr
    obtain ⟨_, o, ho, _⟩ := mem_ready.1 hr'
    rw [List.filterMap_cons, ho] at h
    have hst : qOp P ops C i (wpQuiet P ops C R (is.filterMap (ops[·]?))) a := by unfold qOp; simp only [ho]; exact h
    obtain ⟨v, hy, hK⟩ := yieldsIn_of_qOp ho hst
    exact wpHd_first (fun _ _ h => h.1) hs ho (Region.noSelect_spec hsel) is.length listed a (Region.free_spec ho hf) hr' hcl hy
      (wpHd_of_quiet hsel is _ _ hB' (hcl.set hr') hK)

/-- It yields a value, and is no call. -/
def plainOp : Op → Bool
  | .move _ | .assign _ | .load .. | .binOp .. | .unOp .. | .convert .. | .slice .. | .fieldAddr .. | .field .. | .indexAddr .. | .index .. | .extract .. | .makeInterface .. => true
  | _ => false
theorem bind_value {s : Sem Value} {w : World} : ∀ n w', (do pure (Next.value (← s)) : Sem Next).run P w = .ok n w' → ∃ v, n = .value v := by
  intro n w' h
  rw [Sem.run_bind] at h
  cases hs : s.run P w with
  | ok v w1 => rw [hs] at h; simp only [Result.andThen_ok, Sem.run_pure] at h; cases h; exact ⟨v, rfl⟩
  | halt x w1 => rw [hs] at h; simp [Result.andThen] at h
theorem plain_value {o : Oper} (h : plainOp o.op = true) {ρ : Operand → Value} {w w' : World} {n : Next} (hr : (execOp ρ o).run P w = .ok n w') : ∃ v, n = .value v := by
  unfold execOp at hr
  generalize o.op = op at h hr
  cases op <;> first | exact absurd h Bool.false_ne_true | exact bind_value _ _ hr | (change Result.ok (Next.value _) w = _ at hr; cases hr; exact ⟨_, rfl⟩)
theorem yields_of_quiet {o : Oper} {v : Value} {a : Act} (h : plainOp o.op = true) (hy : YieldsIn P ops (fun w' => ∃ z : World, w' = z) o v a) : Yields P ops o v a := by
  rcases hy with ⟨hw, hv⟩ | h0
  · refine .inl ⟨hw, fun w => ?_⟩
    have h1 := hv w ⟨w, rfl⟩
    unfold Oper.quietAt at h1
    cases hr : (execOp a.eval o).run P w with
    | ok n w' =>
      obtain ⟨u, rfl⟩ := plain_value h hr
      rw [hr] at h1
      simp only [Oper.quietUpon] at h1
      rw [h1.1, h1.2]
    | halt x w' => rw [hr] at h1; simp only [Oper.quietUpon] at h1
  · exact .inr h0

/-- These come up in this order, each free, each plain; nxt is asked of what has come up behind them. -/
def floatB (md : Region.Mode) (ops : Array Oper) (nxt : Array Bool → Bool) : List Nat → Array Bool → Bool
  | [], listed => nxt listed
  | i :: is, listed => ((ops[i]?).map fun o => plainOp o.op).getD false && (Region.ready md ops listed).contains i && Region.free md ops listed i && floatB md ops nxt is (listed.setIfInBounds i true)
theorem wpAny_float {nxt : Array Bool → Bool} {R : Act → Prop} {f : Nat} {w : World} (hsel : Region.noSelect ops = true) (hQ : ∀ c d v a w, Q (.panic c) (Act.put a d v) w → Q (.panic c) a w)
    (hn : ∀ listed a, nxt listed = true → Clos md ops listed → R a → wpAny P md ops Q f listed a w) : ∀ (is : List Nat) (listed : Array Bool) (a : Act), floatB md ops nxt is listed = true → Clos md ops listed →
    wpQuiet P ops (fun w' => ∃ z : World, w' = z) R (is.filterMap (ops[·]?)) a → wpAny P md ops Q (f + is.length) listed a w
  | [], listed, a, hB, hcl, h => hn listed a hB hcl h
  | i :: is, listed, a, hB, hcl, h => by
    simp only [floatB, Bool.and_eq_true] at hB
    obtain ⟨⟨⟨hs, hr⟩, hf⟩, hB'⟩ := hB
    have hr' : i ∈ Region.ready md ops listed := by simpa using hr
    obtain ⟨_, o, ho, _⟩ := mem_ready.1 hr'
    rw [List.filterMap_cons, ho] at h
    rw [ho] at hs
    have hst : qOp P ops (fun w' => ∃ z : World, w' = z) i (wpQuiet P ops (fun w' => ∃ z : World, w' = z) R (is.filterMap (ops[·]?))) a := by unfold qOp; simp only [ho]; exact h
    obtain ⟨v, hy, hK⟩ := yieldsIn_of_qOp ho hst
    exact wpAny_take (fuel := f + is.length) ho hsel hf hr (fun c a w => hQ c o.dst v a w) (yields_of_quiet hs hy) (wpAny_float hsel hQ hn is _ _ hB' (hcl.set hr') hK)

/-- What has come up behind these. -/
def marked (is : List Nat) (listed : Array Bool) : Array Bool := is.foldl (fun l i => l.setIfInBounds i true) listed
/-- The Bool of a region: F, H, then the last g as a chain. -/
def rgB (md : Region.Mode) (ops : Array Oper) (F H : List Nat) (g : Nat) : Bool :=
  Region.noSelect ops && decide (g + H.length + F.length = ops.size) &&
  floatB md ops (fun listed => headB md ops (marked H listed) H listed && Region.seqB md ops g (ops.size - g) (marked H listed)) F (Array.replicate ops.size false)

theorem wp_region_rg {id : Nat} {l : List Oper} {a : Act} {w : World} (F H : List Nat) (g : Nat) (hm : P.follows .mixedOrders = true) (hB : rgB .any l.toArray F H g = true)
    (hQ : ∀ c d v a w, Q (.panic c) (Act.put a d v) w → Q (.panic c) a w) (hC : C { w with drawn := w.drawn + 1 })
    (h : wpQuiet P l.toArray (fun w' => ∃ z : World, w' = z) (wpQuiet P l.toArray C (fun a' => ∀ w', C w' → wpList P l.toArray Q (l.drop (l.length - g)) a' w') (H.filterMap (l[·]?))) (F.filterMap (l[·]?)) a) :
    (Code.region id l.toArray true).wp P Q a w := by
  simp only [rgB, Bool.and_eq_true, decide_eq_true_eq] at hB
  obtain ⟨⟨hsel, hsz⟩, hfl⟩ := hB
  refine wp_region_any hm ?_
  rw [← hsz]
  refine wpAny_float (R := wpQuiet P l.toArray C (fun a' => ∀ w', C w' → wpList P l.toArray Q (l.drop (l.length - g)) a' w') (H.filterMap (l[·]?))) hsel hQ ?_ F _ a (by rw [hsz]; exact hfl) (Clos.zero _) (by simpa using h)
  intro listed a' hn hcl hR
  simp only [Bool.and_eq_true] at hn
  refine wpAny_of_hd (g := g) (L := fun l' a' => l' = marked H listed ∧ ∀ w', C w' → wpList P l.toArray Q (l.drop (l.length - g)) a' w') ?_ H.length listed a' _ (wpHd_of_quiet hsel H listed a' hn.1 hcl (by simpa using hR)) hC
  intro listed' a'' w'' hL hC''
  obtain ⟨rfl, hL⟩ := hL
  have hg : (l.drop (l.length - g)).length = g := by
    have : g + H.length + F.length = l.length := by simpa using hsz
    rw [List.length_drop]; omega
  have hk := hn.2
  have := wpAny_of_seq (md := .any) (Q' := Q) (l.drop (l.length - g)) (l.length - g) (marked H listed) a'' w'' (fun j => by simp [List.getElem?_drop]) (by rw [hg]; simpa using hk) (hL w'' hC'')
  rwa [hg] at this
/-- The same with a class of worlds S behind names: every operation quiet in it. -/
theorem wp_region_class {id : Nat} {l : List Oper} {a : Act} {w : World} (S : World → Prop) (hm : P.follows .mixedOrders = true) (hB : Region.lexB .any l.toArray = true) (hS : S { w with drawn := w.drawn + 1 })
    (h : ∀ (Z : Type) (φ : Z → World), Nonempty Z → (∀ z, S (φ z)) → (∀ u, S u → ∃ z, u = φ z) → wpQuiet P l.toArray (fun w' => ∃ z, w' = φ z) (fun a' => ∀ z, Q .normal a' (φ z)) l a) :
    (Code.region id l.toArray true).wp P Q a w := by
  have h1 := h {u // S u} Subtype.val ⟨⟨_, hS⟩⟩ (fun z => z.2) (fun u hu => ⟨⟨u, hu⟩, rfl⟩)
  refine wp_region_quiet (C := fun w' => ∃ z : {u // S u}, w' = z.1) hm hB ⟨⟨_, hS⟩, rfl⟩ ?_
  change wpQuiet P l.toArray _ _ l.toArray.toList a
  have e : (fun a' => ∀ w', (∃ z : {u // S u}, w' = z.1) → Q .normal a' w') = (fun a' => ∀ z : {u // S u}, Q .normal a' z.1) := by
    funext a'
    apply propext
    exact ⟨fun h z => h _ ⟨z, rfl⟩, fun h w' ⟨z, hz⟩ => by rw [hz]; exact h z⟩
  rw [e]
  simpa using h1
theorem wp_region_rgc {id : Nat} {l : List Oper} {a : Act} {w : World} (S : World → Prop) (F H : List Nat) (g : Nat) (hm : P.follows .mixedOrders = true) (hB : rgB .any l.toArray F H g = true)
    (hQ : ∀ c d v a w, Q (.panic c) (Act.put a d v) w → Q (.panic c) a w) (hS : S { w with drawn := w.drawn + 1 })
    (h : ∀ (Z : Type) (φ : Z → World), Nonempty Z → Nonempty World → (∀ z, S (φ z)) → (∀ u, S u → ∃ z, u = φ z) →
      wpQuiet P l.toArray (fun w' => ∃ z : World, w' = z) (wpQuiet P l.toArray (fun w' => ∃ z, w' = φ z) (fun a' => ∀ z, wpList P l.toArray Q (l.drop (l.length - g)) a' (φ z)) (H.filterMap (l[·]?))) (F.filterMap (l[·]?)) a) :
    (Code.region id l.toArray true).wp P Q a w := by
  have h1 := h {u // S u} Subtype.val ⟨⟨_, hS⟩⟩ ⟨w⟩ (fun z => z.2) (fun u hu => ⟨⟨u, hu⟩, rfl⟩)
  refine wp_region_rg (C := fun w' => ∃ z : {u // S u}, w' = z.1) F H g hm hB hQ ⟨⟨_, hS⟩, rfl⟩ ?_
  have e : (fun a' => ∀ w', (∃ z : {u // S u}, w' = z.1) → wpList P l.toArray Q (l.drop (l.length - g)) a' w') = (fun a' => ∀ z : {u // S u}, wpList P l.toArray Q (l.drop (l.length - g)) a' z.1) := by
    funext a'
    apply propext
    exact ⟨fun h z => h _ ⟨z, rfl⟩, fun h w' ⟨z, hz⟩ => by rw [hz]; exact h z⟩
  rw [e]
  exact h1
theorem calls_class {S : World → Prop} {Z : Type} {φ : Z → World} (hφ : ∀ u, S u → ∃ z, u = φ z) {f : FuncId} {args : Array Value} {w : World} {v : Value} (h : Calls P f args w fun e w' => e = .returned v ∧ S w') :
    Calls P f args w fun e w'' => e = .returned v ∧ ∃ z, w'' = φ z :=
  h.mono fun _ _ ⟨he, hs⟩ => ⟨he, hφ _ hs⟩
end
end Go.Proofs.Ythmhbefbjbkabaa
