/-
  A region that draws its order: a head of operations and calls each of which yields ONE value in every world that meets S, and keeps S, may be walked in the order of the text; then a tail.
-/
import Derived.Test.YtgjkkcggcljcdaaDoorBase
import Derived.Test.YtgjkkcggcljcdaaDoorShaTake
namespace Go.Proofs.YtgjkkcggcljcdaaDoor
section
variable {P : Program} {ops : Array Oper} {Q : Exit → Act → World → Prop} {md : Region.Mode} {S : World → Prop}

/-- In state a, in every world that meets S, operation o leaves v in its temporary, and S holds behind it; it may be a call. -/
def YieldsS (P : Program) (ops : Array Oper) (S : World → Prop) (o : Oper) (v : Value) (a : Act) : Prop :=
  (Region.wanted o (yielded ops a.tmps) = true ∧ ∀ w, S w → (∃ w', (execOp a.eval o).run P w = .ok (.value v) w' ∧ S w') ∨
    ∃ f args w', (execOp a.eval o).run P w = .ok (.enter f args) w' ∧ Calls P f args w' fun e w'' => e = .returned v ∧ S w'') ∨
  (Region.wanted o (yielded ops a.tmps) = false ∧ v = undef)

theorem YieldsS.wpOp {i : Nat} {o : Oper} {v : Value} {a : Act} (hi : ops[i]? = some o) (hy : YieldsS P ops S o v a) {K : Act → World → Prop} {w : World} (hS : S w)
    (h : ∀ w', S w' → K (a.put o.dst v) w') : wpOp P ops Q i K a w := by
  unfold Go.wpOp
  simp only [hi]
  rcases hy with ⟨hw, hv⟩ | ⟨hw, rfl⟩
  · simp only [hw, if_true, Oper.wp]
    refine .inl ?_
    rcases hv w hS with ⟨w', e, h'⟩ | ⟨f, args, w', e, hc⟩
    · rw [e]; exact h w' h'
    · rw [e]
      refine Calls.mono hc fun e w'' he => ?_
      obtain ⟨rfl, hs⟩ := he
      exact h w'' hs
  · simp only [hw, Bool.false_eq_true, if_false]; exact h w hS

theorem YieldsS.of_same {o : Oper} {v : Value} {a a' : Act} (hy : YieldsS P ops S o v a) (he : execOp a'.eval o = execOp a.eval o)
    (hw : Region.wanted o (yielded ops a'.tmps) = Region.wanted o (yielded ops a.tmps)) : YieldsS P ops S o v a' := by
  unfold YieldsS at *
  rw [he, hw]
  exact hy

theorem yieldsS_call {o : Oper} {v : Value} {a : Act} {f : FuncId} {l : List Operand} {ts : Array TypeId} {args : List Value} (hw : Region.wanted o (yielded ops a.tmps) = true)
    (ho : o.op = .call { callee := .value (.func f), args := l.toArray, argTypes := ts }) (ha : l.map a.eval = args)
    (hcf : ∀ w, (callFunc f args.toArray).run P w = .ok (.enter f args.toArray) w) (hc : ∀ w, S w → Calls P f args.toArray w fun e w'' => e = .returned v ∧ S w'') : YieldsS P ops S o v a := by
  refine Or.inl ⟨hw, fun w hS => Or.inr ⟨f, args.toArray, w, ?_, hc w hS⟩⟩
  unfold execOp
  simp [ho, resolve, invoke, Deferred.ofValue, hcf, ha, Act.eval]

/-- Whatever order is picked for the next operations, all of that kind; then L. -/
def wpS (P : Program) (md : Region.Mode) (ops : Array Oper) (S : World → Prop) (L : Array Bool → Act → Prop) : Nat → Array Bool → Act → Prop
  | 0, listed, a => L listed a
  | fuel + 1, listed, a => Region.ready md ops listed ≠ [] ∧
    ∀ i ∈ Region.ready md ops listed, ∃ o v, ops[i]? = some o ∧ YieldsS P ops S o v a ∧ wpS P md ops S L fuel (listed.setIfInBounds i true) (a.put o.dst v)

theorem wpAny_of_S {g : Nat} {L : Array Bool → Act → Prop} (hL : ∀ listed a w, L listed a → S w → wpAny P md ops Q g listed a w) :
    ∀ (fuel : Nat) (listed : Array Bool) (a : Act) (w : World), wpS P md ops S L fuel listed a → S w → wpAny P md ops Q (g + fuel) listed a w
  | 0, _, _, _, h, hS => hL _ _ _ h hS
  | fuel + 1, _, _, _, h, hS => ⟨fun h0 => absurd h0 h.1, fun i hi => by
      obtain ⟨o, v, ho, hy, hr⟩ := h.2 i hi
      exact hy.wpOp ho hS fun w' hS' => wpAny_of_S hL fuel _ _ w' hr hS'⟩

/-- What has come up had all come up that it waits for. -/
def Closed (md : Region.Mode) (ops : Array Oper) (listed : Array Bool) : Prop :=
  ∀ (j : Nat) (o : Oper), ops[j]? = some o → listed.getD j false = true → ∀ e ∈ o.after, Region.binds md e = true → listed.getD e.on false = true
def closedB (md : Region.Mode) (ops : Array Oper) (listed : Array Bool) : Bool :=
  (List.range ops.size).all fun j => !listed.getD j false || ((ops[j]?).map fun o => o.after.all fun e => !Region.binds md e || listed.getD e.on false).getD true
theorem closed_of {listed : Array Bool} (h : closedB md ops listed = true) : Closed md ops listed := by
  intro j o ho hj e he hb
  have h1 := List.all_eq_true.1 h j (List.mem_range.2 (Array.getElem?_eq_some_iff.1 ho).1)
  simp only [hj, Bool.not_true, Bool.false_or, ho, Option.map_some, Option.getD_some] at h1
  have h2 := Array.all_eq_true'.1 h1 e he
  simpa [hb] using h2
theorem Closed.set {listed : Array Bool} {i : Nat} (h : Closed md ops listed) (hr : i ∈ Region.ready md ops listed) : Closed md ops (listed.setIfInBounds i true) := by
  intro j o ho hj e he hb
  by_cases hji : j = i
  · subst hji
    obtain ⟨_, o', ho', hall⟩ := mem_ready.1 hr
    obtain rfl : o' = o := Option.some.inj (ho'.symm.trans ho)
    exact getD_set_true (hall e he hb)
  · rw [getD_set_ne false (Ne.symm hji)] at hj
    exact getD_set_true (h j o ho hj e he hb)
/-- With all but i of the head come up, only i may come up: or something of the head waits for i. -/
def sinkOk (md : Region.Mode) (ops : Array Oper) (LT : Array Bool) (i : Nat) : Bool :=
  decide (Region.ready md ops (LT.setIfInBounds i false) = [i]) ||
  (List.range ops.size).any fun j => j != i && LT.getD j false && ((ops[j]?).map fun o => o.after.any fun e => Region.binds md e && e.on == i).getD false

theorem wpS_first {L : Array Bool → Act → Prop} {LT : Array Bool} (hLT : ∀ listed a, L listed a → listed = LT)
    {i : Nat} {oi : Oper} {v : Value} (hs : sinkOk md ops LT i = true) (hi : ops[i]? = some oi) (hsel : ∀ (j : Nat) (o : Oper) cs b, ops[j]? = some o → o.op ≠ .select cs b) :
    ∀ (fuel : Nat) (listed : Array Bool) (a : Act),
      (∀ j oj, ops[j]? = some oj → j ≠ i → listed.getD j true = false → (∀ e ∈ oj.after, Region.binds md e = true → e.on ≠ i) → oi.apart ops oj = true) →
      i ∈ Region.ready md ops listed → Closed md ops listed → YieldsS P ops S oi v a →
      wpS P md ops S L fuel (listed.setIfInBounds i true) (a.put oi.dst v) → wpS P md ops S L (fuel + 1) listed a := by
  intro fuel
  induction fuel with
  | zero =>
    intro listed a _ hr hcl hy H
    have e := hLT _ _ H
    have h0 := (mem_ready.1 hr).1
    have hlt : i < listed.size := by
      rcases Nat.lt_or_ge i listed.size with h' | h'
      · exact h'
      · simp [Array.getElem?_eq_none h'] at h0
    have hli : listed[i] = false := by simpa [hlt] using h0
    have el : LT.setIfInBounds i false = listed := by
      rw [← e]
      apply Array.ext_getElem?
      intro k
      by_cases hk : i = k
      · subst hk; simp [hlt, hli]
      · rw [Array.getElem?_setIfInBounds_ne hk, Array.getElem?_setIfInBounds_ne hk]
    have hone : Region.ready md ops listed = [i] := by
      simp only [sinkOk, Bool.or_eq_true, decide_eq_true_eq] at hs
      rcases hs with hs | hs
      · rw [← el]; exact hs
      · exfalso
        obtain ⟨j, _, hj⟩ := List.any_eq_true.1 hs
        simp only [Bool.and_eq_true, bne_iff_ne] at hj
        obtain ⟨⟨hji, hjl⟩, hjo⟩ := hj
        cases hoj : ops[j]? with
        | none => rw [hoj] at hjo; simp at hjo
        | some oj =>
          rw [hoj] at hjo
          simp only [Option.map_some, Option.getD_some] at hjo
          obtain ⟨e', he', hb'⟩ := Array.any_eq_true'.1 hjo
          simp only [Bool.and_eq_true, beq_iff_eq] at hb'
          rw [← e, getD_set_ne false (Ne.symm hji)] at hjl
          have := hcl j oj hoj hjl e' he' hb'.1
          rw [hb'.2] at this
          simp [hlt, hli] at this
    refine ⟨by rw [hone]; simp, fun j hj => ?_⟩
    rw [hone] at hj
    obtain rfl : j = i := by simpa using hj
    exact ⟨oi, v, hi, hy, H⟩
  | succ fuel ih =>
    intro listed a hfree hr hcl hy H
    refine ⟨fun h => (by rw [h] at hr; cases hr), fun j hj => ?_⟩
    by_cases hji : j = i
    · subst hji; exact ⟨oi, v, hi, hy, H⟩
    · obtain ⟨oj, u, hoj, hyj, Hj⟩ := H.2 j (ready_mono hj hji)
      obtain ⟨hjun, oj', hoj', hall⟩ := mem_ready.1 hj
      obtain rfl : oj' = oj := Option.some.inj (hoj'.symm.trans hoj)
      have hnot : ∀ e ∈ oj'.after, Region.binds md e = true → e.on ≠ i := fun e he hb heq => by
        have h1 := hall e he hb
        have h0 := (mem_ready.1 hr).1
        rw [heq] at h1
        rcases Nat.lt_or_ge i listed.size with h' | h'
        · simp [h'] at h0 h1; rw [h0] at h1; cases h1
        · simp [Array.getElem?_eq_none h'] at h1
      have hfree' : ∀ k ok, ops[k]? = some ok → k ≠ i → (listed.setIfInBounds j true).getD k true = false →
          (∀ e ∈ ok.after, Region.binds md e = true → e.on ≠ i) → oi.apart ops ok = true := fun k ok hk hki hun hno => by
        refine hfree k ok hk hki ?_ hno
        by_cases hjk : j = k
        · subst hjk; exact hjun
        · rw [getD_set_ne true hjk] at hun; exact hun
      obtain ⟨h1, h2, h3⟩ := Oper.apart_spec (hfree j oj' hoj hji hjun hnot)
      refine ⟨oj', u, hoj, hyj.of_same (execOp_put oj' (fun cs b => hsel j oj' cs b hoj) a oi.dst v h1).symm (wanted_put oj' a oi.dst v h1).symm, ?_⟩
      refine ih (listed.setIfInBounds j true) (a.put oj'.dst u) hfree' (ready_mono hr (Ne.symm hji)) (hcl.set hj) (hy.of_same (execOp_put oi (fun cs b => hsel i oi cs b hi) a oj'.dst u h3) (wanted_put oi a oj'.dst u h3)) ?_
      rw [Array.setIfInBounds_comm _ _ hji, ← Act.put_comm a v u h2]
      exact Hj

/-- What is asked behind the head: the tail, in every world that meets S. -/
def Leaf (P : Program) (md : Region.Mode) (ops : Array Oper) (Q : Exit → Act → World → Prop) (S : World → Prop) (LT : Array Bool) (g : Nat) (listed : Array Bool) (a : Act) : Prop :=
  listed = LT ∧ ∀ w, S w → wpAny P md ops Q g LT a w

theorem wpS_take {LT : Array Bool} {g : Nat} {i : Nat} {oi : Oper} {v : Value} {fuel : Nat} {listed : Array Bool} {a : Act} (hs : sinkOk md ops LT i = true) (hcl : closedB md ops listed = true) (hi : ops[i]? = some oi)
    (hsel : Region.noSelect ops = true) (hf : Region.free md ops listed i = true) (hr : (Region.ready md ops listed).contains i = true) (hy : YieldsS P ops S oi v a)
    (h : wpS P md ops S (Leaf P md ops Q S LT g) fuel (listed.setIfInBounds i true) (a.put oi.dst v)) : wpS P md ops S (Leaf P md ops Q S LT g) (fuel + 1) listed a :=
  wpS_first (fun _ _ h => h.1) hs hi (Region.noSelect_spec hsel) fuel listed a (Region.free_spec hi hf) (by simpa using hr) (closed_of hcl) hy h

/-- The beginning, n operations of the head and g of the tail left: also behind operations that were taken first. -/
theorem wpAny_S {n g f : Nat} {listed : Array Bool} {a : Act} {w : World} (LT : Array Bool) (hn : f = g + n) (hS : S w)
    (h : wpS P md ops S (Leaf P md ops Q S LT g) n listed a) : wpAny P md ops Q f listed a w := by
  subst hn
  exact wpAny_of_S (fun listed a w (hl : Leaf P md ops Q S LT g listed a) hS => by rw [hl.1]; exact hl.2 w hS) n listed a w h hS
end
end Go.Proofs.YtgjkkcggcljcdaaDoor
