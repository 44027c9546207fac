/-
  A region that draws its order, by an invariant over what has come up: one proof for each operation, not one for each order.
-/
import Derived.Test.YtdlghblmhocmfaaDoorRg
namespace Go.Proofs.YtdlghblmhocmfaaDoor
section
variable {P : Program} {ops : Array Oper} {Q : Exit → Act → World → Prop} {md : Region.Mode}

/-- How many have not come up. -/
def unl (listed : Array Bool) : Nat := listed.toList.count false
theorem unl_set {listed : Array Bool} {i : Nat} (h : listed.getD i true = false) : unl (listed.setIfInBounds i true) + 1 = unl listed := by
  have hlt : i < listed.size := by
    rcases Nat.lt_or_ge i listed.size with h' | h'
    · exact h'
    · simp [Array.getElem?_eq_none h'] at h
  have hli : listed[i] = false := by simpa [hlt] using h
  unfold unl
  have hl : i < listed.toList.length := by simpa using hlt
  have hg : listed.toList[i] = false := by simpa using hli
  rw [Array.toList_setIfInBounds, List.count_set hl, hg]
  have hpos : 0 < listed.toList.count false := List.count_pos_iff.2 (hg ▸ List.getElem_mem hl)
  clear hg hli hlt
  generalize listed.toList = L at *
  clear hl
  simp only [beq_self_eq_true, if_true, show ((true == false : Bool) = true) = False from by simp, if_false]
  omega
theorem unl_zero {listed : Array Bool} (h : unl listed = 0) : Region.ready md ops listed = [] := by
  rw [List.eq_nil_iff_forall_not_mem]
  intro i hi
  have := unl_set (mem_ready.1 hi).1
  omega
theorem wpAny_mono (I : Array Bool → Act → World → Prop) (hstep : ∀ listed a w i, I listed a w → i ∈ Region.ready md ops listed → wpOp P ops Q i (I (listed.setIfInBounds i true)) a w)
    (hend : ∀ listed a w, I listed a w → Region.ready md ops listed = [] → Q .normal a w) : ∀ fuel listed a w, unl listed ≤ fuel → I listed a w → wpAny P md ops Q fuel listed a w
  | 0, listed, a, w, hu, h => ⟨unl_zero (by omega), hend _ _ _ h (unl_zero (by omega))⟩
  | fuel + 1, listed, a, w, hu, h => ⟨fun h0 => hend _ _ _ h h0, fun i hi => wpOp_mono (fun a' w' h' => wpAny_mono I hstep hend fuel _ a' w' (by have := unl_set (mem_ready.1 hi).1; omega) h') (hstep _ _ _ i h hi)⟩
/-- Each waits for earlier ones alone. -/
def downB (ops : Array Oper) : Bool := (List.range ops.size).all fun i => ((ops[i]?).map fun o => o.after.all fun e => decide (e.on < i)).getD true
theorem all_listed (hB : downB ops = true) {listed : Array Bool} (h : Region.ready md ops listed = []) (hs : listed.size = ops.size) : ∀ i, i < ops.size → listed.getD i false = true := by
  intro i
  induction i using Nat.strongRecOn with
  | _ i ih =>
    intro hi
    rcases hb : listed.getD i false with _ | _
    · exfalso
      have hmem : i ∈ Region.ready md ops listed := by
        refine mem_ready.2 ⟨?_, ops[i], Array.getElem?_eq_getElem hi, fun e he _ => ih e.on ?_ ?_⟩
        · have hlt : i < listed.size := by omega
          simpa [hlt] using hb
        · have := List.all_eq_true.1 hB i (List.mem_range.2 hi)
          rw [Array.getElem?_eq_getElem hi] at this
          simp only [Option.map_some, Option.getD_some] at this
          have := Array.all_eq_true_iff_forall_mem.1 this e he
          simpa using this
        · have := List.all_eq_true.1 hB i (List.mem_range.2 hi)
          rw [Array.getElem?_eq_getElem hi] at this
          simp only [Option.map_some, Option.getD_some] at this
          have := Array.all_eq_true_iff_forall_mem.1 this e he
          have : e.on < i := by simpa using this
          omega
      rw [h] at hmem
      cases hmem
    · rfl
/-- The frame in which operation j has left f j. -/
def putL : List Oper → (Nat → Value) → Nat → Act → Act
  | [], _, _, a => a
  | o :: l, f, k, a => putL l f (k + 1) (a.put o.dst (f k))
def upd (f : Nat → Value) (i : Nat) (v : Value) : Nat → Value := fun j => if j = i then v else f j
/-- No two write one slot. -/
def apartB : List Oper → Bool
  | [] => true
  | o :: l => (l.all fun p => o.dst == none || o.dst != p.dst) && apartB l
theorem put_put (a : Act) (d : Option Tmp) (v u : Value) : (a.put d v).put d u = a.put d u := by
  cases d with
  | none => rfl
  | some d => simp [Act.put]
theorem putL_congr (f g : Nat → Value) : ∀ (l : List Oper) (k : Nat) (a : Act), (∀ j, k ≤ j → f j = g j) → putL l f k a = putL l g k a
  | [], _, _, _ => rfl
  | o :: l, k, a, h => by
    unfold putL
    rw [h k (Nat.le_refl _)]
    exact putL_congr f g l (k + 1) _ fun j hj => h j (by omega)
theorem putL_put (d : Option Tmp) (v : Value) : ∀ (l : List Oper) (f : Nat → Value) (k : Nat) (a : Act), (l.all fun p => d == none || d != p.dst) = true → (putL l f k a).put d v = putL l f k (a.put d v)
  | [], _, _, _, _ => rfl
  | o :: l, f, k, a, h => by
    rw [List.all_cons, Bool.and_eq_true] at h
    unfold putL
    rw [putL_put d v l f (k + 1) _ h.2]
    congr 1
    refine (Act.put_comm a _ _ fun e he hd => ?_)
    have := h.1
    rw [hd, he] at this
    simp at this
theorem putL_upd : ∀ (l : List Oper) (f : Nat → Value) (k i : Nat) (a : Act) (o : Oper) (v : Value), apartB l = true → l[i]? = some o → (putL l f k a).put o.dst v = putL l (upd f (k + i) v) k a
  | [], _, _, _, _, _, _, _, h => by simp at h
  | p :: l, f, k, 0, a, o, v, hB, h => by
    unfold apartB at hB
    rw [Bool.and_eq_true] at hB
    obtain rfl : p = o := by simpa using h
    unfold putL
    rw [putL_put _ _ _ _ _ _ hB.1, put_put]
    rw [show upd f (k + 0) v k = v from by simp [upd]]
    exact putL_congr _ _ _ _ _ fun j hj => by unfold upd; rw [if_neg (by omega)]
  | p :: l, f, k, i + 1, a, o, v, hB, h => by
    unfold apartB at hB
    rw [Bool.and_eq_true] at hB
    unfold putL
    rw [putL_upd l f (k + 1) i _ o v hB.2 (by simpa using h)]
    rw [show upd f (k + (i + 1)) v k = f k from by unfold upd; rw [if_neg (by omega)], show k + 1 + i = k + (i + 1) from by omega]
theorem putL_same (f : Nat → Value) : ∀ (l : List Oper) (k : Nat) (a : Act), (∀ i o, l[i]? = some o → a.put o.dst (f (k + i)) = a) → putL l f k a = a
  | [], _, _, _ => rfl
  | p :: l, k, a, h => by
    unfold putL
    rw [show a.put p.dst (f k) = a from h 0 p rfl]
    exact putL_same f l (k + 1) a fun i o ho => by have := h (i + 1) o (by simpa using ho); rwa [show k + (i + 1) = k + 1 + i from by omega] at this
def slotOf (l : List Oper) (a : Act) (j : Nat) : Value := match (l[j]?).bind (·.dst) with
  | some d => a.tmps.getD d undef
  | none => undef
theorem putL_slots (l : List Oper) (a : Act) : putL l (slotOf l a) 0 a = a := by
  refine putL_same _ _ _ _ fun i o ho => ?_
  rw [Nat.zero_add]
  cases hd : o.dst with
  | none => rfl
  | some d =>
    have : slotOf l a i = a.tmps.getD d undef := by unfold slotOf; rw [ho]; simp [hd]
    rw [this]
    obtain ⟨tmps, df⟩ := a
    show ({ tmps := tmps.setIfInBounds d (tmps.getD d undef), defers := df } : Act) = ⟨tmps, df⟩
    congr 1
    apply Array.ext
    · simp
    · intro j h1 h2
      rw [Array.getElem_setIfInBounds]
      split
      · rename_i e; subst e; simp [h2]
      · rfl
/-- Behind one operation nothing but K. -/
def only (K : Act → World → Prop) : Exit → Act → World → Prop
  | .normal, a, w => K a w
  | _, _, _ => False
/-- One operation, walked by itself. -/
theorem wpOp_of_list {i : Nat} {o : Oper} {a : Act} {w : World} {K : Act → World → Prop} (hi : ops[i]? = some o) (h : wpList P ops (only K) [o] a w) : wpOp P ops Q i K a w := by
  unfold wpOp
  unfold wpList at h
  simp only [hi]
  have hn : ∀ a w, wpList P ops (only K) [] a w → K a w := fun a w h => h
  split
  · rename_i hw
    rw [if_pos hw] at h
    rcases h with h | ⟨_, _, _, h⟩
    · left
      unfold Oper.wp at *
      generalize (execOp a.eval o).run P w = r at *
      cases r with
      | ok n w' =>
        cases n <;> simp only [Oper.upon] at h ⊢ <;>
          first
            | exact hn _ _ h
            | exact Calls.mono h (fun e w'' he => by cases e <;> first | exact hn _ _ he | exact he.elim | (obtain ⟨_, _, he⟩ := he; exact he.elim))
            | exact h.mono (fun _ _ he => hn _ _ he)
      | halt x w' => cases x <;> simp only [Oper.upon] at h ⊢ <;> first | exact h | exact h.elim
    · exact h.elim
  · rename_i hw
    rw [if_neg hw] at h
    exact hn _ _ h
/-- The law: operation j leaves f j; G j says what that is. -/
theorem wp_region_mono {id : Nat} {l : List Oper} {a : Act} {w : World} (C : (Nat → Value) → World → Prop) (G : Nat → (Nat → Value) → World → Prop)
    (hm : P.follows .mixedOrders = true) (hB : downB l.toArray = true) (hD : apartB l = true) (hC : C (slotOf l a) { w with drawn := w.drawn + 1 })
    (hop : ∀ i o, l[i]? = some o → ∀ f w, C f w → (∀ e ∈ o.after, Region.binds .any e = true → G e.on f w) →
      wpList P l.toArray (only fun a' w' => ∃ v, a' = (putL l f 0 a).put o.dst v ∧ C (upd f i v) w' ∧ G i (upd f i v) w' ∧ ∀ j p, l[j]? = some p → j ≠ i → (∀ e ∈ p.after, Region.binds .any e = true → e.on ≠ i) → G j f w → G j (upd f i v) w') [o] (putL l f 0 a) w)
    (hend : ∀ f w, C f w → (∀ j, j < l.length → G j f w) → Q .normal (putL l f 0 a) w) : (Code.region id l.toArray true).wp P Q a w := by
  refine wp_region_any hm ?_
  refine wpAny_mono (fun listed a' w => ∃ f, a' = putL l f 0 a ∧ C f w ∧ listed.size = l.length ∧ Clos .any l.toArray listed ∧ ∀ j, j < l.length → listed.getD j false = true → G j f w) ?_ ?_ _ _ _ _ ?_ ?_
  · rintro listed a' w i ⟨f, rfl, hC, hs, hcl, hG⟩ hi
    obtain ⟨h0, o, ho, hall⟩ := mem_ready.1 hi
    have ho' : l[i]? = some o := by simpa using ho
    have hdep : ∀ e ∈ o.after, Region.binds .any e = true → G e.on f w := fun e he hb => by
      have := hall e he hb
      refine hG e.on ?_ this
      rcases Nat.lt_or_ge e.on l.length with h' | h'
      · exact h'
      · rw [← hs] at h'
        simp [Array.getElem?_eq_none h'] at this
    refine wpOp_mono ?_ (wpOp_of_list ho (hop i o ho' f w hC hdep))
    rintro a' w' ⟨v, rfl, hC', hi', hk⟩
    refine ⟨upd f i v, ?_, hC', by simpa using hs, hcl.set hi, fun j hj hl => ?_⟩
    · rw [putL_upd l f 0 i a o v hD ho', Nat.zero_add]
    by_cases hji : j = i
    · subst hji; exact hi'
    · rw [getD_set_ne false (Ne.symm hji)] at hl
      have hp : l[j]? = some l[j] := List.getElem?_eq_getElem hj
      refine hk j l[j] hp hji (fun e he hb hei => ?_) (hG j hj hl)
      have h1 := hcl j l[j] (by simp) hl e he hb
      rw [hei] at h1
      rw [Array.getD_eq_getD_getElem?] at h0 h1
      cases hx : listed[i]? with
      | none => rw [hx] at h0; simp at h0
      | some b => rw [hx] at h0 h1; simp at h0 h1; rw [h0] at h1; cases h1
  · rintro listed a' w ⟨f, rfl, hC, hs, _, hG⟩ hr
    have hall := all_listed hB hr (by rw [List.size_toArray]; exact hs)
    exact hend f w hC fun j hj => hG j hj (hall j (by rw [List.size_toArray]; exact hj))
  · simp [unl]
  · exact ⟨slotOf l a, (putL_slots l a).symm, hC, by simp, Clos.zero _, fun j hj h => by rw [getD_replicate_false] at h; cases h⟩
end
end Go.Proofs.YtdlghblmhocmfaaDoor
