/-
  Channels in one goroutine within the ordinary walk: a region whose operations are partly communications that never wait.
-/
import Derived.Test.YtkhkpcigjpibiaaChecked
import Derived.Conc.LoneCalls
import Derived.Conc.LoneSelect
import Derived.WalkKit
import Derived.Test.YtkhkpcigjpibiaaRg2
namespace Go.Proofs.Ytkhkpcigjpibiaa
open Go.Conc

/-- These operations of a region, by their numbers, come to an end as Q says. -/
def idxTo (P : Program) (ops : Array Oper) (Q : Exit → Act → World → Prop) (is : List Nat) (a : Act) (w : World) : Prop :=
  ∀ (b : Frame) (k : List Item) (cs : List Frame), ∃ e a' w', Q e a' w' ∧ Arrives P (lone (b.at a (.inRegion ops is :: k)) cs w) b k cs e a' w'
/-- These operations of a region come to an end as Q says. -/
def listTo (P : Program) (ops : Array Oper) (Q : Exit → Act → World → Prop) (l : List Oper) (a : Act) (w : World) : Prop :=
  ∀ is : List Nat, is.map (ops[·]?) = l.map some → idxTo P ops Q is a w
section
variable {P : Program} {ops : Array Oper} {Q : Exit → Act → World → Prop} {a : Act} {w : World}
theorem idxTo_nil (h : Q .normal a w) : idxTo P ops Q [] a w := fun _ _ _ => ⟨.normal, a, w, h, .one step_region_end⟩
theorem listTo_nil (h : Q .normal a w) : listTo P ops Q [] a w := by
  intro is his
  simp only [List.map_nil, List.map_eq_nil_iff] at his
  subst his
  exact idxTo_nil h
/-- One operation: it comes to the next one, or the region is left. -/
theorem one_op {i : Nat} {rest : List Nat} {o : Oper} {K : Act → World → Prop} (ho : ops[i]? = some o) (hw : Region.wanted o (yielded ops a.tmps) = true) (h : o.wp P a w K Q) (b : Frame) (k : List Item) (cs : List Frame) :
    (∃ a' w', K a' w' ∧ Steps P (lone (b.at a (.inRegion ops (i :: rest) :: k)) cs w) (lone (b.at a' (.inRegion ops rest :: k)) cs w')) ∨
      ∃ e a' w', Q e a' w' ∧ Arrives P (lone (b.at a (.inRegion ops (i :: rest) :: k)) cs w) b k cs e a' w' := by
  have here := stepG_op (P := P) (b := b) (k := k) (cs := cs) (w := w) (rest := rest) ho hw
  have back : ∀ v, (b.at a (.inRegion ops (i :: rest) :: k)).finish v = b.at (a.put o.dst v) (.inRegion ops rest :: k) := fun v => (Frame.finish_at b a ops i rest k v).trans (by rw [ho]; rfl)
  have go : ∀ {fr cs' w'}, (stepG.apply P true (b.at a (.inRegion ops (i :: rest) :: k)) cs none (execOp a.eval o) w).bare = .go { frame := fr, callers := cs', status := .running, dying := none } w' → step P (lone (b.at a (.inRegion ops (i :: rest) :: k)) cs w) = .next (lone fr cs' w') := fun hs => step_lone_go (by rw [here]; exact hs)
  unfold Oper.wp at h
  cases hr : (execOp a.eval o).run P w with
  | halt x w1 =>
    rw [hr] at h
    cases x with
    | panic v => exact Or.inr ⟨_, a, w1, h, .inRegion ops (i :: rest) :: k, .one (go (by rw [← Frame.raise_at]; simp [stepG.apply, hr]))⟩
    | _ => exact h.elim
  | ok x w1 =>
    rw [hr] at h
    cases x with
    | value v => exact Or.inl ⟨_, _, h, .one (go (by rw [← back]; simp [stepG.apply, hr]))⟩
    | skip => exact Or.inl ⟨_, _, h, .one (go (by rw [← back]; simp [stepG.apply, hr]))⟩
    | enter f args =>
      obtain ⟨e, w2, fr, hR, hcome, _, hlv⟩ := h (b.at a (.inRegion ops (i :: rest) :: k) :: cs)
      have hin := go (cs' := b.at a (.inRegion ops (i :: rest) :: k) :: cs) (fr := Frame.enter P f args .normal) (w' := w1) (by simp [stepG.apply, hr, Frame.at])
      cases e with
      | returned v => exact Or.inl ⟨_, _, hR, .head hin (Steps.trans hcome (.one (by rw [← back]; exact step_leave_returned hlv)))⟩
      | panicked c => exact Or.inr ⟨_, a, w2, hR, .inRegion ops (i :: rest) :: k, .head hin (Steps.trans hcome (.one (by rw [← Frame.raise_at]; exact step_leave_panicked hlv)))⟩
      | outgrown =>
        obtain ⟨a0, w0, hq⟩ := hR
        exact Or.inr ⟨.outgrown, a0, w0, hq, .inr (Outgrown.of_steps (.one hin) hcome)⟩
    | row r args =>
      obtain ⟨v, w2, hR, hs⟩ := h (b.at a (.inRegion ops (i :: rest) :: k)) cs
      have hin := go (cs' := b.at a (.inRegion ops (i :: rest) :: k) :: cs) (fr := Frame.ofRow P r args .normal) (w' := w1) (by simp [stepG.apply, hr, Frame.at])
      exact Or.inl ⟨_, _, hR, .head hin (by rw [← back]; exact hs)⟩
    | defer d =>
      refine Or.inl ⟨_, _, h, .one (go ?_)⟩
      have e2 := Frame.finish_at b { a with defers := d :: a.defers } ops i rest k undef
      rw [ho] at e2
      simp only [stepG.apply, Sem.runT_eq, hr, GStep.bare_after]
      exact congrArg (fun fr => GStep.go { frame := fr, callers := cs, status := .running, dying := none } w1) e2
    | _ => exact h.elim
theorem idxTo_cons {i : Nat} {rest : List Nat} (h : wpOp P ops Q i (idxTo P ops Q rest) a w) : idxTo P ops Q (i :: rest) a w := by
  intro b k cs
  have pass : ∀ {v : Value} {a' : Act}, step P (lone (b.at a (.inRegion ops (i :: rest) :: k)) cs w) = .next (lone (b.at a' (.inRegion ops rest :: k)) cs w) → idxTo P ops Q rest a' w → ∃ e a' w', Q e a' w' ∧ Arrives P (lone (b.at a (.inRegion ops (i :: rest) :: k)) cs w) b k cs e a' w' := fun hs hh => by
    obtain ⟨e, a', w', hq, hr⟩ := hh b k cs
    exact ⟨e, a', w', hq, .of_steps (.one hs) hr⟩
  unfold wpOp at h
  cases ho : ops[i]? with
  | none =>
    rw [ho] at h
    exact pass (v := undef) (by have := step_op_skip (P := P) (b := b) (a := a) (k := k) (cs := cs) (w := w) (ops := ops) (i := i) (rest := rest) (by rw [ho]; rfl); rw [ho] at this; exact this) h
  | some o =>
    rw [ho] at h
    simp only at h
    split at h
    · rename_i hw
      rcases h with h | ⟨h1, a0, w0, h2⟩
      · rcases one_op (rest := rest) ho hw h b k cs with ⟨a1, w1, h1, hs⟩ | h1
        · obtain ⟨e, a', w', hq, hr⟩ := h1 b k cs
          exact ⟨e, a', w', hq, .of_steps hs hr⟩
        · exact h1
      · refine ⟨.outgrown, a0, w0, h2, ?_⟩
        rcases Classical.em (b.kind = .early) with hk | hk
        · exact Or.inl hk
        · exact Or.inr (asks_outgrown ho hw hk h1)
    · rename_i hw
      exact pass (v := undef) (by have := step_op_skip (P := P) (b := b) (a := a) (k := k) (cs := cs) (w := w) (ops := ops) (i := i) (rest := rest) (by rw [ho]; simpa using hw); rw [ho] at this; exact this) h
theorem listTo_step {o : Oper} {l : List Oper} (h : if Region.wanted o (yielded ops a.tmps) then o.wp P a w (listTo P ops Q l) Q ∨ (o.asks P a w ∧ LetsOut Q) else listTo P ops Q l (a.put o.dst undef) w) : listTo P ops Q (o :: l) a w := by
  intro is his
  cases is with
  | nil => simp at his
  | cons i rest =>
  simp only [List.map_cons, List.cons.injEq] at his
  obtain ⟨ho, hrest⟩ := his
  refine idxTo_cons ?_
  unfold wpOp
  rw [ho]
  simp only
  split
  · rename_i hw
    rw [if_pos hw] at h
    exact h.imp (Oper.wp_mono fun a w h => h rest hrest) id
  · rename_i hw
    rw [if_neg hw] at h
    exact h rest hrest
/-- A part of them by the ordinary walk. -/
theorem listTo_wp {post : List Oper} : ∀ {pre : List Oper} {a : Act} {w : World}, wpList P ops (Exit.then (listTo P ops Q post) Q) pre a w → listTo P ops Q (pre ++ post) a w
  | [], a, w, h => h
  | o :: pre, a, w, h => by
    rw [List.cons_append]
    refine listTo_step ?_
    unfold wpList at h
    split
    · rename_i hw
      rw [if_pos hw] at h
      rcases h with h | ⟨h1, a0, w0, h2⟩
      · refine Or.inl ?_
        unfold Oper.wp at h ⊢
        revert h
        generalize (execOp a.eval o).run P w = r
        intro h
        unfold Oper.upon at h ⊢
        split at h
        · exact listTo_wp h
        · exact listTo_wp h
        · exact listTo_wp h
        · refine h.mono fun e w' he => ?_
          cases e with
          | returned v => exact listTo_wp he
          | panicked c => exact he
          | outgrown => obtain ⟨a0, w0, h2⟩ := he; exact ⟨a0, w0, h2⟩
        · exact h.mono fun v w' he => listTo_wp he
        · exact h
        · exact h.elim
      · exact Or.inr ⟨h1, a0, w0, h2⟩
    · rename_i hw
      rw [if_neg hw] at h
      exact listTo_wp h
/-- All of them by the ordinary walk. -/
theorem listTo_of : ∀ {l : List Oper} {a : Act} {w : World}, wpList P ops Q l a w → listTo P ops Q l a w
  | [], a, w, h => listTo_nil h
  | o :: l, a, w, h => by
    refine listTo_step ?_
    unfold wpList at h
    split
    · rename_i hw
      rw [if_pos hw] at h
      exact h.imp (Oper.wp_mono fun a w h => listTo_of h) id
    · rename_i hw
      rw [if_neg hw] at h
      exact listTo_of h
theorem range_map (l : List Oper) : (List.range l.length).map (l.toArray[·]?) = l.map some := by
  apply List.ext_getElem?
  intro i
  rw [List.getElem?_map, List.getElem?_map]
  by_cases hi : i < l.length
  · simp [hi]
  · rw [List.getElem?_eq_none (by simp; omega), List.getElem?_eq_none (by omega)]; rfl
theorem wp_region_to {id : Nat} {l : List Oper} (h : listTo P l.toArray Q l a w) : (Code.region id l.toArray false).wp P Q a w := by
  intro b k cs
  obtain ⟨e, a', w', hq, harr⟩ := h (List.range l.length) (range_map l) b k cs
  refine ⟨e, a', w', hq, .of_steps (.one ?_) harr⟩
  have := step_region (P := P) (b := b) (a := a) (k := k) (cs := cs) (w := w) (ops := l.toArray) (id := id)
  simpa using this
/-- An operation that is a communication is one. -/
theorem stepG_comm_ex {b : Frame} {k : List Item} {cs : List Frame} {i : Nat} {rest : List Nat} {o : Oper} {cases : Array CommCase} {blocking : Bool} {shape : CommShape} {w' : World} (ho : ops[i]? = some o) (hw : Region.wanted o (yielded ops a.tmps) = true)
    (hr : (execOp a.eval o).run P w = .ok (.comm cases blocking shape) w') :
    ∃ es, stepG P true (Conc.G (b.at a (.inRegion ops (i :: rest) :: k)) cs) w = .comm (Conc.G (b.at a (.inRegion ops (i :: rest) :: k)) cs) cases blocking shape w' es := by
  unfold Conc.G
  rw [stepG_op ho hw]
  simp [stepG.apply, hr, GStep.after]
/-- A communication that never waits: what it yields, and the world behind it. -/
def Comms (P : Program) (cases : Array CommCase) (blocking : Bool) (shape : CommShape) (w : World) (v : Value) (w' : World) : Prop :=
  ∀ (fr : Frame) (cs : List Frame) (w0 : World) (es : Array Event), stepG P true (Conc.G fr cs) w0 = .comm (Conc.G fr cs) cases blocking shape w es → step P (solo (Conc.G fr cs) w0) = .next (solo (Conc.G (fr.finish v) cs) w')
theorem listTo_comm {o : Oper} {l : List Oper} {cases : Array CommCase} {blocking : Bool} {shape : CommShape} {w1 w' : World} {v : Value} (hw : Region.wanted o (yielded ops a.tmps) = true)
    (hr : (execOp a.eval o).run P w = .ok (.comm cases blocking shape) w1) (hc : Comms P cases blocking shape w1 v w') (h : listTo P ops Q l (a.put o.dst v) w') : listTo P ops Q (o :: l) a w := by
  intro is his
  cases is with
  | nil => simp at his
  | cons i rest =>
  simp only [List.map_cons, List.cons.injEq] at his
  obtain ⟨ho, hrest⟩ := his
  intro b k cs
  obtain ⟨es, hg⟩ := stepG_comm_ex (P := P) (b := b) (k := k) (cs := cs) (rest := rest) ho hw hr
  have hs := hc _ _ _ _ hg
  rw [Frame.finish_at, ho] at hs
  obtain ⟨e, a', w'', hq, harr⟩ := h rest hrest b k cs
  exact ⟨e, a', w'', hq, .of_steps (.one hs) harr⟩
/-- A region that draws its order: a quiet head, then one operation, which may be a communication. -/
theorem idx_of_hd {md : Region.Mode} {C : World → Prop} {LT : Array Bool} {j : Nat} {L : Act → World → Prop} (hj : Region.ready md ops LT = [j]) (hL : ∀ a w, L a w → idxTo P ops Q [j] a w) :
    ∀ (n t : Nat) (listed : Array Bool) (a : Act) (w : World), wpHd P md ops C (fun l a' => l = LT ∧ ∀ w', C w' → L a' w') n listed a → C w → idxTo P ops Q (Region.linearise.go md ops (n + 1) t listed []) a w := by
  intro n
  induction n with
  | zero =>
    intro t listed a w h hC
    obtain ⟨rfl, h⟩ := h
    have : Region.linearise.go md ops 1 t listed [] = [j] := by
      simp only [Region.linearise.go]
      change (match (Region.ready md ops listed)[t % (Region.ready md ops listed).length]? with
        | some i => [i]
        | none => [].reverse) = _
      rw [hj]
      simp [Nat.mod_one]
    rw [this]
    exact hL _ _ (h w hC)
  | succ n ih =>
    intro t listed a w h hC
    obtain ⟨h0, h1⟩ := h
    rw [Region.linearise.go]
    change idxTo P ops Q (match (Region.ready md ops listed)[t % (Region.ready md ops listed).length]? with
      | some i => Region.linearise.go md ops (n + 1) (t / (Region.ready md ops listed).length) (listed.setIfInBounds i true) [i]
      | none => [].reverse) a w
    cases hi : (Region.ready md ops listed)[t % (Region.ready md ops listed).length]? with
    | none =>
      exfalso
      cases hr : Region.ready md ops listed with
      | nil => exact h0 hr
      | cons x xs =>
        rw [hr] at hi
        have hlt : t % (x :: xs).length < (x :: xs).length := Nat.mod_lt _ (by simp)
        simp at hi
        simp at hlt
        omega
    | some i =>
      simp only []
      rw [linearise_go_acc, List.reverse_singleton, List.singleton_append]
      exact idxTo_cons (wpOp_of_qOp hC (fun a' w' hw' h' => ih _ _ a' w' h' hw') (h1 i (List.mem_of_getElem? hi)))
theorem wp_region_draw_to {id : Nat} {l : List Oper} {a : Act} {w : World} (n : Nat) (hl : l.length = n + 1) (hm : P.follows .mixedOrders = true) (hsel : Region.noSelect l.toArray = true)
    (hB : headB .any l.toArray (marked (List.range n) (Array.replicate (n + 1) false)) (List.range n) (Array.replicate (n + 1) false) = true)
    (hj : Region.ready .any l.toArray (marked (List.range n) (Array.replicate (n + 1) false)) = [n])
    (h : wpQuiet P l.toArray (fun w' => ∃ n, w' = w.drewN n) (fun a' => ∀ m, listTo P l.toArray Q (l.drop n) a' (w.drewN m)) (l.take n) a) :
    (Code.region id l.toArray true).wp P Q a w := by
  have hhd : wpHd P .any l.toArray (fun w' => ∃ n, w' = w.drewN n) (fun l' a' => l' = marked (List.range n) (Array.replicate (n + 1) false) ∧ ∀ w', (∃ n, w' = w.drewN n) → listTo P l.toArray Q (l.drop n) a' w') n (Array.replicate (n + 1) false) a := by
    have := wpHd_of_quiet (P := P) (C := fun w' => ∃ n, w' = w.drewN n) (R := fun a' => ∀ w', (∃ n, w' = w.drewN n) → listTo P l.toArray Q (l.drop n) a' w') hsel (List.range n) (Array.replicate (n + 1) false) a hB (Clos.zero _) (by
      have e : (fun a' => ∀ w', (∃ n, w' = w.drewN n) → listTo P l.toArray Q (l.drop n) a' w') = (fun a' => ∀ m, listTo P l.toArray Q (l.drop n) a' (w.drewN m)) := by
        funext a'
        apply propext
        exact ⟨fun h m => h _ ⟨m, rfl⟩, fun h w' ⟨m, hm⟩ => by rw [hm]; exact h m⟩
      rw [e]
      have e2 : (List.range n).filterMap (l.toArray[·]?) = l.take n := by
        have := range_filterMap l n
        simpa using this
      rw [e2]
      exact h)
    rw [List.length_range] at this
    exact this
  intro b k cs
  have hidx := idx_of_hd (P := P) (Q := Q) hj (L := fun a w => listTo P l.toArray Q (l.drop n) a w) (fun a w hLL => hLL [n] (by
    rw [List.drop_eq_getElem_cons (by omega), List.drop_eq_nil_of_le (by omega)]
    simp [hl])) n (w.tape w.drawn (.order b.fn id)) (Array.replicate (n + 1) false) a { w with drawn := w.drawn + 1 } hhd ⟨1, rfl⟩
  obtain ⟨e, a', w', hq, harr⟩ := hidx b k cs
  refine ⟨e, a', w', hq, .of_steps (.one ?_) harr⟩
  have hst := step_region_draw (P := P) (b := b) (a := a) (k := k) (cs := cs) (w := w) (ops := l.toArray) (id := id)
  rw [hst]
  simp only [Region.schedule, hm, Bool.true_or, if_true, Region.linearise, List.size_toArray, hl]
variable {c cap s r : Nat} {buf : Array Value} {z z' v : Value} {tm closed : Bool}
theorem comms_send (hc : w.heap[c]? = some (.chan cap buf false s r tm)) (hroom : buf.size < cap) :
    Comms P #[scase c v z'] true .send w undef (w.setChan c cap (buf.push v) false (s + 1) r tm) := fun _ _ _ _ h => step_lone_send_room h hc hroom
theorem comms_recv (hc : w.heap[c]? = some (.chan cap buf closed s r tm)) (hsome : 0 < buf.size) :
    Comms P #[rcase c z] true (.recv false) w (buf.getD 0 undef) (w.setChan c cap (buf.extract 1 buf.size) closed s (r + 1) tm) := fun _ _ _ _ h => step_lone_recv_buf false h hc hsome
theorem comms_sel_none (hc : w.heap[c]? = some (.chan cap #[] false s r tm)) :
    Comms P #[rcase c z] false .select w (.tuple #[goInt (-1), .bool false, z]) w := fun _ _ _ _ h => step_lone_select_default h hc
theorem comms_sel_recv (hc : w.heap[c]? = some (.chan cap buf closed s r tm)) (hsome : 0 < buf.size) :
    Comms P #[rcase c z] false .select w (.tuple #[goInt 0, .bool true, buf.getD 0 undef]) (w.setChan c cap (buf.extract 1 buf.size) closed s (r + 1) tm) := fun _ _ _ _ h => step_lone_select_recv_buf h hc hsome
theorem comms_sel_send (hc : w.heap[c]? = some (.chan cap buf false s r tm)) (hroom : buf.size < cap) :
    Comms P #[scase c v z'] false .select w (.tuple #[goInt 0, .bool false]) (w.setChan c cap (buf.push v) false (s + 1) r tm) := fun _ _ _ _ h => step_lone_select_send_room h hc hroom
theorem comms_sel_full (hc : w.heap[c]? = some (.chan cap buf false s r tm)) (hfull : cap ≤ buf.size) :
    Comms P #[scase c v z'] false .select w (.tuple #[goInt (-1), .bool false]) w := fun _ _ _ _ h => step_lone_select_send_full h hc hfull
end
end Go.Proofs.Ytkhkpcigjpibiaa
