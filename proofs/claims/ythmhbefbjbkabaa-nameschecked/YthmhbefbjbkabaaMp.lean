/-
  Maps in memory as lists of keys and elements, in the order in which the keys came: look-up, store, len, at the operation.
-/
import Derived.Test.YthmhbefbjbkabaaBase
import Derived.Maps.OwnSet
import Derived.DeepKeys4
namespace Go.Proofs.Ythmhbefbjbkabaa
open Go.ChangeShapes Go.WideShapes Go.ChangeAt Go.RowKit
open Go.ChangeMaps (setBlock heap_setBlock_same heap_setBlock_other)
open Go.Maps (Keyed)
open Go.Lib (hid)

namespace Mp
section
variable {α β : Type} [DecidableEq α]
/-- What a list has at a key. -/
def get : List (α × β) → α → Option β
  | [], _ => none
  | (a, b) :: r, x => if a = x then some b else get r x
/-- It has that there from now on. -/
def put : List (α × β) → α → β → List (α × β)
  | [], x, y => [(x, y)]
  | (a, b) :: r, x, y => if a = x then (a, y) :: r else (a, b) :: put r x y
def keys (M : List (α × β)) : List α := M.map Prod.fst
theorem get_none {M : List (α × β)} {x : α} : get M x = none ↔ ∀ p ∈ M, p.1 ≠ x := by
  induction M with
  | nil => simp [get]
  | cons p M ih =>
    obtain ⟨a, b⟩ := p
    unfold get
    split
    · rename_i h; simp [h]
    · rename_i h; simp [h, ih]
theorem get_mem {M : List (α × β)} {x : α} {y : β} (h : get M x = some y) : (x, y) ∈ M := by
  induction M with
  | nil => simp [get] at h
  | cons p M ih =>
    obtain ⟨a, b⟩ := p
    unfold get at h
    split at h
    · rename_i ha
      simp only [Option.some.injEq] at h
      subst ha; subst h
      simp
    · exact List.mem_cons_of_mem _ (ih h)
theorem get_of_mem {M : List (α × β)} (hn : (keys M).Nodup) {x : α} {y : β} (h : (x, y) ∈ M) : get M x = some y := by
  induction M with
  | nil => simp at h
  | cons p M ih =>
    obtain ⟨a, b⟩ := p
    simp only [keys, List.map_cons, List.nodup_cons, List.mem_map, not_exists, not_and] at hn
    unfold get
    rcases List.mem_cons.1 h with h | h
    · simp only [Prod.mk.injEq] at h
      rw [if_pos h.1.symm, h.2]
    · rw [if_neg (fun e => hn.1 _ h (by rw [e]))]
      exact ih hn.2 h
theorem put_new {M : List (α × β)} {x : α} (y : β) (h : get M x = none) : put M x y = M ++ [(x, y)] := by
  induction M with
  | nil => rfl
  | cons p M ih =>
    obtain ⟨a, b⟩ := p
    unfold get at h
    split at h
    · cases h
    · rename_i ha
      unfold put
      rw [if_neg ha, ih h, List.cons_append]
theorem put_at {M : List (α × β)} (hn : (keys M).Nodup) {j : Nat} {x : α} {y0 : β} (y : β) (h : M[j]? = some (x, y0)) : put M x y = M.set j (x, y) := by
  induction M generalizing j with
  | nil => simp at h
  | cons p M ih =>
    obtain ⟨a, b⟩ := p
    simp only [keys, List.map_cons, List.nodup_cons, List.mem_map, not_exists, not_and] at hn
    cases j with
    | zero =>
      simp only [List.getElem?_cons_zero, Option.some.injEq, Prod.mk.injEq] at h
      unfold put
      rw [if_pos h.1, List.set_cons_zero, h.1]
    | succ j =>
      rw [List.getElem?_cons_succ] at h
      unfold put
      rw [if_neg (fun e => hn.1 _ (List.mem_of_getElem? h) (by rw [e])), ih hn.2 h, List.set_cons_succ]
theorem keys_put (M : List (α × β)) (x : α) (y : β) : keys (put M x y) = if get M x = none then keys M ++ [x] else keys M := by
  induction M with
  | nil => rfl
  | cons p M ih =>
    obtain ⟨a, b⟩ := p
    unfold put get
    by_cases ha : a = x
    · rw [if_pos ha, if_pos ha, if_neg (by simp)]; rfl
    · rw [if_neg ha, if_neg ha]
      simp only [keys, List.map_cons] at ih ⊢
      rw [ih]
      split <;> rfl
theorem nodup_put {M : List (α × β)} (hn : (keys M).Nodup) (x : α) (y : β) : (keys (put M x y)).Nodup := by
  rw [keys_put]
  split
  · rename_i h
    rw [List.nodup_append]
    refine ⟨hn, by simp, ?_⟩
    intro a ha b hb
    simp only [List.mem_singleton] at hb
    subst hb
    obtain ⟨p, hp, rfl⟩ := List.mem_map.1 ha
    exact get_none.1 h p hp
  · exact hn
theorem get_put (M : List (α × β)) (x : α) (y : β) (z : α) : get (put M x y) z = if x = z then some y else get M z := by
  induction M with
  | nil => simp [put, get]
  | cons p M ih =>
    obtain ⟨a, b⟩ := p
    unfold put
    by_cases ha : a = x
    · rw [if_pos ha]
      subst ha
      unfold get
      by_cases hz : a = z
      · rw [if_pos hz, if_pos hz]
      · rw [if_neg hz, if_neg hz, if_neg hz]
    · rw [if_neg ha]
      unfold get
      rw [ih]
      by_cases hz : a = z
      · rw [if_pos hz, if_pos hz, if_neg (fun e => ha (by rw [hz, e]))]
      · rw [if_neg hz, if_neg hz]
theorem length_put (M : List (α × β)) (x : α) (y : β) : (put M x y).length = if get M x = none then M.length + 1 else M.length := by
  have h := congrArg List.length (keys_put M x y)
  simp only [keys, List.length_map] at h
  rw [h]
  split <;> simp
theorem mem_put {M : List (α × β)} {x : α} {y : β} {p : α × β} (h : p ∈ put M x y) : p ∈ M ∨ p = (x, y) := by
  induction M with
  | nil => simpa [put] using h
  | cons q M ih =>
    obtain ⟨a, b⟩ := q
    unfold put at h
    split at h
    · rename_i ha
      rcases List.mem_cons.1 h with h | h
      · right; rw [h, ha]
      · left; simp [h]
    · rcases List.mem_cons.1 h with h | h
      · left; simp [h]
      · rcases ih h with h | h
        · left; simp [h]
        · exact Or.inr h
end
/-- How a map's keys and elements lie in memory. -/
structure Way (P : Program) (k : TypeId) (α β : Type) where
  kV : α → Value
  vV : β → Value
  inj : ∀ a b, kV a = kV b → a = b
  ok : α → Prop
  key : ∀ a, ok a → ∃ l, keyOf P k (kV a) = some l
end Mp
/-- Block b is a map that has these keys and elements. -/
def MapM {P : Program} {k : TypeId} {α β : Type} (W : Mp.Way P k α β) (w : World) (b : Nat) (M : List (α × β)) : Prop :=
  ∃ es clock, w.heap[b]? = some (.map es clock) ∧ es.toList.map (fun e => (e.key, e.val)) = M.map (fun p => (W.kV p.1, W.vV p.2)) ∧ (Mp.keys M).Nodup ∧ ∀ p ∈ M, W.ok p.1
section
variable {P : Program} {k : TypeId} {α β : Type} {W : Mp.Way P k α β} {w : World} {b : Nat} {M : List (α × β)}
theorem MapM.lt (h : MapM W w b M) : b < w.heap.size := by
  obtain ⟨es, c, hb, _⟩ := h
  exact (Array.getElem?_eq_some_iff.1 hb).1
theorem MapM.at {w' : World} (h : MapM W w b M) (hk : w'.heap[b]? = w.heap[b]?) : MapM W w' b M := by
  obtain ⟨es, c, hb, r⟩ := h
  exact ⟨es, c, hk.trans hb, r⟩
theorem MapM.below {w' : World} {B : Nat} (h : MapM W w b M) (hb : Below B w w') (hlt : b < B) : MapM W w' b M := h.at (hb.block b hlt)
theorem MapM.alloc (h : MapM W w b M) (o : Obj) : MapM W (w.alloc o) b M := h.at (Below.heap_alloc w o b h.lt)
theorem MapM.setCell (h : MapM W w b M) (a : Addr) (v : Value) (ha : b ≠ a.block) : MapM W (w.setCell a v) b M := h.at (heap_setCell_other w a b v ha)
/-- It is no row of cells. -/
theorem MapM.ne_cells (h : MapM W w b M) {c : Nat} {cs : Array Value} {t : TypeId} {fr : Nat × Nat} (hc : w.heap[c]? = some (.cells cs t fr)) : b ≠ c := by
  rintro rfl
  obtain ⟨es, cl, hb, _⟩ := h
  rw [hb] at hc
  cases hc
theorem mapM_made (w : World) (W : Mp.Way P k α β) : MapM W (w.alloc (.map #[] 0)) w.heap.size [] :=
  ⟨#[], 0, heap_alloc_new _ _, rfl, by simp [Mp.keys], fun p hp => by simp at hp⟩
theorem MapM.nodup (h : MapM W w b M) : (Mp.keys M).Nodup := by obtain ⟨_, _, _, _, hn, _⟩ := h; exact hn
variable [DecidableEq α]
/-- The entry of a key. -/
theorem MapM.find (h : MapM W w b M) (K : Keyed P k) {x : α} (hx : W.ok x) :
    ∃ es clock, w.heap[b]? = some (.map es clock) ∧ es.toList.map (fun e => (e.key, e.val)) = M.map (fun p => (W.kV p.1, W.vV p.2)) ∧
    (((Instr.findKey k (W.kV x) es.toList).run P w = .ok none w ∧ Mp.get M x = none) ∨
      ∃ j e y, (Instr.findKey k (W.kV x) es.toList).run P w = .ok (some (j, W.vV y)) w ∧ es.toList[j]? = some e ∧ e.key = W.kV x ∧ M[j]? = some (x, y) ∧ Mp.get M x = some y) := by
  obtain ⟨es, clock, hb, he, hn, hok⟩ := h
  refine ⟨es, clock, hb, he, ?_⟩
  have hat : ∀ (j : Nat) (e : MapEntry), es.toList[j]? = some e → ∃ p : α × β, M[j]? = some p ∧ e.key = W.kV p.1 ∧ e.val = W.vV p.2 := by
    intro j e hj
    have h1 : (es.toList.map (fun e => (e.key, e.val)))[j]? = some (e.key, e.val) := by rw [List.getElem?_map, hj]; rfl
    rw [he, List.getElem?_map] at h1
    cases hm : M[j]? with
    | none => rw [hm] at h1; cases h1
    | some p =>
      rw [hm] at h1
      simp only [Option.map_some, Option.some.injEq, Prod.mk.injEq] at h1
      exact ⟨p, rfl, h1.1.symm, h1.2.symm⟩
  have hes : ∀ e ∈ es.toList, ∃ l, keyOf P k e.key = some l := by
    intro e hm
    obtain ⟨j, hj⟩ := List.getElem?_of_mem hm
    obtain ⟨p, hp, h1, _⟩ := hat j e hj
    rw [h1]
    exact W.key _ (hok p (List.mem_of_getElem? hp))
  obtain ⟨l, hl⟩ := W.key x hx
  rcases K.find w hl es.toList hes with ⟨h1, h2⟩ | ⟨j, e, h1, h2, h3⟩
  · refine Or.inl ⟨h1, Mp.get_none.2 fun p hp e => ?_⟩
    obtain ⟨j, hj⟩ := List.getElem?_of_mem hp
    have h4 : (es.toList.map (fun e => (e.key, e.val)))[j]? = some (W.kV p.1, W.vV p.2) := by rw [he, List.getElem?_map, hj]; rfl
    rw [List.getElem?_map] at h4
    cases hm : es.toList[j]? with
    | none => rw [hm] at h4; cases h4
    | some e0 =>
      rw [hm] at h4
      simp only [Option.map_some, Option.some.injEq, Prod.mk.injEq] at h4
      exact h2 e0 (List.mem_of_getElem? hm) (by rw [h4.1, e])
  · obtain ⟨p, hp, h4, h5⟩ := hat j e h2
    rw [h3] at h4
    have h6 := W.inj _ _ h4
    obtain ⟨p1, p2⟩ := p
    subst h6
    rw [h5] at h1
    exact Or.inr ⟨j, e, p2, h1, h2, h3, hp, Mp.get_of_mem hn (List.mem_of_getElem? hp)⟩
/-- A key that it has. -/
theorem MapM.look_some (h : MapM W w b M) (K : Keyed P k) {t e : TypeId} (ht : P.underlying t = some (.map k e)) {x : α} (hx : W.ok x) {y : β} (hy : Mp.get M x = some y) (c : Bool) :
    (Instr.lookup t (.map (some b)) (W.kV x) c).run P w = .ok (if c then .tuple #[W.vV y, .bool true] else W.vV y) w := by
  obtain ⟨es, clock, hb, _, ⟨_, hno⟩ | ⟨j, e0, y', h1, _, _, _, hy'⟩⟩ := h.find K hx
  · rw [hy] at hno; cases hno
  · obtain ⟨l, hl⟩ := W.key x hx
    rw [hy] at hy'
    cases hy'
    simp [Instr.lookup, run_underlying ht, MapKept.run_getObj_map hb, K.check w _ hl, h1, Result.andThen]
/-- A key that it hasn't. -/
theorem MapM.look_none (h : MapM W w b M) (K : Keyed P k) {t e : TypeId} (ht : P.underlying t = some (.map k e)) {z : Value} (hz : (zeroValue e).run P w = .ok z w) {x : α} (hx : W.ok x) (hy : Mp.get M x = none) (c : Bool) :
    (Instr.lookup t (.map (some b)) (W.kV x) c).run P w = .ok (if c then .tuple #[z, .bool false] else z) w := by
  obtain ⟨es, clock, hb, _, ⟨h1, _⟩ | ⟨j, e0, y', _, _, _, _, hy'⟩⟩ := h.find K hx
  · obtain ⟨l, hl⟩ := W.key x hx
    simp [Instr.lookup, run_underlying ht, MapKept.run_getObj_map hb, K.check w _ hl, h1, hz, Result.andThen]
  · rw [hy] at hy'; cases hy'
/-- A store. -/
theorem MapM.store (h : MapM W w b M) (K : Keyed P k) {t e : TypeId} (ht : P.underlying t = some (.map k e)) {x : α} (hx : W.ok x) (y : β) :
    ∃ es' clock', (Instr.mapUpdate t (.map (some b)) (W.kV x) (W.vV y)).run P w = .ok () (setBlock w b (.map es' clock')) ∧ MapM W (setBlock w b (.map es' clock')) b (Mp.put M x y) := by
  have hn := h.nodup
  have hok : ∀ p ∈ Mp.put M x y, W.ok p.1 := by
    obtain ⟨_, _, _, _, _, hok⟩ := h
    intro p hp
    rcases Mp.mem_put hp with h | h
    · exact hok p h
    · rw [h]; exact hx
  obtain ⟨es, clock, hb, he, ⟨h1, h2⟩ | ⟨j, e0, y', h1, h2, h3, h4, h5⟩⟩ := h.find K hx
  · obtain ⟨l, hl⟩ := W.key x hx
    refine ⟨es.push ⟨W.kV x, W.vV y, clock⟩, clock + 1, ?_, _, _, heap_setBlock_same hb _, ?_, Mp.nodup_put hn x y, hok⟩
    · simp [Instr.mapUpdate, run_underlying ht, MapKept.run_getObj_map hb, K.check w false hl, h1, MapKept.run_setObj_map _ hb, Result.andThen, setBlock]
    · rw [Mp.put_new y h2, Array.toList_push, List.map_append, he, List.map_append]
      rfl
  · obtain ⟨l, hl⟩ := W.key x hx
    have hj : es[j]? = some e0 := by simpa using h2
    refine ⟨es.modify j (fun e' => { e' with key := W.kV x, val := W.vV y }), clock, ?_, _, _, heap_setBlock_same hb _, ?_, Mp.nodup_put hn x y, hok⟩
    · simp [Instr.mapUpdate, run_underlying ht, MapKept.run_getObj_map hb, K.check w false hl, h1, hj, h3, K.stays w hl, MapKept.run_setObj_map _ hb, Result.andThen, setBlock]
    · rw [Array.toList_modify, ChangeMaps.modify_eq_set _ _ _ _ h2, Mp.put_at hn y h4, List.map_set, he, List.map_set]
omit [DecidableEq α] in
/-- len. -/
theorem MapM.len (h : MapM W w b M) {t e : TypeId} (ht : P.underlying t = some (.map k e)) (ty : TypeId) : (Builtin.len_ #[t] ty #[.map (some b)]).run P w = .ok (.int .i64 (M.length : Nat)) w := by
  obtain ⟨es, clock, hb, he, _⟩ := h
  have e1 : es.size = M.length := by have := congrArg List.length he; simpa using this
  simp [Builtin.len_, run_underlying ht, MapKept.run_getObj_map hb, goInt, Result.andThen, e1]
/-- Stored: the world but for the map's block. -/
theorem setBlock_kept (w : World) (b : Nat) (o : Obj) : KeptB b w (setBlock w b o) :=
  ⟨rfl, rfl, rfl, by simp [setBlock], fun i _ hi => by simp only [setBlock]; rw [Array.getElem?_setIfInBounds_ne (Ne.symm hi)]⟩
end
section
variable {P : Program} {k : TypeId} {α β : Type} [DecidableEq α] (w : World) {ops : Array Oper} {rest : List Oper} {o : Oper} {a : Act} {Q : Exit → Act → World → Prop}
theorem wpList_look_some (hg : o.guard = none) (m x : Operand) (t : TypeId) (c : Bool) (hop : o.op = Op.lookup t m x c) (W : Mp.Way P k α β) (e : TypeId) (K : Keyed P k) (ht : P.underlying t = some (.map k e))
    (b : Nat) (M : List (α × β)) (hm : a.eval m = .map (some b)) (h : MapM W w b M) (kx : α) (hx : a.eval x = W.kV kx) (hok : W.ok kx) (y : β) (hy : Mp.get M kx = some y)
    (hK : wpList P ops Q rest (a.put o.dst (if c then .tuple #[W.vV y, .bool true] else W.vV y)) w) : wpList P ops Q (o :: rest) a w := by
  refine wpList_plain hg fun K' hK' => ?_
  unfold Oper.wp
  simp [execOp, hop, hm, hx, h.look_some K ht hok hy, Result.andThen]
  exact hK' _ _ hK
theorem wpList_look_none (hg : o.guard = none) (m x : Operand) (t : TypeId) (c : Bool) (hop : o.op = Op.lookup t m x c) (W : Mp.Way P k α β) (e : TypeId) (K : Keyed P k) (ht : P.underlying t = some (.map k e)) {z : Value} (hz : (zeroValue e).run P w = .ok z w)
    (b : Nat) (M : List (α × β)) (hm : a.eval m = .map (some b)) (h : MapM W w b M) (kx : α) (hx : a.eval x = W.kV kx) (hok : W.ok kx) (hy : Mp.get M kx = none)
    (hK : wpList P ops Q rest (a.put o.dst (if c then .tuple #[z, .bool false] else z)) w) : wpList P ops Q (o :: rest) a w := by
  refine wpList_plain hg fun K' hK' => ?_
  unfold Oper.wp
  simp [execOp, hop, hm, hx, h.look_none K ht hz hok hy, Result.andThen]
  exact hK' _ _ hK
theorem wpList_put (hg : o.guard = none) (m x v : Operand) (t : TypeId) (hop : o.op = Op.mapUpdate t m x v) (W : Mp.Way P k α β) (e : TypeId) (K : Keyed P k) (ht : P.underlying t = some (.map k e))
    (b : Nat) (M : List (α × β)) (hm : a.eval m = .map (some b)) (h : MapM W w b M) (kx : α) (hx : a.eval x = W.kV kx) (hok : W.ok kx) (y : β) (hv : a.eval v = W.vV y)
    (hK : ∀ w', MapM W w' b (Mp.put M kx y) → KeptB b w w' → wpList P ops Q rest (a.put o.dst undef) w') : wpList P ops Q (o :: rest) a w := by
  refine wpList_plain hg fun K' hK' => ?_
  obtain ⟨es', clock', hrun, h'⟩ := h.store K ht hok y
  unfold Oper.wp
  simp [execOp, hop, hm, hx, hv, hrun, Result.andThen]
  exact hK' _ _ (hK _ h' (setBlock_kept _ _ _))
omit [DecidableEq α] in
theorem wpList_maplen (hg : o.guard = none) (m : Operand) (t : TypeId) (hop : o.op = Op.call { callee := Callee.builtin Builtin.len, args := #[m], argTypes := #[t] }) (W : Mp.Way P k α β) (e : TypeId) (ht : P.underlying t = some (.map k e))
    (b : Nat) (M : List (α × β)) (hm : a.eval m = .map (some b)) (h : MapM W w b M)
    (hK : wpList P ops Q rest (a.put o.dst (.int .i64 (M.length : Nat))) w) : wpList P ops Q (o :: rest) a w := by
  refine wpList_plain hg fun K' hK' => ?_
  unfold Oper.wp
  simp [execOp, hop, resolve, invoke, builtin, hm, h.len ht o.type, Result.andThen]
  exact hK' _ _ hK
end
end Go.Proofs.Ythmhbefbjbkabaa
