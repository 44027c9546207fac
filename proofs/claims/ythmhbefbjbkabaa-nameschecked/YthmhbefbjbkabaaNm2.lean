/-
  Layer 17: names in memory: a map of numbers by name and the next number; New, Create, Delete, Rename, Of, Next.
-/
import Derived.Test.YthmhbefbjbkabaaNm1
import Derived.Test.YthmhbefbjbkabaaMp
import Derived.Test.YthmhbefbjbkabaaKq
import Derived.StringKeys
namespace Go.Proofs.Ythmhbefbjbkabaa
open Go.ChangeShapes Go.WideShapes Go.ChangeAt Go.RowKit Go.Shelf
open Go.ChangeMaps (setBlock heap_setBlock_same heap_setBlock_other)
open Go.Maps (Keyed)
open Go.Lib (hid)

attribute [local go_sem] Oper.semAt_some

namespace Mp
section
variable {α β : Type} [DecidableEq α]
/-- It hasn't that any more. -/
def del : List (α × β) → α → List (α × β)
  | [], _ => []
  | (a, b) :: r, x => if a = x then r else (a, b) :: del r x
theorem del_none {M : List (α × β)} {x : α} (h : get M x = none) : del M x = M := by
  induction M with
  | nil => rfl
  | cons p M ih =>
    obtain ⟨a, b⟩ := p
    unfold get at h
    split at h
    · cases h
    · rename_i ha
      unfold del
      rw [if_neg ha, ih h]
theorem del_at {M : List (α × β)} (hn : (keys M).Nodup) {j : Nat} {x : α} {y : β} (h : M[j]? = some (x, y)) : del M x = M.eraseIdx j := by
  induction M generalizing j with
  | nil => simp at h
  | cons p M ih =>
    obtain ⟨a, b⟩ := p
    simp only [keys, List.map_cons, List.nodup_cons, List.mem_map, not_exists, not_and] at hn
    cases j with
    | zero =>
      simp only [List.getElem?_cons_zero, Option.some.injEq, Prod.mk.injEq] at h
      unfold del
      rw [if_pos h.1, List.eraseIdx_cons_zero]
    | succ j =>
      rw [List.getElem?_cons_succ] at h
      unfold del
      rw [if_neg (fun e => hn.1 _ (List.mem_of_getElem? h) (by rw [e])), ih hn.2 h, List.eraseIdx_cons_succ]
theorem del_sub (M : List (α × β)) (x : α) : (del M x).Sublist M := by
  induction M with
  | nil => exact List.Sublist.refl _
  | cons p M ih =>
    obtain ⟨a, b⟩ := p
    unfold del
    split
    · exact List.sublist_cons_self _ _
    · exact ih.cons_cons _
theorem nodup_del {M : List (α × β)} (hn : (keys M).Nodup) (x : α) : (keys (del M x)).Nodup := hn.sublist ((del_sub M x).map _)
theorem get_del {M : List (α × β)} (hn : (keys M).Nodup) (x z : α) : get (del M x) z = if x = z then none else get M z := by
  induction M with
  | nil => simp [del, get]
  | cons p M ih =>
    obtain ⟨a, b⟩ := p
    simp only [keys, List.map_cons, List.nodup_cons, List.mem_map, not_exists, not_and] at hn
    unfold del
    by_cases ha : a = x
    · rw [if_pos ha]
      subst ha
      by_cases hz : a = z
      · subst hz
        rw [if_pos rfl]
        exact get_none.2 fun p hp e => hn.1 p hp e
      · rw [if_neg hz]
        conv => rhs; unfold get
        rw [if_neg hz]
    · rw [if_neg ha]
      unfold get
      rw [ih hn.2]
      by_cases hz : a = z
      · rw [if_pos hz, if_pos hz, if_neg (fun e => ha (hz.trans e.symm))]
      · rw [if_neg hz, if_neg hz]
theorem length_del {M : List (α × β)} {x : α} {y : β} (h : get M x = some y) : (del M x).length + 1 = M.length := by
  induction M with
  | nil => simp [get] at h
  | cons p M ih =>
    obtain ⟨a, b⟩ := p
    unfold get at h
    unfold del
    split at h
    · rename_i ha
      rw [if_pos ha]; rfl
    · rename_i ha
      rw [if_neg ha, List.length_cons, ih h, List.length_cons]
end
end Mp
section
variable {P : Program} {k : TypeId} {α β : Type} {W : Mp.Way P k α β} {w : World} {b : Nat} {M : List (α × β)} [DecidableEq α]
/-- delete. -/
theorem MapM.del (h : MapM W w b M) (K : Keyed P k) {t e : TypeId} (ht : P.underlying t = some (.map k e)) {x : α} (hx : W.ok x) (ty : TypeId) :
    ∃ es' clock', (Builtin.delete_ #[t, k] ty #[.map (some b), W.kV x]).run P w = .ok (.tuple #[]) (setBlock w b (.map es' clock')) ∧ MapM W (setBlock w b (.map es' clock')) b (Mp.del M x) := by
  have hn := h.nodup
  have hok : ∀ p ∈ Mp.del M x, W.ok p.1 := by
    obtain ⟨_, _, _, _, _, hok⟩ := h
    exact fun p hp => hok p ((Mp.del_sub M x).subset hp)
  obtain ⟨es, clock, hb, he, ⟨h1, h2⟩ | ⟨j, e0, y', h1, h2, h3, h4, h5⟩⟩ := h.find K hx
  · obtain ⟨l, hl⟩ := W.key x hx
    refine ⟨es, clock, ?_, _, _, heap_setBlock_same hb _, ?_, Mp.nodup_del hn x, hok⟩
    · simp [Builtin.delete_, run_underlying ht, MapKept.run_getObj_map hb, K.check w _ hl, h1, MapKept.run_setObj_map _ hb, Result.andThen, setBlock]
    · rw [Mp.del_none h2, he]
  · obtain ⟨l, hl⟩ := W.key x hx
    have hjs : j < es.size := by have := (List.getElem?_eq_some_iff.1 h2).1; simpa using this
    have hsub : (es.eraseIdxIfInBounds j).toList = es.toList.eraseIdx j := by
      unfold Array.eraseIdxIfInBounds
      rw [dif_pos hjs]
      simp
    refine ⟨es.eraseIdxIfInBounds j, clock, ?_, _, _, heap_setBlock_same hb _, ?_, Mp.nodup_del hn x, hok⟩
    · simp [Builtin.delete_, run_underlying ht, MapKept.run_getObj_map hb, K.check w _ hl, h1, MapKept.run_setObj_map _ hb, Result.andThen, setBlock]
    · rw [hsub, Mp.del_at hn h4, List.eraseIdx_eq_take_drop_succ, List.eraseIdx_eq_take_drop_succ, List.map_append, List.map_append, List.map_take, List.map_drop, he, List.map_take, List.map_drop]
end
theorem wpList_mapdel {P : Program} {k : TypeId} {α β : Type} [DecidableEq α] (w : World) {ops : Array Oper} {rest : List Oper} {o : Oper} {a : Act} {Q : Exit → Act → World → Prop}
    (hg : o.guard = none) (m x : Operand) (t : TypeId) (hop : o.op = Op.call { callee := Callee.builtin Builtin.delete, args := #[m, x], argTypes := #[t, k] }) (W : Mp.Way P k α β) (e : TypeId) (K : Keyed P k) (ht : P.underlying t = some (.map k e))
    (b : Nat) (M : List (α × β)) (hm : a.eval m = .map (some b)) (h : MapM W w b M) (kx : α) (hx : a.eval x = W.kV kx) (hok : W.ok kx)
    (hK : ∀ w', MapM W w' b (Mp.del M kx) → KeptB b w w' → wpList P ops Q rest (a.put o.dst (.tuple #[])) w') : wpList P ops Q (o :: rest) a w := by
  refine wpList_plain hg fun K' hK' => ?_
  obtain ⟨es', clock', hrun, h'⟩ := h.del K ht hok o.type
  unfold Oper.wp
  simp [execOp, hop, resolve, invoke, builtin, hm, hx, hrun, Result.andThen]
  exact hK' _ _ (hK _ h' (setBlock_kept _ _ _))
/-- A composite literal. -/
theorem wpList_buildN {P : Program} {w : World} {ops : Array Oper} {rest : List Oper} {o : Oper} {a : Act} {Q : Exit → Act → World → Prop} (hgd : o.guard = none) (ty : TypeId) (parts : Array (Nat × Operand)) (ho : o.op = .build ty parts)
    (vals : Array (Nat × Value)) (hv : (parts.map fun (i, x) => (i, a.eval x)) = vals) (cs : Array Value) (hc : (Instr.build ty vals).run P w = .ok (.agg cs) w)
    (h : wpList P ops Q rest (a.put o.dst (.agg cs)) w) : wpList P ops Q (o :: rest) a w := by
  refine wpList_plain hgd fun K hK => ?_
  unfold Oper.wp execOp
  simp only [ho, hv, Sem.run_bind, Sem.run_pure, Result.andThen_ok, hc]
  exact hK _ _ h
/-- Numbers by name. -/
def wayN : Mp.Way Try.prog 9 ByteArray Nat where
  kV s := .string s
  vV n := .int .i64 (n : Int)
  inj a b h := by simpa using h
  ok s := s.size ≤ maxLen
  key a h := ⟨_, Go.WideMaps.keyOf_string_mk Try.underlying9 h⟩
theorem keyedN : Keyed Try.prog 9 := Go.Maps.string_keyed Try.underlying9
theorem zeroN (w : World) : (zeroValue 3).run Try.prog w = .ok (.int .i64 0) w := by kernel_rfl
namespace Nx
/-- Names: by key, and the next number. -/
structure V where
  M : List (ByteArray × Nat)
  n : Nat
def of (v : V) (T : List Nat) : Option Nat := Mp.get v.M (str T)
def wants (v : V) (T : List Nat) : Nat := if chk T = false then 4 else if (of v T).isSome then 6 else 0
def create (v : V) (T : List Nat) : V × Nat × Nat :=
  if wants v T ≠ 0 then (v, 0, wants v T) else if 16 ≤ v.M.length then (v, 0, 8) else (⟨Mp.put v.M (str T) v.n, v.n + 1⟩, v.n, 0)
def delete (v : V) (T : List Nat) : V × Nat × Nat :=
  match of v T with
  | none => (v, 0, 5)
  | some id => (⟨Mp.del v.M (str T), v.n⟩, id, 0)
def rename (v : V) (T U : List Nat) : V × Nat × Nat :=
  match of v T with
  | none => (v, 0, 5)
  | some id => if wants v U ≠ 0 then (v, 0, wants v U) else (⟨Mp.put (Mp.del v.M (str T)) (str U) id, v.n⟩, id, 0)
end Nx
/-- Block b is names; its map is block m. -/
structure IsN (w : World) (b m : Nat) (v : Nx.V) : Prop where
  row : w.heap[b]? = some (.cells #[.map (some m), .int .i64 (v.n : Int)] 48 (0, 0))
  map : MapM wayN w m v.M
theorem IsN.at {w w' : World} {b m : Nat} {v : Nx.V} (h : IsN w b m v) (hb : w'.heap[b]? = w.heap[b]?) (hm : w'.heap[m]? = w.heap[m]?) : IsN w' b m v := ⟨hb.trans h.row, h.map.at hm⟩
theorem IsN.below {w w' : World} {b m : Nat} {v : Nx.V} (h : IsN w b m v) (hb : Below w.heap.size w w') : IsN w' b m v :=
  h.at (hb.block _ (Array.getElem?_eq_some_iff.1 h.row).1) (hb.block _ h.map.lt)
theorem IsN.ne {w : World} {b m : Nat} {v : Nx.V} (h : IsN w b m v) : m ≠ b := h.map.ne_cells h.row
theorem IsN.c0 {w : World} {b m : Nat} {v : Nx.V} (h : IsN w b m v) : w.cell? ⟨b, 0, none⟩ = some (.map (some m)) := by rw [cell_of_row _ _ _ _ _ _ h.row]; rfl
theorem IsN.c1 {w : World} {b m : Nat} {v : Nx.V} (h : IsN w b m v) : w.cell? ⟨b, 1, none⟩ = some (.int .i64 (v.n : Int)) := by rw [cell_of_row _ _ _ _ _ _ h.row]; rfl
theorem IsN.f1 {w : World} {b m : Nat} {v : Nx.V} (h : IsN w b m v) : w.frozen? ⟨b, 1, none⟩ = false := frozen_of_row _ _ _ _ _ h.row
theorem run_names (w : World) (m : Nat) : (Instr.build 48 #[(0, .map (some m)), (1, .int .i64 1)]).run Try.prog w = .ok (.agg #[.map (some m), .int .i64 1]) w := run_build w _ _ _ (by kernel_rfl)
set_option maxRecDepth 100000 in
set_option maxHeartbeats 1000000 in
theorem new_any (w : World) : Calls Try.prog 7 #[] w fun e w' => ∃ b m, e = .returned (.pointer (some ⟨b, 0, none⟩)) ∧ IsN w' b m ⟨[], 1⟩ ∧ w.heap.size ≤ b ∧ w.heap.size ≤ m ∧ Below w.heap.size w w' := by
  have mk1 := fun wx => run_makeMap (P := Try.prog) 46 wx
  go_enter Try.func7, Try.ntmps7
  go_wp2_with (refine wpList_buildN rfl _ _ rfl _ rfl _ (run_names _ _) ?_)
  go_ret
  have hm := mapM_made w wayN
  have hz : (w.alloc (.map #[] 0)).heap.size = w.heap.size + 1 := World.size_alloc _ _
  refine ⟨_, _, rfl, ⟨hz ▸ heap_alloc_new _ _, hm.alloc _⟩, by omega, Nat.le_refl _, ((Below.refl _ _).alloc (Nat.le_refl _) _).alloc (by omega) _⟩
end Go.Proofs.Ythmhbefbjbkabaa
