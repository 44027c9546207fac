/-
  Layer 7: own slices of rows of texts; what the reference's rows returns.
-/
import Derived.Test.YtabhdjahdhhgiaaDoorRef7a
namespace Go.Proofs.YtabhdjahdhhgiaaDoor
open Go.RowKit
open Go.Lib (hid)

namespace Tx
/-- All sums of height k; the rows up to a height. -/
def rowK (d : Nat) (L : List (List Nat)) (k : Nat) : List (List Nat) := (List.range (2 ^ (d - k))).map (sumAt d L k)
def rowsN (d : Nat) (L : List (List Nat)) (k : Nat) : List (List (List Nat)) := (List.range k).map (rowK d L)
def partN (d : Nat) (L : List (List Nat)) (k j : Nat) : List (List Nat) := (List.range j).map (sumAt d L k)
theorem rowK_length (d : Nat) (L : List (List Nat)) (k : Nat) : (rowK d L k).length = 2 ^ (d - k) := by simp [rowK]
theorem partN_length (d : Nat) (L : List (List Nat)) (k j : Nat) : (partN d L k j).length = j := by simp [partN]
theorem rowsN_length (d : Nat) (L : List (List Nat)) (k : Nat) : (rowsN d L k).length = k := by simp [rowsN]
theorem partN_succ (d : Nat) (L : List (List Nat)) (k j : Nat) : partN d L k j ++ [sumAt d L k j] = partN d L k (j + 1) := by simp [partN, List.range_succ]
theorem rowsN_succ (d : Nat) (L : List (List Nat)) (k : Nat) : rowsN d L k ++ [rowK d L k] = rowsN d L (k + 1) := by simp [rowsN, List.range_succ]
theorem rowK_getD (d : Nat) (L : List (List Nat)) (k i : Nat) (x : List Nat) (h : i < 2 ^ (d - k)) : (rowK d L k).getD i x = sumAt d L k i := by
  unfold rowK
  rw [List.getD_eq_getElem?_getD, List.getElem?_map, List.getElem?_range h]; rfl
theorem rowsN_getD (d : Nat) (L : List (List Nat)) (k i : Nat) (x : List (List Nat)) (h : i < k) : (rowsN d L k).getD i x = rowK d L i := by
  unfold rowsN
  rw [List.getD_eq_getElem?_getD, List.getElem?_map, List.getElem?_range h]; rfl
end Tx
theorem OwnS.keepAt {w w' : World} {base : Nat} {v : Value} {L : List (List Nat)} (h : OwnS w base v L) (hb : ∀ (g : Nat) (cur : Array Value), w.heap[g]? = some (.cells cur 9 (0, 0)) → w'.heap[g]? = w.heap[g]?) : OwnS w' base v L := by
  obtain ⟨h1, h2⟩ := h
  refine ⟨h1, ?_⟩
  rcases h2 with h2 | ⟨g, cap, cur, hv, hg, hh, r⟩
  · exact Or.inl h2
  · exact Or.inr ⟨g, cap, cur, hv, hg, by rw [hb g cur hh]; exact hh, r⟩
theorem OwnS.mono {w : World} {base base' : Nat} {v : Value} {L : List (List Nat)} (h : OwnS w base v L) (hb : base' ≤ base) : OwnS w base' v L :=
  ⟨h.1, h.2.imp id fun ⟨g, cap, cur, h1, h2, h3⟩ => ⟨g, cap, cur, h1, Nat.le_trans hb h2, h3⟩⟩
theorem OwnS.one {w : World} {base : Nat} {v : Value} {L : List (List Nat)} (h : OwnS w base v L) : v.oneCell' = true := by
  obtain ⟨a, c, h1, _⟩ := h.strs; rw [h1]; rfl
theorem OwnS.empty (w : World) (base : Nat) (hb : base ≤ w.heap.size) : OwnS (w.alloc (.cells #[] 9)) base (.slice (some ⟨w.heap.size, 0, none⟩) 0 0) [] :=
  ⟨rfl, Or.inr ⟨w.heap.size, 0, #[], rfl, hb, heap_alloc_new _ _, Nat.le_refl _, by unfold maxLen; omega, rfl, rfl⟩⟩
theorem info22z : (Tryd.prog.info? 22).map (fun i => (i.zero, i.size, i.bytes)) = some (some (.slice none 0 0), 1, 24) := by kernel_rfl
/-- The slice v of the call's own holds these rows of texts, each the call's own. -/
def Rws (w : World) (base : Nat) (v : Value) (RS : List (List (List Nat))) : Prop :=
  ∃ vs : List Value, vs.length = RS.length ∧ w.ownsRow base 22 1 v RS.length vs ∧ ∀ j, j < RS.length → OwnS w base (vs.getD j undef) (RS.getD j [])
theorem Rws.below {w w' : World} {base : Nat} {v : Value} {RS : List (List (List Nat))} (h : Rws w base v RS) (hb : Below w.heap.size w w') : Rws w' base v RS := by
  obtain ⟨vs, h1, ⟨h2, h3⟩, h4⟩ := h
  refine ⟨vs, h1, ⟨h2, ?_⟩, fun j hj => (h4 j hj).below hb⟩
  rcases h3 with h3 | ⟨g, cap, cur, hv, hg, hh, r⟩
  · exact Or.inl h3
  · exact Or.inr ⟨g, cap, cur, hv, hg, by rw [hb.block g (Array.getElem?_eq_some_iff.1 hh).1]; exact hh, r⟩
/-- A row's block isn't that of the rows' slice. -/
theorem Rws.apart {w w' : World} {base : Nat} {v : Value} {n : Nat} {vs : List Value} (h : w.ownsRow base 22 1 v n vs) (hg : w.grownBy w' v.ownBlock) :
    ∀ (g : Nat) (cur : Array Value), w.heap[g]? = some (.cells cur 9 (0, 0)) → w'.heap[g]? = w.heap[g]? := by
  intro g cur hh
  refine hg.block g (Array.getElem?_eq_some_iff.1 hh).1 (fun he => ?_)
  obtain ⟨_, ⟨hv, _⟩ | ⟨g', cap, cur', hv, _, hh', _⟩⟩ := h
  · rw [hv] at he; cases he
  · rw [hv] at he
    simp only [Value.ownBlock, Option.some.injEq] at he
    subst he
    rw [hh'] at hh
    injection hh with hh
    injection hh with _ h2 _
    exact absurd h2 (by decide)
theorem Rws.one (w : World) (base : Nat) (vr : Value) (R : List (List Nat)) (hO : OwnS w base vr R) (hb : base ≤ w.heap.size) : Rws (w.alloc (.cells #[vr] 22)) base (.slice (some ⟨w.heap.size, 0, none⟩) 1 1) [R] := by
  refine ⟨[vr], rfl, ⟨rfl, Or.inr ⟨w.heap.size, 1, #[vr], rfl, hb, heap_alloc_new _ _, Nat.le_refl _, by unfold maxLen; omega, rfl, rfl⟩⟩, fun j hj => ?_⟩
  obtain rfl : j = 0 := by simp at hj; omega
  exact hO.below ((Below.refl _ _).alloc (Nat.le_refl _) _)
theorem wpList_appR {w : World} {ops : Array Oper} {rest : List Oper} {o : Oper} {a : Act} {Q : Exit → Act → World → Prop} (hgd : o.guard = none) (s x : Operand)
    (ho : o.op = .call { callee := .builtin .append, args := #[s, x], argTypes := #[58, 58] })
    (base : Nat) (v : Value) (RS : List (List (List Nat))) (hs : a.eval s = v) (hown : Rws w base v RS)
    (ad : Addr) (vr : Value) (R : List (List Nat)) (hx : a.eval x = .slice (some ad) 1 1) (hnews : w.cell? (ad.add 0) = some vr) (hR : OwnS w base vr R)
    (hlen : RS.length ≤ 1000000) (hbase : base ≤ w.heap.size)
    (h : ∀ v' w', Rws w' base v' (RS ++ [R]) → OwnS w' base vr R → Below base w w' → wpList Tryd.prog ops Q rest (a.put o.dst v') w') : wpList Tryd.prog ops Q (o :: rest) a w := by
  obtain ⟨vs, e1, e2, e3⟩ := hown
  obtain ⟨i, hi, hz0, hz1, hz2⟩ := info_parts info22z
  refine wpList_append_own w hgd s x 58 ho base 22 i (.slice none 0 0) 1 24 Tryd.underlying58 hi hz0 hz1 hz2 rfl (by decide) v RS.length vs hs e2 ad 1 1 [vr] hx rfl ?_ ?_ (by unfold maxLen; omega) (by omega) hbase ?_
  · intro j u hj
    have hlt : j < 1 := (List.getElem?_eq_some_iff.1 hj).1
    obtain rfl : j = 0 := by omega
    rw [hnews]; exact hj
  · intro u hu
    simp only [List.mem_singleton] at hu
    subst hu
    exact hR.one
  · intro v' w' h2 h3 _
    have hap := Rws.apart e2 h3
    refine h v' w' ⟨vs ++ [vr], by simp [e1], by rw [List.length_append]; exact h2, fun j hj => ?_⟩ (hR.keepAt hap) ((Below.refl base w).grown h3 hbase ?_)
    · rw [List.length_append] at hj
      simp only [List.getD_eq_getElem?_getD]
      rcases Nat.lt_or_ge j RS.length with hlt | hge
      · rw [List.getElem?_append_left (by omega), List.getElem?_append_left hlt]
        have := (e3 j hlt).keepAt hap
        simpa only [List.getD_eq_getElem?_getD] using this
      · obtain rfl : j = RS.length := by simp at hj; omega
        rw [List.getElem?_append_right (by omega), List.getElem?_append_right (Nat.le_refl _), e1, Nat.sub_self]
        exact hR.keepAt hap
    · intro k hk
      obtain ⟨_, h2' | ⟨g, cap, cur, hv, hg, _⟩⟩ := e2
      · rw [h2'.1] at hk; cases hk
      · rw [hv] at hk; simp only [Value.ownBlock, Option.some.injEq] at hk; omega
/-- append(s, x...), s the call's own, x one text in memory: at the operation itself. -/
theorem wp_appS {w : World} {o : Oper} {a : Act} {K : Act → World → Prop} {Q : Exit → Act → World → Prop} (s x : Operand)
    (ho : o.op = .call { callee := .builtin .append, args := #[s, x], argTypes := #[22, 22] })
    (base : Nat) (v : Value) (L : List (List Nat)) (hs : a.eval s = v) (hown : OwnS w base v L)
    (ad : Addr) (l : List Nat) (hx : a.eval x = .slice (some ad) 1 1) (hnews : w.cell? (ad.add 0) = some (.string (str l)))
    (hlen : L.length ≤ 1000000000) (hbase : base ≤ w.heap.size)
    (h : ∀ v' w', OwnS w' base v' (L ++ [l]) → Below base w w' → K (a.put o.dst v') w') : o.wp Tryd.prog a w K Q := by
  obtain ⟨i, hi, hz0, hz1, hz2⟩ := info_parts info9
  obtain ⟨v', w', hr, h2, h3, h4⟩ := run_append_own (P := Tryd.prog) w base 22 o.type 9 i _ 1 16 Tryd.underlying22 hi hz0 hz1 hz2 rfl (by decide) v L.length _ hown ad 1 1 [.string (str l)] rfl (fun j u hj => by
    have hlt : j < 1 := (List.getElem?_eq_some_iff.1 hj).1
    obtain rfl : j = 0 := by omega
    rw [hnews]; exact hj) (fun u hu => by
    simp only [List.mem_singleton] at hu
    subst hu
    rfl) (by unfold maxLen; omega) (by omega) hbase
  unfold Oper.wp execOp
  simp only [ho, resolve, invoke, builtin, Sem.run_bind, Sem.run_pure, Result.andThen_ok, List.map_toArray, List.map_cons, List.map_nil, hs, hx, hr]
  refine h v' w' ?_ ((Below.refl base w).grown h3 hbase ?_)
  · unfold OwnS
    rw [List.length_append, List.map_append]
    exact h2
  · intro k hk
    obtain ⟨_, h2' | ⟨g, cap, cur, hv, hg, _⟩⟩ := hown
    · rw [h2'.1] at hk; cases hk
    · rw [hv] at hk; simp only [Value.ownBlock, Option.some.injEq] at hk; omega
def lenV : Value → Nat
  | .slice _ n _ => n
  | _ => 0
end Go.Proofs.YtabhdjahdhhgiaaDoor
