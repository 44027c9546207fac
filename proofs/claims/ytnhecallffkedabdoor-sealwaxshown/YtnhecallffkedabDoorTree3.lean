/-
  Layer 7: own slices of sums, and what tree.bottom returns.
-/
import Derived.Test.YtnhecallffkedabDoorBase
import Derived.Test.YtnhecallffkedabDoorTree2
namespace Go.Proofs.YtnhecallffkedabDoor
open Go.RowKit
open Go.Lib (hid)

/-- The cells of sums. -/
def cellsU (F : List (List Nat)) : List Value := (F.map fun f => (ints .u8 f).toList).flatten
theorem cellsU_length (F : List (List Nat)) (h : ∀ f ∈ F, f.length = 32) : (cellsU F).length = F.length * 32 := by
  induction F with
  | nil => rfl
  | cons f F ih =>
    have h1 := ih (fun g hg => h g (by simp [hg]))
    simp only [cellsU, List.map_cons, List.flatten_cons, List.length_append, ints_llen, List.length_cons] at h1 ⊢
    rw [h1, h f (by simp)]; omega
theorem cellsU_get (F : List (List Nat)) (h : ∀ f ∈ F, f.length = 32) (i j : Nat) (hi : i < F.length) (hj : j < 32) : (cellsU F)[i * 32 + j]? = (ints .u8 (F.getD i [])).toList[j]? := by
  induction F generalizing i with
  | nil => simp at hi
  | cons f F ih =>
    have hf := h f (by simp)
    simp only [cellsU, List.map_cons, List.flatten_cons]
    cases i with
    | zero =>
      rw [Nat.zero_mul, Nat.zero_add, List.getElem?_append_left (by rw [ints_llen, hf]; exact hj)]
      rfl
    | succ i =>
      rw [List.getElem?_append_right (by rw [ints_llen, hf]; omega), ints_llen, hf, show (i + 1) * 32 + j - 32 = i * 32 + j from by omega]
      exact ih (fun g hg => h g (by simp [hg])) i (by simpa using hi)
theorem cellsU_append (F G : List (List Nat)) : cellsU (F ++ G) = cellsU F ++ cellsU G := by simp [cellsU]
theorem cellsU_one (f : List Nat) : cellsU [f] = (ints .u8 f).toList := by simp [cellsU]
/-- The slice v of the call's own holds the sums F. -/
def OwnU (w : World) (base : Nat) (v : Value) (F : List (List Nat)) : Prop := (∀ f ∈ F, f.length = 32) ∧ w.ownsRow base 27 32 v F.length (cellsU F)
theorem OwnU.nil (w : World) (base : Nat) : OwnU w base (.slice none 0 0) [] := ⟨fun f hf => by simp at hf, World.ownsRow_nil _ _ _ _⟩
theorem OwnU.below {w w' : World} {base : Nat} {v : Value} {F : List (List Nat)} (h : OwnU w base v F) (hb : Below w.heap.size w w') : OwnU w' base v F := by
  obtain ⟨h0, h1, h2⟩ := h
  refine ⟨h0, h1, ?_⟩
  rcases h2 with h2 | ⟨g, cap, cur, hv, hg, hh, r⟩
  · exact Or.inl h2
  · exact Or.inr ⟨g, cap, cur, hv, hg, by rw [hb.block g (Array.getElem?_eq_some_iff.1 hh).1]; exact hh, r⟩
theorem OwnU.mono {w : World} {base base' : Nat} {v : Value} {F : List (List Nat)} (h : OwnU w base v F) (hb : base' ≤ base) : OwnU w base' v F := by
  obtain ⟨h0, h1, h2⟩ := h
  refine ⟨h0, h1, ?_⟩
  rcases h2 with h2 | ⟨g, cap, cur, hv, hg, hh, r⟩
  · exact Or.inl h2
  · exact Or.inr ⟨g, cap, cur, hv, Nat.le_trans hb hg, hh, r⟩
theorem OwnU.sums {w : World} {base : Nat} {v : Value} {F : List (List Nat)} (h : OwnU w base v F) : Sums w v F := by
  obtain ⟨h0, h1, ⟨hv, hz⟩ | ⟨g, cap, cur, hv, hg, hh, hn, _, hs, hc⟩⟩ := h
  · exact ⟨none, 0, by rw [hv, hz], fun i hi => absurd hi (by omega)⟩
  · refine ⟨_, cap, hv, fun i hi => ⟨g, 0, rfl, (Array.getElem?_eq_some_iff.1 hh).1, fun j u hj => ?_⟩⟩
    have hj32 : j < 32 := by
      have := (List.getElem?_eq_some_iff.1 hj).1
      rw [ints_llen, h0 _ (by simp [List.getD_eq_getElem?_getD, hi])] at this
      exact this
    rw [Nat.zero_add, cell_of_row w g _ cur _ _ hh]
    have h2 : cur[i * 32 + j]? = (cur.toList.take (F.length * 32))[i * 32 + j]? := by
      rw [List.getElem?_take, if_pos (by omega), Array.getElem?_toList]
    rw [h2, hc, cellsU_get F h0 i j hi hj32]
    exact hj
theorem info27z : (Tryd.prog.info? 27).map (fun i => (i.zero, i.size, i.bytes)) = some (some (.agg (ints .u8 (List.replicate 32 0))), 32, 32) := by kernel_rfl
/-- append(s, x...), s the call's own, x one sum in memory: at the operation itself. -/
theorem wp_appU {w : World} {o : Oper} {a : Act} {K : Act → World → Prop} {Q : Exit → Act → World → Prop} (s x : Operand)
    (ho : o.op = .call { callee := .builtin .append, args := #[s, x], argTypes := #[34, 34] })
    (base : Nat) (v : Value) (F : List (List Nat)) (hs : a.eval s = v) (hown : OwnU w base v F)
    (ad : Addr) (c : Nat) (f : List Nat) (hf : f.length = 32) (hx : a.eval x = .slice (some ad) 1 c) (hnews : ∀ j u, (ints .u8 f).toList[j]? = some u → w.cell? (ad.add j) = some u)
    (hlen : F.length ≤ 1000000) (hbase : base ≤ w.heap.size)
    (h : ∀ v' w', OwnU w' base v' (F ++ [f]) → Below base w w' → (∀ k, k < w.heap.size → v.ownBlock ≠ some k → w'.heap[k]? = w.heap[k]?) → K (a.put o.dst v') w') : o.wp Tryd.prog a w K Q := by
  obtain ⟨i, hi, hz0, hz1, hz2⟩ := info_parts info27z
  obtain ⟨v', w', hr, h2, h3, h4⟩ := run_append_own (P := Tryd.prog) w base 34 o.type 27 i _ 32 32 Tryd.underlying34 hi hz0 hz1 hz2 (by kernel_rfl) (by decide) v F.length _ hown.2 ad 1 c (ints .u8 f).toList (by rw [ints_llen, hf]) hnews (fun u hu => by
    simp only [ints, List.mem_map] at hu
    obtain ⟨y, _, rfl⟩ := hu
    rfl) (by unfold maxLen; omega) (by omega) hbase
  unfold Oper.wp execOp
  simp only [ho, resolve, invoke, builtin, Sem.run_bind, Sem.run_pure, Result.andThen_ok, List.map_toArray, List.map_cons, List.map_nil, hs, hx, hr]
  refine h v' w' ⟨?_, ?_⟩ ?_ ?_
  · intro g hg
    rcases List.mem_append.1 hg with h' | h'
    · exact hown.1 g h'
    · rw [List.mem_singleton] at h'; rw [h']; exact hf
  · rw [List.length_append, cellsU_append, cellsU_one]
    exact h2
  · refine (Below.refl base w).grown h3 hbase ?_
    intro k hk
    obtain ⟨_, _, h2' | ⟨g, cap, cur, hv, hg, _⟩⟩ := hown
    · rw [h2'.1] at hk; cases hk
    · rw [hv] at hk; simp only [Value.ownBlock, Option.some.injEq] at hk; omega
  · exact fun k hk hne => h3.block k hk (fun he => hne he.symm)
end Go.Proofs.YtnhecallffkedabDoor
