/-
  Layer 9: a step, recorded.
-/
import Derived.Test.YtkhkpcigjpibiaaDk4
import Derived.Test.YtkhkpcigjpibiaaRl
import Derived.Deep.DeepAppendRoom
namespace Go.Proofs.Ytkhkpcigjpibiaa
open Go.ChangeShapes Go.WideShapes Go.ChangeAt Go.RowKit Go.Shelf
open Go.Conc
open Go.Lib (hid)

attribute [local go_sem] Oper.semAt_some

theorem range_row {w : World} {b : Nat} {cs : Array Value} {t : TypeId} {fr : Nat × Nat} (h : w.heap[b]? = some (.cells cs t fr)) : w.rangeAt b 0 cs.toList := by
  intro i v hi
  rw [cell_of_row _ _ _ _ _ _ h, Nat.zero_add, ← Array.getElem?_toList]
  exact hi
theorem infoOp : (Try.prog.info? 78).map (fun i => (i.zero, i.size, i.bytes)) = some (some (.agg #[.int .i64 0, .int .i64 0, .string ByteArray.empty]), 3, 32) := by kernel_rfl
theorem infoOp' : (Try.prog.info? 78).map (·.size) = some 3 := by kernel_rfl
theorem opsC_snoc (l : List Dv.O) (o : Dv.O) : opsC (l ++ [o]) = opsC l ++ (opC o).toList := by simp [opsC]
/-- Where a slice's block is from. -/
def VNext (w : World) (v v' : Value) : Prop := ∀ k, some k = v'.ownBlock → some k = v.ownBlock ∨ w.heap.size ≤ k
theorem VNext.refl (w : World) (v : Value) : VNext w v v := fun _ h => Or.inl h
/-- From one state of a disk to a later one. -/
def DkTo (w : World) (d gs c : Nat) (vv : Value) (w' : World) (vv' : Value) : Prop := KeptQ (dkB d gs c vv) w w' ∧ VNext w vv vv'
theorem DkTo.refl (w : World) (d gs c : Nat) (vv : Value) : DkTo w d gs c vv w vv := ⟨KeptQ.refl _ _, VNext.refl _ _⟩
theorem DkTo.trans {u w x : World} {d gs c : Nat} {vv vv' vv'' : Value} (h : DkTo u d gs c vv w vv') (k : DkTo w d gs c vv' x vv'') : DkTo u d gs c vv x vv'' := by
  refine ⟨⟨k.1.os.trans h.1.os, k.1.tape.trans h.1.tape, k.1.output.trans h.1.output, Nat.le_trans h.1.size k.1.size, fun i hi hb => ?_⟩, fun i hi => ?_⟩
  · refine (k.1.block i (Nat.lt_of_lt_of_le hi h.1.size) fun hq => hb ?_).trans (h.1.block i hi hb)
    rcases hq with hq | hq | hq | hq
    · exact Or.inl hq
    · exact Or.inr (Or.inl hq)
    · exact Or.inr (Or.inr (Or.inl hq))
    · rcases h.2 i hq with h1 | h1
      · exact Or.inr (Or.inr (Or.inr h1))
      · omega
  · rcases k.2 i hi with h1 | h1
    · exact h.2 i h1
    · exact Or.inr (Nat.le_trans h.1.size h1)
theorem DkTo.of {w w' : World} {d gs c : Nat} {vv : Value} {p : Nat → Prop} (h : KeptQ p w w') (hp : ∀ k, p k → dkB d gs c vv k) : DkTo w d gs c vv w' vv := ⟨h.mono hp, VNext.refl _ _⟩
theorem DkTo.below {w w' : World} {d gs c : Nat} {vv : Value} (h : Below w.heap.size w w') : DkTo w d gs c vv w' vv := ⟨KeptQ.of_below h, VNext.refl _ _⟩

theorem run_append_op (ty : TypeId) (w : World) (v : Value) (l : List Dv.O) (hown : w.ownsRow 0 78 3 v l.length (opsC l)) (ad : Addr) (y : Dv.O)
    (hnews : ∀ j u, (opC y).toList[j]? = some u → w.cell? (ad.add j) = some u) (hlen : l.length ≤ 5000) :
    ∃ v' w', (Builtin.append_ #[54, 54] ty #[v, .slice (some ad) 1 1]).run Try.prog w = .ok v' w' ∧ w'.ownsRow 0 78 3 v' (l ++ [y]).length (opsC (l ++ [y])) ∧ w.grownBy w' v.ownBlock ∧ VNext w v v' := by
  obtain ⟨i, hi, hz0, hz1, hz2⟩ := info_parts infoOp
  have ht := Try.underlying54
  have hone : ∀ u ∈ (opC y).toList, u.oneCell' = true := by
    intro u hu
    simp only [opC, List.mem_cons, List.not_mem_nil, or_false] at hu
    rcases hu with rfl | rfl | rfl <;> rfl
  rw [List.length_append, List.length_singleton, opsC_snoc]
  by_cases hv : v = .slice none 0 0
  · subst hv
    have hl : l = [] := by
      obtain ⟨_, ⟨_, h0⟩ | ⟨g, cap, cur, hv, _⟩⟩ := hown
      · exact List.eq_nil_of_length_eq_zero h0
      · cases hv
    subst hl
    obtain ⟨v', w', hr, hown', hg, _⟩ := run_append_own (P := Try.prog) w w.heap.size _ ty 78 i _ 3 32 ht hi hz0 hz1 hz2 rfl (by decide) _ 0 [] (World.ownsRow_nil _ _ _ _) ad 1 1 _ rfl hnews hone (by unfold maxLen; omega) (by omega) (Nat.le_refl _)
    refine ⟨v', w', hr, ?_, hg, ?_⟩
    · obtain ⟨h1, h2 | ⟨g, cap, cur, hv, hg1, rest⟩⟩ := hown'
      · exact ⟨h1, Or.inl h2⟩
      · exact ⟨h1, Or.inr ⟨g, cap, cur, hv, Nat.zero_le _, rest⟩⟩
    · intro k hk
      obtain ⟨h1, h2 | ⟨g, cap, cur, hv, hg1, rest⟩⟩ := hown'
      · rw [h2.1] at hk; cases hk
      · rw [hv] at hk
        simp only [Value.ownBlock, Option.some.injEq] at hk
        exact Or.inr (by omega)
  · obtain ⟨hl3, ⟨h0, _⟩ | ⟨g, cap, cur, hvg, h2, h3, h4, h5, h6, h7⟩⟩ := id hown
    · exact absurd h0 hv
    · subst hvg
      by_cases hroom : l.length + 1 ≤ cap
      · obtain ⟨w', hr, hown', hg⟩ := run_append_own_spare (P := Try.prog) (w := w) 0 _ ty 78 i 3 ht hi hz1 g l.length cap _ hown ad 1 1 _ rfl hnews hone hroom
        exact ⟨_, w', hr, hown', hg, VNext.refl _ _⟩
      · have holds : ∀ j u, (opsC l)[j]? = some u → w.cell? ((⟨g, 0, none⟩ : Addr).add j) = some u := by
          intro j u hj
          have hlt : j < l.length * 3 := by rw [← hl3]; exact (List.getElem?_eq_some_iff.1 hj).1
          rw [← h7, List.getElem?_take, if_pos hlt, Array.getElem?_toList] at hj
          rw [Addr.add_lit, Nat.zero_add]
          exact (cell_of_row w g j cur _ _ h3).trans hj
        have hr := run_append_grow (P := Try.prog) w _ ty 78 i _ ht hi hz0 ⟨g, 0, none⟩ l.length cap (opsC l) (by rw [hz1]; exact hl3) holds ad 1 1 _ (by rw [hz1]; rfl) hnews (by omega) (by omega) (growslice_fits (by omega) (by rw [hz2]; omega))
        have hge := grownCap_ge w (l.length + 1) cap 78
        have hcm := grownCap_le_maxLen w (l.length + 1) cap 78 (by unfold maxLen; omega)
        have hln : (opsC l ++ (opC y).toList).length = (l.length + 1) * 3 := by rw [← opsC_snoc, opsC_length]; simp
        refine ⟨_, _, hr, ⟨hln, Or.inr ⟨w.heap.size, _, _, rfl, Nat.zero_le _, heap_alloc_new w.drew _, hge, hcm, ?_, ?_⟩⟩, ⟨rfl, rfl, rfl, by simp, fun k hk _ => Below.heap_alloc w.drew _ k hk⟩, fun k hk => Or.inr ?_⟩
        · simp only [Array.size_append, List.size_toArray, size_zeroCells, hl3, Value.cells, opC]
          simp
          omega
        · simp only [Array.toList_append, List.append_assoc]
          rw [← List.append_assoc, ← hln]
          exact List.take_left
        · simp only [Value.ownBlock, Option.some.injEq] at hk
          omega
end Go.Proofs.Ytkhkpcigjpibiaa
