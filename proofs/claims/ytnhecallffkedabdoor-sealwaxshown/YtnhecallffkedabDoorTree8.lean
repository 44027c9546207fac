/-
  Layer 7: own slices of steps, and what (way).root returns.
-/
import Derived.Test.YtnhecallffkedabDoorBase
import Derived.Test.YtnhecallffkedabDoorTree7
namespace Go.Proofs.YtnhecallffkedabDoor
open Go.RowKit
open Go.Lib (hid)

theorem stepC_llen (t : List Nat) : (stepC t).toList.length = 33 := by rw [Array.length_toList, stepC_size]
/-- The cells of steps. -/
def cellsW (F : List (List Nat)) : List Value := (F.map fun f => (stepC f).toList).flatten
theorem cellsW_length (F : List (List Nat)) : (cellsW F).length = F.length * 33 := by
  induction F with
  | nil => rfl
  | cons f F ih =>
    simp only [cellsW, List.map_cons, List.flatten_cons, List.length_append, stepC_llen, List.length_cons] at ih ⊢
    rw [ih]; omega
theorem cellsW_get (F : List (List Nat)) (i j : Nat) (hi : i < F.length) (hj : j < 33) : (cellsW F)[i * 33 + j]? = (stepC (F.getD i [])).toList[j]? := by
  induction F generalizing i with
  | nil => simp at hi
  | cons f F ih =>
    simp only [cellsW, List.map_cons, List.flatten_cons]
    cases i with
    | zero =>
      rw [Nat.zero_mul, Nat.zero_add, List.getElem?_append_left (by rw [stepC_llen]; exact hj)]
      rfl
    | succ i =>
      rw [List.getElem?_append_right (by rw [stepC_llen]; omega), stepC_llen, show (i + 1) * 33 + j - 33 = i * 33 + j from by omega]
      exact ih i (by simpa using hi)
theorem cellsW_append (F G : List (List Nat)) : cellsW (F ++ G) = cellsW F ++ cellsW G := by simp [cellsW]
theorem cellsW_one (f : List Nat) : cellsW [f] = (stepC f).toList := by simp [cellsW]
/-- The slice v of the call's own holds the steps of these texts. -/
def OwnW (w : World) (base : Nat) (v : Value) (F : List (List Nat)) : Prop := w.ownsRow base 97 33 v F.length (cellsW F)
theorem OwnW.below {w w' : World} {base : Nat} {v : Value} {F : List (List Nat)} (h : OwnW w base v F) (hb : Below w.heap.size w w') : OwnW w' base v F := by
  obtain ⟨h1, h2⟩ := h
  refine ⟨h1, ?_⟩
  rcases h2 with h2 | ⟨g, cap, cur, hv, hg, hh, r⟩
  · exact Or.inl h2
  · exact Or.inr ⟨g, cap, cur, hv, hg, by rw [hb.block g (Array.getElem?_eq_some_iff.1 hh).1]; exact hh, r⟩
theorem OwnW.mono {w : World} {base base' : Nat} {v : Value} {F : List (List Nat)} (h : OwnW w base v F) (hb : base' ≤ base) : OwnW w base' v F := by
  obtain ⟨h1, h2⟩ := h
  refine ⟨h1, ?_⟩
  rcases h2 with h2 | ⟨g, cap, cur, hv, hg, hh, r⟩
  · exact Or.inl h2
  · exact Or.inr ⟨g, cap, cur, hv, Nat.le_trans hb hg, hh, r⟩
/-- The slice v holds the steps of these texts. -/
def Ways (w : World) (v : Value) (F : List (List Nat)) : Prop :=
  ∃ ao cap, v = .slice ao F.length cap ∧ ∀ i, i < F.length → ∃ b o, ao = some ⟨b, o, none⟩ ∧ b < w.heap.size ∧ w.rangeAt b (o + i * 33) (stepC (F.getD i [])).toList
theorem Ways.below {w w' : World} {v : Value} {F : List (List Nat)} (h : Ways w v F) (hb : Below w.heap.size w w') : Ways w' v F := by
  obtain ⟨ao, cap, rfl, hc⟩ := h
  refine ⟨ao, cap, rfl, fun i hi => ?_⟩
  obtain ⟨b, o, h1, h2, h3⟩ := hc i hi
  exact ⟨b, o, h1, Nat.lt_of_lt_of_le h2 hb.size, range_below h3 hb h2⟩
theorem OwnW.ways {w : World} {base : Nat} {v : Value} {F : List (List Nat)} (h : OwnW w base v F) : Ways w v F := by
  obtain ⟨h1, ⟨hv, hz⟩ | ⟨g, cap, cur, hv, hg, hh, hn, _, hs, hc⟩⟩ := h
  · exact ⟨none, 0, by rw [hv, hz], fun i hi => absurd hi (by omega)⟩
  · refine ⟨_, cap, hv, fun i hi => ⟨g, 0, rfl, (Array.getElem?_eq_some_iff.1 hh).1, fun j u hj => ?_⟩⟩
    have hj32 : j < 33 := by
      have := (List.getElem?_eq_some_iff.1 hj).1
      rwa [stepC_llen] at this
    rw [Nat.zero_add, cell_of_row w g _ cur _ _ hh]
    have h2 : cur[i * 33 + j]? = (cur.toList.take (F.length * 33))[i * 33 + j]? := by
      rw [List.getElem?_take, if_pos (by omega), Array.getElem?_toList]
    rw [h2, hc, cellsW_get F i j hi hj32]
    exact hj
theorem info78z : (Tryd.prog.info? 97).map (fun i => (i.zero, i.size, i.bytes)) = some (some (.agg (#[.string ⟨#[]⟩] ++ ints .u8 (List.replicate 32 0))), 33, 48) := by kernel_rfl
/-- append(s, x...), s the call's own, x one step that lies in the newest block. -/
theorem wpList_appW {w0 : World} {ops : Array Oper} {rest : List Oper} {o : Oper} {a : Act} {Q : Exit → Act → World → Prop} (hgd : o.guard = none) (s x : Operand)
    (ho : o.op = .call { callee := .builtin .append, args := #[s, x], argTypes := #[78, 78] })
    (base : Nat) (v : Value) (F : List (List Nat)) (f : List Nat) (hs : a.eval s = v) (hown : OwnW (w0.alloc (.cells (stepC f) 97)) base v F)
    (hx : a.eval x = .slice (some ⟨w0.heap.size, 0, none⟩) 1 1) (hlen : F.length ≤ 1000000) (hbase : base ≤ w0.heap.size)
    (h : ∀ v' w', OwnW w' base v' (F ++ [f]) → Below base (w0.alloc (.cells (stepC f) 97)) w' → wpList Tryd.prog ops Q rest (a.put o.dst v') w') : wpList Tryd.prog ops Q (o :: rest) a (w0.alloc (.cells (stepC f) 97)) := by
  obtain ⟨i, hi, hz0, hz1, hz2⟩ := info_parts info78z
  refine wpList_append_own _ hgd s x 78 ho base 97 i _ 33 48 Tryd.underlying78 hi hz0 hz1 hz2 (by kernel_rfl) (by decide) v F.length _ hs hown ⟨w0.heap.size, 0, none⟩ 1 1 (stepC f).toList hx (by rw [stepC_llen]) ?_ ?_ (by unfold maxLen; omega) (by omega) (by simp; omega) ?_
  · intro j u hj
    rw [Addr.add_mid, Nat.zero_add, cell_of_row _ _ _ _ _ _ (heap_alloc_new _ _)]; simpa using hj
  · intro u hu
    exact Array.all_eq_true_iff_forall_mem.1 (stepC_one f) u (by simpa using hu)
  · intro v' w' h2 h3 _
    refine h v' w' ?_ ((Below.refl base _).grown h3 (by simp; omega) ?_)
    · unfold OwnW
      rw [List.length_append, cellsW_append, cellsW_one]
      exact h2
    · intro k hk
      obtain ⟨_, h2' | ⟨g, cap, cur, hv, hg, _⟩⟩ := hown
      · rw [h2'.1] at hk; cases hk
      · rw [hv] at hk; simp only [Value.ownBlock, Option.some.injEq] at hk; omega

set_option maxHeartbeats 1000000 in
set_option maxRecDepth 100000 in
theorem wroot_any (v : Value) (F : List (List Nat)) (hF : 0 < F.length) (hFl : F.length ≤ 1000000) (w : World) (hW : Ways w v F) :
    Calls Tryd.prog 27 #[v] w fun e w' => e = .returned (.agg (ints .u8 (Sx.digest (F.getD (F.length - 1) [])))) ∧ Below w.heap.size w w' := by
  obtain ⟨ao, cap, rfl, hc⟩ := hW
  obtain ⟨b, o, rfl, hbw, hrg⟩ := hc (F.length - 1) (by omega)
  have hD := digest_length (F.getD (F.length - 1) [])
  have hsz : (ints .u8 (Sx.digest (F.getD (F.length - 1) []))).size = 32 := by rw [ints_size, hD]
  have HR0 := hid (show w.rangeAt b (o + (F.length - 1) * 33 + 1) (ints .u8 (Sx.digest (F.getD (F.length - 1) []))).toList from by
    intro j u hj
    have := hrg (1 + j) u (by simp only [stepC, Array.toList_append]; rw [List.getElem?_append_right (by simp)]; simpa using hj)
    rwa [← Nat.add_assoc] at this)
  clear hc hrg hD
  generalize Sx.digest (F.getD (F.length - 1) []) = D at *
  have g1 : ((F.length : Int) - 1).toNat = F.length - 1 := by omega
  have g2 : (0 : Int) ≤ (F.length : Int) - 1 := by omega
  have g3 : (F.length : Int) - 1 < F.length := by omega
  go_enter Tryd.func27, Tryd.ntmps27
  go_upto_region 1 with (fail)
  generalize hw0 : w.alloc _ = w0
  have HZ := hid (show Row w0 w.heap.size .u8 27 (List.replicate 32 0) from by rw [← hw0]; unfold Row; rw [heap_alloc_new]; kernel_rfl)
  have HB0 := hid (show Below w.heap.size w w0 from by rw [← hw0]; exact (Below.refl _ _).alloc (Nat.le_refl _) _)
  have HR := hid (range_below HR0.out HB0.out hbw)
  clear hw0 HR0
  go_wp2_with (first
    | (refine wpList_load_mid rfl _ _ rfl b (o + (F.length - 1) * 33 + 1) rfl _ _ HR.out Tryd.underlying27 rfl (by rw [Array.length_toList, hsz]; exact info27) ?_; rw [Array.toArray_toList])
    | (refine wpList_store_row rfl _ _ _ rfl w.heap.size _ rfl rfl _ _ HZ.out (by rw [hsz]; exact info27) (by rw [hsz, ints_size, List.length_replicate]) (ints_one _ _) ?_))
  exact bodyPost_ret (v := .agg (ints .u8 D))
    (results_cell_row Tryd.results27 _ _ w.heap.size _ _ _ _ rfl (setRow_heap w0 w.heap.size _ _ _ _ HZ.out) Tryd.underlying27 rfl (by rw [hsz]; exact info27))
    rfl ⟨rfl, below_setRow HB0.out (Nat.le_refl _) _⟩
end Go.Proofs.YtnhecallffkedabDoor
