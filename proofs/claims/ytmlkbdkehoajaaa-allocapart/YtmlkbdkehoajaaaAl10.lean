/-
  Layer 11: what the reference's Taken returns.
-/
import Derived.Test.YtmlkbdkehoajaaaAl9
namespace Go.Proofs.Ytmlkbdkehoajaaa
open Go.RowKit
open Go.Lib (hid)

theorem infoRs : (Try.prog.info? 31).map (fun i => (i.zero, i.size, i.bytes)) = some (some (.agg #[.int .i64 0, .int .i64 0]), 2, 16) := by kernel_rfl
/-- The slice v of the call's own holds these Spans. -/
def OwnSp (w : World) (base : Nat) (T : TypeId) (v : Value) (l : List (Nat × Nat)) : Prop := w.ownsRow base T 2 v l.length (spC l)
theorem OwnSp.below {w w' : World} {base : Nat} {T : TypeId} {v : Value} {l : List (Nat × Nat)} (h : OwnSp w base T v l) (hb : Below w.heap.size w w') : OwnSp w' base T v l := by
  obtain ⟨h1, h2⟩ := h
  refine ⟨h1, ?_⟩
  rcases h2 with h2 | ⟨g, cap, cur, hv, hg, hh, r⟩
  · exact Or.inl h2
  · exact Or.inr ⟨g, cap, cur, hv, hg, by rw [hb.block g (Array.getElem?_eq_some_iff.1 hh).1]; exact hh, r⟩
/-- Spans that can be read. -/
def Spans (w : World) (ao : Option Addr) (l : List (Nat × Nat)) : Prop := ∀ i, i < l.length → ∃ g, ao = some ⟨g, 0, none⟩ ∧ w.cell? ⟨g, i * 2, none⟩ = some (.int .i64 ((l.getD i (0, 0)).1 : Int)) ∧ w.cell? ⟨g, i * 2 + 1, none⟩ = some (.int .i64 ((l.getD i (0, 0)).2 : Int))
theorem spC_get (l : List (Nat × Nat)) (i : Nat) (h : i < l.length) : (spC l)[2 * i]? = some (.int .i64 ((l.getD i (0, 0)).1 : Int)) ∧ (spC l)[2 * i + 1]? = some (.int .i64 ((l.getD i (0, 0)).2 : Int)) := by
  induction l generalizing i with
  | nil => simp at h
  | cons x l ih =>
    cases i with
    | zero => simp [spC]
    | succ i =>
      have := ih i (by simpa using h)
      have e : spC (x :: l) = [.int .i64 (x.1 : Int), .int .i64 (x.2 : Int)] ++ spC l := by simp [spC]
      rw [e, List.getElem?_append_right (by simp; omega), List.getElem?_append_right (by simp; omega)]
      simp only [List.length_cons, List.length_nil]
      rw [show 2 * (i + 1) - (0 + 1 + 1) = 2 * i from by omega, show 2 * (i + 1) + 1 - (0 + 1 + 1) = 2 * i + 1 from by omega]
      simpa using this
theorem spC_length (l : List (Nat × Nat)) : (spC l).length = 2 * l.length := by
  induction l with
  | nil => rfl
  | cons x l ih => simp only [spC, List.flatMap_cons, List.length_append, List.length_cons, List.length_nil] at ih ⊢; omega
theorem OwnSp.spans {w : World} {base : Nat} {T : TypeId} {v : Value} {l : List (Nat × Nat)} (h : OwnSp w base T v l) : ∃ ao cap, v = .slice ao l.length cap ∧ Spans w ao l := by
  obtain ⟨h1, ⟨hv, h0⟩ | ⟨g, cap, cur, hv, hg, hh, hn, _, hs, hc⟩⟩ := h
  · have hl : l = [] := List.eq_nil_of_length_eq_zero h0
    subst hl
    exact ⟨none, 0, hv, fun i hi => absurd hi (by simp)⟩
  · refine ⟨_, cap, hv, fun i hi => ⟨g, rfl, ?_, ?_⟩⟩
    all_goals rw [Nat.mul_comm i 2]
    · have h2 : cur[2 * i]? = (cur.toList.take (l.length * 2))[2 * i]? := by
        rw [List.getElem?_take, if_pos (by omega), Array.getElem?_toList]
      rw [cell_of_row w g (2 * i) cur _ _ hh, h2, hc, (spC_get l i hi).1]
    · have h2 : cur[2 * i + 1]? = (cur.toList.take (l.length * 2))[2 * i + 1]? := by
        rw [List.getElem?_take, if_pos (by omega), Array.getElem?_toList]
      rw [cell_of_row w g (2 * i + 1) cur _ _ hh, h2, hc, (spC_get l i hi).2]
theorem Spans.below {w w' : World} {ao : Option Addr} {l : List (Nat × Nat)} (h : Spans w ao l) (hb : Below w.heap.size w w') : Spans w' ao l := by
  intro i hi
  obtain ⟨g, h1, h2, h3⟩ := h i hi
  exact ⟨g, h1, (hb.cell (block_lt_of_cell h2)).trans h2, (hb.cell (block_lt_of_cell h3)).trans h3⟩
theorem wpList_appSp {w : World} {ops : Array Oper} {rest : List Oper} {o : Oper} {a : Act} {Q : Exit → Act → World → Prop} (hgd : o.guard = none) (s x : Operand)
    (ho : o.op = .call { callee := .builtin .append, args := #[s, x], argTypes := #[46, 46] })
    (base : Nat) (v : Value) (l : List (Nat × Nat)) (n : Nat) (hn : l.length = n) (hs : a.eval s = v) (hown : OwnSp w base 31 v l)
    (ad : Addr) (y : Nat × Nat) (hx : a.eval x = .slice (some ad) 1 1) (hnews : ∀ j u, ([.int .i64 (y.1 : Int), .int .i64 (y.2 : Int)] : List Value)[j]? = some u → w.cell? (ad.add j) = some u)
    (hlen : n ≤ 5000) (hbase : base ≤ w.heap.size)
    (h : ∀ v' w', OwnSp w' base 31 v' (l ++ [y]) → Below base w w' → wpList Try.prog ops Q rest (a.put o.dst v') w') : wpList Try.prog ops Q (o :: rest) a w := by
  obtain ⟨i, hi, hz0, hz1, hz2⟩ := info_parts infoRs
  subst hn
  refine wpList_append_own w hgd s x 46 ho base 31 i (.agg #[.int .i64 0, .int .i64 0]) 2 16 Try.underlying46 hi hz0 hz1 hz2 rfl (by decide) v l.length _ hs hown ad 1 1 [.int .i64 (y.1 : Int), .int .i64 (y.2 : Int)] hx rfl hnews ?_ (by unfold maxLen; omega) (by omega) hbase ?_
  · intro u hu
    simp only [List.mem_cons, List.not_mem_nil, or_false] at hu
    rcases hu with rfl | rfl <;> rfl
  · intro v' w' h2 h3 _
    refine h v' w' ?_ ((Below.refl base w).grown h3 hbase ?_)
    · unfold OwnSp
      rw [List.length_append, spC_snoc]
      exact h2
    · intro k hk
      obtain ⟨_, h2' | ⟨g, cap, cur, hv, hg, _⟩⟩ := hown
      · rw [h2'.1] at hk; cases hk
      · rw [hv] at hk; simp only [Value.ownBlock, Option.some.injEq] at hk; omega

set_option maxHeartbeats 2000000 in
set_option maxRecDepth 100000 in
theorem rtaken_any (g c : Nat) (L : List Bool) (w : World) (h : BRow w g c L) (hle : L.length ≤ 4096) :
    Calls Try.prog 23 #[.slice (some ⟨g, 0, none⟩) L.length c] w fun e w' => ∃ v, e = .returned v ∧ OwnSp w' w.heap.size 31 v (Al.spans L true) ∧ Below w.heap.size w w' := by
  have HR0 := hid (h.at (Below.heap_alloc w (.cells #[] 31) g h.lt))
  have HB0 := hid ((Below.refl w.heap.size w).alloc (Nat.le_refl _) (.cells #[] 31))
  have HO0 := hid (show OwnSp (w.alloc (.cells #[] 31)) w.heap.size 31 (.slice (some ⟨w.heap.size, 0, none⟩) 0 0) [] from
    ⟨rfl, Or.inr ⟨w.heap.size, 0, #[], rfl, Nat.le_refl _, heap_alloc_new _ _, Nat.le_refl _, by unfold maxLen; omega, rfl, rfl⟩⟩)
  have hgl : g < w.heap.size := h.lt
  clear h
  go_enter Try.func23, Try.ntmps23
  go_upto_region 3 with (fail)
  generalize w.alloc (.cells #[] 31) = w0 at *
  go_loopw [3, 4, 5] (fun v i n wr => ∃ (p : Nat) (pre : List (Nat × Nat)), p ≤ L.length + 1 ∧ i = .int .i64 p ∧ Al.spans L true = pre ++ Al.from_ L true p ∧ OwnSp wr w.heap.size 31 v pre ∧ BRow wr g c L ∧ Below w.heap.size w wr)
    (fun _ i _ _ => L.length + 1 - (intOf i).toNat)
  case atStart => exact ⟨0, [], by omega, rfl, rfl, HO0.out, HR0.out, HB0.out⟩
  case round =>
    clear HO0 HR0 HB0
    obtain ⟨p, pre, hp, rfl, hpre, hown, hr, hbel⟩ := hrel
    have HPRE := hid hpre
    have HR := hid hr
    have HBEL := hid hbel
    by_cases hlt : p < L.length
    · have HST := hid (Al.from_step L true p hlt)
      have HRU := hid (run_any g c L p (by omega) true wr hr hle)
      have hrl := Al.run_le L p true
      have hsl := Al.spans_len L true
      have hpl : pre.length ≤ 4096 := by rw [hpre, List.length_append] at hsl; omega
      have HOA := hid (fun F C => hown.below ((Below.refl wr.heap.size wr).alloc (Nat.le_refl _) (.cells #[.int .i64 F, .int .i64 C] 31)))
      have HBA := hid (fun F C => hbel.alloc hbel.size (.cells #[.int .i64 F, .int .i64 C] 31))
      have HRA := hid (fun F C => hr.at (Below.heap_alloc wr (.cells #[.int .i64 F, .int .i64 C] 31) g hr.lt))
      have HOW := hid hown
      clear hpre hr hbel hsl hown
      generalize Al.run L p true = R at *
      have hpi : (p : Int) < (L.length : Int) := by omega
      by_cases hR0 : 0 < R
      · have hRi : (0 : Int) < (R : Int) := by omega
        have HST2 := hid (show Al.from_ L true p = [(p, R)] ++ Al.from_ L true (p + R + 1) from by rw [HST.out, if_pos hR0])
        go_wp2_with fail
        refine HRU.out.mono ?_
        rintro e w1 ⟨rfl, hw1⟩
        obtain rfl : wr = w1 := hw1.symm
        have hbs := (HBA.out (p : Int) (R : Int)).size
        go_wp2_with (refine wpList_appSp rfl _ _ rfl w.heap.size _ pre _ rfl rfl (HOA.out (p : Int) (R : Int)) _ (p, R) rfl (cell_two_sp _ _ _ _) (by omega) hbs ?_; intro v' w' hown' hbel')
        go_roundw
        case rel =>
          first
            | exact ⟨p + R + 1, pre ++ [(p, R)], by omega, by go_num, by rw [HPRE.out, HST2.out, List.append_assoc], hown', (HRA.out (p : Int) (R : Int)).at (hbel'.block g hgl), (HBA.out (p : Int) (R : Int)).trans hbel'⟩
            | ((repeat apply Exists.intro); refine ⟨?_, rfl⟩; exact ⟨p + R + 1, pre ++ [(p, R)], by omega, by go_num, by rw [HPRE.out, HST2.out, List.append_assoc], hown', (HRA.out (p : Int) (R : Int)).at (hbel'.block g hgl), (HBA.out (p : Int) (R : Int)).trans hbel'⟩)
        case measure => simp [intOf]; omega
      · obtain rfl : R = 0 := by omega
        have HST2 := hid (show Al.from_ L true p = Al.from_ L true (p + 1) from by rw [HST.out]; rfl)
        go_wp2_with fail
        refine HRU.out.mono ?_
        rintro e w1 ⟨rfl, hw1⟩
        obtain rfl : wr = w1 := hw1.symm
        go_wp2
        exact ⟨⟨p + 1, pre, by omega, by go_num, by rw [HPRE.out, HST2.out], HOW.out, HR.out, HBEL.out⟩, by simp [intOf]; omega⟩
    · have HE := hid (Al.from_end L true p (by omega))
      rw [HE.out, List.append_nil] at HPRE
      have HOW := hid hown
      have hpi : ¬ (p : Int) < (L.length : Int) := by omega
      clear hpre hr hbel hown
      go_wp2
      go_ret
      exact ⟨_, rfl, by rw [HPRE.out]; exact HOW.out, HBEL.out⟩
end Go.Proofs.Ytmlkbdkehoajaaa
