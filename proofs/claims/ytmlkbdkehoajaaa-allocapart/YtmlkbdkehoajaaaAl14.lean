/-
  Layer 11, law AllocApart: the pure side (what the owners say of the map; what is given in its order), and a queue of Spans: append at one end, [1:] at the other.
-/
import Derived.Test.YtmlkbdkehoajaaaAl13
import Derived.Maps.RangeWalk
import Derived.Maps.OwnSet
namespace Go.Proofs.Ytmlkbdkehoajaaa
open Go.ChangeShapes Go.WideShapes Go.ChangeAt Go.RowKit
open Go.Lib (hid)

namespace Ap
open Al
theorem run_ge (L : List Bool) (F n : Nat) (t : Bool) (h : ∀ i, i < n → L[F + i]? = some t) : n ≤ run L F t := by
  rcases Nat.lt_or_ge (run L F t) n with hlt | hge
  · exact absurd (h _ hlt) (run_out L F t)
  · exact hge
/-- These can be given back in their order. -/
def Cov : List Bool → List (Nat × Nat) → Prop
  | _, [] => True
  | L, s :: r => 1 ≤ s.2 ∧ s.1 + s.2 ≤ L.length ∧ s.2 ≤ run L s.1 true ∧ Cov (setN L s.1 false s.2) r
theorem setN_swap (L : List Bool) (F n s m : Nat) (hF : F + n ≤ L.length) (hs : s + m ≤ L.length) (hr : n ≤ run L F false) (ht : m ≤ run L s true) :
    setN (setN L F true n) s false m = setN (setN L s false m) F true n := by
  apply List.ext_getElem?
  intro i
  rw [setN_get _ s false m i (by rw [setN_length]; omega), setN_get L F true n i hF, setN_get _ F true n i (by rw [setN_length]; omega), setN_get L s false m i hs]
  by_cases h1 : s ≤ i ∧ i < s + m
  · by_cases h2 : F ≤ i ∧ i < F + n
    · exfalso
      have a := run_has L F false (i - F) (by omega)
      have b := run_has L s true (i - s) (by omega)
      rw [show F + (i - F) = i from by omega] at a
      rw [show s + (i - s) = i from by omega] at b
      rw [a] at b
      cases b
    · rw [if_pos h1, if_neg h2, if_pos h1]
  · by_cases h2 : F ≤ i ∧ i < F + n
    · rw [if_neg h1, if_pos h2, if_pos h2]
    · rw [if_neg h1, if_neg h2, if_neg h2, if_neg h1]
theorem Cov.snoc : ∀ (K : List (Nat × Nat)) (L : List Bool), Cov L K → ∀ F n, 1 ≤ n → F + n ≤ L.length → n ≤ run L F false → Cov (setN L F true n) (K ++ [(F, n)])
  | [], L, _, F, n, hn, hF, _ => by
    refine ⟨hn, by rw [setN_length]; exact hF, run_ge _ _ _ _ (fun i hi => ?_), trivial⟩
    show (setN L F true n)[F + i]? = some true
    rw [setN_get L F true n _ hF, if_pos (by omega)]
  | s :: r, L, ⟨h1, h2, h3, h4⟩, F, n, hn, hF, hr => by
    refine ⟨h1, by rw [setN_length]; exact h2, run_ge _ _ _ _ (fun i hi => ?_), ?_⟩
    · rw [setN_get L F true n _ hF]
      split
      · rfl
      · exact run_has L s.1 true i (by omega)
    · rw [setN_swap L F n s.1 s.2 hF h2 hr h3]
      refine Cov.snoc r _ h4 F n hn (by rw [setN_length]; exact hF) (run_ge _ _ _ _ fun i hi => ?_)
      rw [setN_get L s.1 false s.2 _ h2]
      split
      · rfl
      · exact run_has L F false i (by omega)
theorem ch_give (L : List Bool) (F n : Nat) (hn : 1 ≤ n) (hF : F + n ≤ L.length) (hr : n ≤ run L F true) : ch L (F : Int) (n : Int) false = true ∧ after L (F : Int) (n : Int) false = setN L F false n := by
  have h : ch L (F : Int) (n : Int) false = true := by
    unfold ch
    rw [Bool.and_eq_true, fits_iff, decide_eq_true_eq, Int.toNat_natCast]
    show _ ∧ (n : Int) ≤ ((run L F (!false) : Nat) : Int)
    rw [show (!false) = true from rfl]
    omega
  refine ⟨h, ?_⟩
  unfold after
  rw [h, if_pos rfl, Int.toNat_natCast, Int.toNat_natCast]
theorem not_again (L : List Bool) (F n : Nat) (hn : 1 ≤ n) (hF : F + n ≤ L.length) : ch (setN L F false n) (F : Int) (n : Int) false = false ∧ after (setN L F false n) (F : Int) (n : Int) false = setN L F false n := by
  have h : ch (setN L F false n) (F : Int) (n : Int) false = false := by
    unfold ch
    rw [Bool.and_eq_false_iff]
    right
    refine decide_eq_false ?_
    rw [Int.toNat_natCast]
    show ¬ (n : Int) ≤ ((run (setN L F false n) F (!false) : Nat) : Int)
    rw [show (!false) = true from rfl, run_zero]
    · omega
    · rw [setN_get L F false n _ hF, if_pos (by omega)]; decide
  refine ⟨h, ?_⟩
  unfold after
  rw [h]
  rfl
theorem first_is (L : List Bool) (k : Int) (hn : first L k = none) (hk : 1 ≤ k) : (most (spans L false) : Int) < k := by
  rcases Int.lt_or_le (most (spans L false) : Int) k with h | h
  · exact h
  · exfalso
    rcases most_at (spans L false) 0 with h0 | ⟨x, hx, h0⟩
    · have e : most (spans L false) = List.foldl (fun m x => max m x.2) 0 (spans L false) := rfl
      omega
    · have e : most (spans L false) = List.foldl (fun m x => max m x.2) 0 (spans L false) := rfl
      unfold first at hn
      rw [List.find?_eq_none] at hn
      have := hn x hx
      simp at this
      omega

abbrev K (p : Int) : Lit := .int .i64 p
abbrev V (p : Int) : DataW Unit := .lit (.int .i64 p)
/-- The owners: nought just where the page is free. -/
structure Holds (L : List Bool) (D : DataW Unit) : Prop where
  keys : ∀ p : Int, Maps.has D (K p) = true → 0 ≤ p ∧ p < (L.length : Int)
  at_ : ∀ p : Nat, p < L.length → ∃ o : Int, D.atKey (K p) (V 0) = V o ∧ (o ≠ 0 ↔ L[p]? = some true)
theorem holds_none (n : Nat) : Holds (List.replicate n false) (.map []) := by
  refine ⟨fun p h => (by cases h), fun p hp => ⟨0, rfl, ?_⟩⟩
  rw [List.length_replicate] at hp
  simp [List.getElem?_replicate, hp]
theorem Holds.free {L : List Bool} {D : DataW Unit} (h : Holds L D) (p : Nat) (hp : L[p]? = some false) (c : Int) (hc : D.atKey (K p) (V 0) = V c) : c = 0 := by
  obtain ⟨o, h1, h2⟩ := h.at_ p (List.getElem?_eq_some_iff.1 hp).1
  rw [h1] at hc
  injection hc with hc
  injection hc with _ hc
  subst hc
  rcases Classical.em (o = 0) with h0 | h0
  · exact h0
  · have := h2.1 h0
    rw [hp] at this
    cases this
theorem Holds.put {L : List Bool} {D : DataW Unit} (h : Holds L D) (hm : Maps.IsMap D) (p : Nat) (hp : p < L.length) (t : Bool) (o : Int) (ho : o ≠ 0 ↔ t = true) : Holds (L.set p t) (D.put (K p) (V o)) := by
  refine ⟨fun q hq => ?_, fun q hq => ?_⟩
  · rw [List.length_set]
    by_cases hqp : q = (p : Int)
    · subst hqp; omega
    · rw [Maps.has_put_other (fun e => hqp (by injection e))] at hq
      exact h.keys q hq
  · rw [List.length_set] at hq
    by_cases hqp : q = p
    · subst hqp
      refine ⟨o, Maps.atKey_put_same hm (show WideAt.IsKeyLit (K (q : Int)) from trivial) _ _, ?_⟩
      rw [List.getElem?_set_self hp, ho]
      simp
    · obtain ⟨o', h1, h2⟩ := h.at_ q hq
      refine ⟨o', ?_, ?_⟩
      · rw [Maps.atKey_put_other (fun e => hqp (by injection e with _ e; omega))]
        exact h1
      · rw [List.getElem?_set_ne (fun e => hqp e.symm)]
        exact h2
/-- How many of the owners that have come are not nought. -/
def cnt (L : List Bool) (left : Lit → Bool) : Nat := (List.range L.length).countP fun (p : Nat) => decide (L[p]? = some true) && !left (K p)
theorem countP_step (f g : Nat → Bool) (x : Nat) (b : Bool) (hx : f x = false) (hg : g x = b) (hne : ∀ p, p ≠ x → g p = f p) : ∀ n, (List.range n).countP g = (List.range n).countP f + if x < n ∧ b = true then 1 else 0 := by
  intro n
  induction n with
  | zero => simp
  | succ n ih =>
    rw [List.range_succ, List.countP_append, List.countP_append, ih, List.countP_singleton, List.countP_singleton]
    by_cases h : n = x
    · subst h
      rw [hx, hg]
      cases b <;> simp
    · rw [hne n h]
      cases b
      · simp
      · by_cases hx' : x < n
        · have h1 : x < n + 1 := by omega
          simp only [hx', h1, and_self, if_true]
          omega
        · have h1 : ¬ x < n + 1 := by omega
          simp only [hx', h1, false_and, if_false]
          omega
theorem cnt_zero (L : List Bool) (D : DataW Unit) (h : Holds L D) : cnt L (Maps.has D) = 0 := by
  unfold cnt
  rw [List.countP_eq_zero]
  intro p hp hb
  rw [List.mem_range] at hp
  rw [Bool.and_eq_true, decide_eq_true_eq, Bool.not_eq_true'] at hb
  obtain ⟨o, h1, h2⟩ := h.at_ p hp
  rw [Maps.atKey_of_not_has hb.2] at h1
  injection h1 with h1
  injection h1 with _ h1
  exact h2.2 hb.1 h1.symm
theorem cnt_step {L : List Bool} {D : DataW Unit} (h : Holds L D) (left : Lit → Bool) (x c : Int) (hl : left (K x) = true) (hat : ∀ zd, D.atKey (K x) zd = V c) :
    cnt L (fun z => left z && !z.sameKey (K x)) = cnt L left + if c ≠ 0 then 1 else 0 := by
  obtain ⟨hx0, hx1⟩ := h.keys x (Maps.has_true_of_atKey hat)
  obtain ⟨p, rfl⟩ : ∃ p : Nat, x = (p : Int) := ⟨x.toNat, by omega⟩
  obtain ⟨o, h1, h2⟩ := h.at_ p (by omega)
  rw [hat] at h1
  injection h1 with h1
  injection h1 with _ h1
  subst h1
  unfold cnt
  rw [countP_step (fun (q : Nat) => decide (L[q]? = some true) && !left (K q)) _ p (decide (L[p]? = some true)) ?_ ?_ ?_ L.length]
  · congr 1
    have : (p < L.length ∧ decide (L[p]? = some true) = true) ↔ c ≠ 0 := by
      rw [decide_eq_true_eq, h2]
      exact ⟨fun h => h.2, fun h => ⟨by omega, h⟩⟩
    simp only [this]
  · show (_ && !left (K p)) = false
    rw [hl]
    simp
  · show (_ && !(left (K p) && !Lit.sameKey (K p) (K p))) = _
    have : Lit.sameKey (K (p : Int)) (K p) = true := by simp [Lit.sameKey]
    rw [this]
    simp
  · intro q hq
    show (_ && !(left (K q) && !Lit.sameKey (K q) (K p))) = (_ && !left (K q))
    have : Lit.sameKey (K (q : Int)) (K p) = false := Maps.sameKey_ne (fun e => hq (by injection e with _ e; omega))
    rw [this]
    simp
theorem cnt_all (L : List Bool) (left : Lit → Bool) (h : ∀ kl, left kl = false) : cnt L left + L.count false = L.length := by
  have e : ∀ p : Nat, (decide (L[p]? = some true) && !left (K p)) = decide (L[p]? = some true) := fun p => by rw [h]; simp
  unfold cnt
  simp only [e]
  clear e h
  have : ∀ M : List Bool, (List.range M.length).countP (fun (p : Nat) => decide (M[p]? = some true)) + M.count false = M.length := by
    intro M
    obtain ⟨R, rfl⟩ : ∃ R, M = R.reverse := ⟨M.reverse, by simp⟩
    induction R with
    | nil => rfl
    | cons b R ih =>
      rw [List.reverse_cons, List.length_append, List.length_singleton, List.range_succ, List.countP_append, List.count_append, List.countP_singleton]
      have hc : (List.range R.reverse.length).countP (fun (p : Nat) => decide ((R.reverse ++ [b])[p]? = some true)) = (List.range R.reverse.length).countP (fun (p : Nat) => decide (R.reverse[p]? = some true)) := by
        apply List.countP_congr
        intro p hp
        rw [List.mem_range] at hp
        rw [List.getElem?_append_left hp]
      rw [hc]
      have hl : (R.reverse ++ [b])[R.reverse.length]? = some b := by rw [List.getElem?_append_right (Nat.le_refl _), Nat.sub_self]; rfl
      rw [hl]
      cases b
      · simp at ih ⊢; omega
      · simp at ih ⊢; omega
  exact this L
end Ap

/-- A queue of Spans of the call's own: [1:] may have left cells ahead of it. -/
def OwnQ (w : World) (base : Nat) (v : Value) (l : List (Nat × Nat)) : Prop :=
  (v = .slice none 0 0 ∧ l = []) ∨
  ∃ g o cap cur, v = .slice (some ⟨g, o, none⟩) l.length cap ∧ base ≤ g ∧ w.heap[g]? = some (.cells cur 40 (0, 0)) ∧ l.length ≤ cap ∧ cap ≤ maxLen ∧ o + cap * 2 ≤ cur.size ∧ (cur.toList.drop o).take (l.length * 2) = spC l
theorem OwnQ.nil (w : World) (base : Nat) : OwnQ w base (.slice none 0 0) [] := Or.inl ⟨rfl, rfl⟩
theorem OwnQ.at {w w' : World} {base : Nat} {v : Value} {l : List (Nat × Nat)} (h : OwnQ w base v l) (hk : ∀ (k : Nat) (cs : Array Value), w.heap[k]? = some (Obj.cells cs 40 (0, 0)) → w'.heap[k]? = w.heap[k]?) : OwnQ w' base v l := by
  rcases h with h | ⟨g, o, cap, cur, h1, h2, h3, r⟩
  · exact Or.inl h
  · exact Or.inr ⟨g, o, cap, cur, h1, h2, (hk g cur h3).trans h3, r⟩
theorem OwnQ.below {w w' : World} {base : Nat} {v : Value} {l : List (Nat × Nat)} (h : OwnQ w base v l) (hb : Below w.heap.size w w') : OwnQ w' base v l :=
  h.at fun k _ hk => hb.block k (Array.getElem?_eq_some_iff.1 hk).1
theorem OwnQ.keptB {w w' : World} {base gm c : Nat} {L : List Bool} {v : Value} {l : List (Nat × Nat)} (h : OwnQ w base v l) (hr : BRow w gm c L) (hk : KeptB gm w w') : OwnQ w' base v l :=
  h.at fun k cs hc => hk.block k (Array.getElem?_eq_some_iff.1 hc).1 (fun e => by
    subst e
    obtain ⟨ex, hr, _⟩ := hr
    rw [hr] at hc
    injection hc with hc
    injection hc with _ h2 _
    exact absurd h2 (by decide))
/-- What stands at its head, and what is left behind it. -/
theorem OwnQ.head {w : World} {base : Nat} {v : Value} {x : Nat × Nat} {l : List (Nat × Nat)} (h : OwnQ w base v (x :: l)) :
    ∃ g o cap, v = .slice (some ⟨g, o, none⟩) (l.length + 1) (cap + 1) ∧ l.length ≤ cap ∧ cap + 1 ≤ maxLen ∧ w.cell? ⟨g, o, none⟩ = some (.int .i64 (x.1 : Int)) ∧ w.cell? ⟨g, o + 1, none⟩ = some (.int .i64 (x.2 : Int)) ∧ OwnQ w base (.slice (if cap = 0 then some ⟨g, o, none⟩ else some ⟨g, o + 2, none⟩) l.length cap) l := by
  rcases h with ⟨_, h⟩ | ⟨g, o, cap, cur, h1, h2, h3, h4, h5, h6, h7⟩
  · cases h
  · rw [List.length_cons] at h1 h4 h7
    obtain ⟨cap, rfl⟩ : ∃ c, cap = c + 1 := ⟨cap - 1, by omega⟩
    have hs : spC (x :: l) = [.int .i64 (x.1 : Int), .int .i64 (x.2 : Int)] ++ spC l := by simp [spC]
    have hc : ∀ j, j < (l.length + 1) * 2 → cur[o + j]? = (spC (x :: l))[j]? := by
      intro j hj
      rw [← h7, List.getElem?_take, if_pos hj, List.getElem?_drop, Array.getElem?_toList]
    refine ⟨g, o, cap, h1, by omega, h5, ?_, ?_, ?_⟩
    · rw [cell_of_row w g o cur _ _ h3, show cur[o]? = cur[o + 0]? from rfl, hc 0 (by omega), hs]; rfl
    · rw [cell_of_row w g (o + 1) cur _ _ h3, hc 1 (by omega), hs]; rfl
    · by_cases hc0 : cap = 0
      · subst hc0
        rw [if_pos rfl]
        have hl : l = [] := List.eq_nil_of_length_eq_zero (by omega)
        subst hl
        exact Or.inr ⟨g, o, 0, cur, rfl, h2, h3, by simp, by omega, by omega, by simp [spC]⟩
      rw [if_neg hc0]
      refine Or.inr ⟨g, o + 2, cap, cur, rfl, h2, h3, by omega, by omega, by omega, ?_⟩
      have : ((cur.toList.drop o).take ((l.length + 1) * 2)).drop 2 = (spC (x :: l)).drop 2 := by rw [h7]
      rw [hs, List.drop_take, List.drop_drop] at this
      rw [show (l.length + 1) * 2 - 2 = l.length * 2 from by omega] at this
      exact this
theorem OwnQ.shape {w : World} {base : Nat} {v : Value} {l : List (Nat × Nat)} (h : OwnQ w base v l) : ∃ ao cap, v = .slice ao l.length cap ∧ l.length ≤ cap ∧ cap ≤ maxLen := by
  rcases h with ⟨h, rfl⟩ | ⟨g, o, cap, cur, h1, _, _, h4, h5, _⟩
  · exact ⟨none, 0, h, Nat.le_refl _, by unfold maxLen; omega⟩
  · exact ⟨_, _, h1, h4, h5⟩
section
variable {P : Program} (w : World)
/-- append where there is room, at an offset. -/
theorem run_append_room_at (t ty e : TypeId) (i : TypeInfo) (ht : P.underlying t = some (.slice e)) (hi : P.info? e = some i)
    (g o sLen sCap : Nat) (cur : Array Value) (hg : w.heap[g]? = some (.cells cur e (0, 0)))
    (a : Addr) (m c : Nat) (news : List Value) (hl : news.length = m * i.size) (hnews : ∀ j u, news[j]? = some u → w.cell? (a.add j) = some u) (h1 : ∀ u ∈ news, u.oneCell' = true)
    (hroom : sLen + m ≤ sCap) (hfit : o + sLen * i.size + news.length ≤ cur.size) :
    (Builtin.append_ #[t, t] ty #[.slice (some ⟨g, o, none⟩) sLen sCap, .slice (some a) m c]).run P w =
      .ok (.slice (some ⟨g, o, none⟩) (sLen + m) sCap) (w.setRow g (cur.toList.take (o + sLen * i.size) ++ news ++ cur.toList.drop (o + sLen * i.size + news.length)).toArray) := by
  have hf := run_firstCells_some (P := P) w i.size m a m c news hl hnews
  have hst := run_storeCells_at P g (o + sLen * i.size) e news 0 cur w hg (by simpa using hfit) h1
  simp only [Nat.add_zero] at hst
  simp [Builtin.append_, run_underlying ht, sizeOf, typeInfo, hi, Builtin.lenOf, hroom, hf, Addr.add_lit, hst]
end
theorem infoQ : (Try.prog.info? 40).map (fun i => (i.zero, i.size, i.bytes)) = some (some (.agg #[.int .i64 0, .int .i64 0]), 2, 16) := by kernel_rfl
theorem run_append_q (ty : TypeId) (w : World) (base : Nat) (v : Value) (l : List (Nat × Nat)) (hown : OwnQ w base v l) (ad : Addr) (y : Nat × Nat)
    (hnews : ∀ j u, ([.int .i64 (y.1 : Int), .int .i64 (y.2 : Int)] : List Value)[j]? = some u → w.cell? (ad.add j) = some u) (hlen : l.length ≤ 5000) (hbase : base ≤ w.heap.size) :
    ∃ v' w', (Builtin.append_ #[39, 39] ty #[v, .slice (some ad) 1 1]).run Try.prog w = .ok v' w' ∧ OwnQ w' base v' (l ++ [y]) ∧ w.grownBy w' v.ownBlock := by
  obtain ⟨i, hi, hz0, hz1, hz2⟩ := info_parts infoQ
  have ht := Try.underlying39
  have hone : ∀ u ∈ ([.int .i64 (y.1 : Int), .int .i64 (y.2 : Int)] : List Value), u.oneCell' = true := by
    intro u hu
    simp only [List.mem_cons, List.not_mem_nil, or_false] at hu
    rcases hu with rfl | rfl <;> rfl
  have hsl : ∀ l : List (Nat × Nat), (spC l).length = l.length * 2 := by
    intro l
    induction l with
    | nil => rfl
    | cons x l ih => rw [show spC (x :: l) = [.int .i64 (x.1 : Int), .int .i64 (x.2 : Int)] ++ spC l from by simp [spC], List.length_append, ih, List.length_cons]; simp; omega
  rcases hown with ⟨rfl, rfl⟩ | ⟨g, o, cap, cur, rfl, h2, h3, h4, h5, h6, h7⟩
  · obtain ⟨v', w', hr, hown', hg, _⟩ := run_append_own (P := Try.prog) w base _ ty 40 i _ 2 16 ht hi hz0 hz1 hz2 rfl (by decide) _ 0 [] (World.ownsRow_nil _ _ _ _) ad 1 1 _ rfl hnews hone (by unfold maxLen; omega) (by omega) hbase
    refine ⟨v', w', hr, ?_, hg⟩
    obtain ⟨_, ⟨_, h0⟩ | ⟨g, cap, cur, hv, hg1, hh, hn, hc, hs, ht⟩⟩ := hown'
    · omega
    · refine Or.inr ⟨g, 0, cap, cur, by rw [hv]; rfl, hg1, hh, hn, hc, by omega, ?_⟩
      rw [List.drop_zero]
      simpa [spC] using ht
  · by_cases hroom : l.length + 1 ≤ cap
    · have hr := run_append_room_at (P := Try.prog) w _ ty 40 i ht hi g o l.length cap cur h3 ad 1 1 _ (by rw [hz1]; rfl) hnews hone hroom (by rw [hz1]; simp; omega)
      refine ⟨_, _, hr, Or.inr ⟨g, o, cap, _, by simp, h2, setRow_heap w g cur _ _ _ h3, by simp; omega, h5, ?_, ?_⟩, ⟨rfl, rfl, rfl, by simp, fun k _ hk => setRow_other w g k _ (fun e => hk (by simp [Value.ownBlock, e]))⟩⟩
      · rw [hz1]
        simp only [List.size_toArray, List.length_append, List.length_take, List.length_drop, Array.length_toList, List.length_cons, List.length_nil]
        omega
      · rw [hz1, spC_snoc, ← h7]
        have hcl : o + cap * 2 ≤ cur.toList.length := by rw [Array.length_toList]; exact h6
        have e1 : (cur.toList.take (o + l.length * 2)).drop o = (cur.toList.drop o).take (l.length * 2) := by
          rw [List.drop_take]
          congr 1
          omega
        rw [List.append_assoc, List.drop_append_of_le_length (by rw [List.length_take]; omega), e1, ← List.append_assoc]
        rw [List.take_append_of_le_length (by simp; omega), List.take_of_length_le (by simp; omega)]
    · have holds : ∀ j u, (spC l)[j]? = some u → w.cell? ((⟨g, o, none⟩ : Addr).add j) = some u := by
        intro j u hj
        have hlt : j < l.length * 2 := by rw [← hsl l]; exact (List.getElem?_eq_some_iff.1 hj).1
        rw [← h7, List.getElem?_take, if_pos hlt, List.getElem?_drop, Array.getElem?_toList] at hj
        rw [Addr.add_lit]
        exact (cell_of_row w g (o + j) cur _ _ h3).trans hj
      have hr := run_append_grow (P := Try.prog) w _ ty 40 i _ ht hi hz0 ⟨g, o, none⟩ l.length cap (spC l) (by rw [hz1, hsl]) holds ad 1 1 _ (by rw [hz1]; rfl) hnews (by omega) (by omega) (growslice_fits (by omega) (by rw [hz2]; omega))
      have hge := grownCap_ge w (l.length + 1) cap 40
      have hcm := grownCap_le_maxLen w (l.length + 1) cap 40 (by unfold maxLen; omega)
      refine ⟨_, _, hr, Or.inr ⟨w.heap.size, 0, _, _, by rw [List.length_append]; rfl, hbase, heap_alloc_new w.drew _, by rw [List.length_append]; exact hge, hcm, ?_, ?_⟩, ⟨rfl, rfl, rfl, by simp, fun k hk _ => Below.heap_alloc w.drew _ k hk⟩⟩
      · simp only [Array.size_append, List.size_toArray, size_zeroCells, hsl, Value.cells, List.length_cons, List.length_nil]
        simp
        omega
      · rw [List.drop_zero, spC_snoc]
        simp only [Array.toList_append, List.append_assoc]
        rw [← List.append_assoc]
        rw [List.length_append, List.length_singleton, show (l.length + 1) * 2 = (spC l ++ [Value.int .i64 (y.1 : Int), .int .i64 (y.2 : Int)]).length from by rw [List.length_append, hsl]; simp; omega]
        exact List.take_left
/-- append(s, x), s the queue; what is of another type stays. -/
theorem wpList_appQ {w : World} {ops : Array Oper} {rest : List Oper} {o : Oper} {a : Act} {Q : Exit → Act → World → Prop} (hgd : o.guard = none) (s x : Operand)
    (ho : o.op = .call { callee := .builtin .append, args := #[s, x], argTypes := #[39, 39] })
    (base : Nat) (v : Value) (l : List (Nat × Nat)) (hs : a.eval s = v) (hown : OwnQ w base v l)
    (ad : Addr) (y : Nat × Nat) (hx : a.eval x = .slice (some ad) 1 1) (hnews : ∀ j u, ([.int .i64 (y.1 : Int), .int .i64 (y.2 : Int)] : List Value)[j]? = some u → w.cell? (ad.add j) = some u)
    (hlen : l.length ≤ 5000) (hbase : base ≤ w.heap.size)
    (h : ∀ v' w', OwnQ w' base v' (l ++ [y]) → Below base w w' → (∀ (k : Nat) (ob : Obj), w.heap[k]? = some ob → (∀ cs, ob ≠ .cells cs 40 (0, 0)) → w'.heap[k]? = w.heap[k]?) → wpList Try.prog ops Q rest (a.put o.dst v') w') : wpList Try.prog ops Q (o :: rest) a w := by
  refine wpList_plain hgd fun K hK => ?_
  obtain ⟨v', w', hr, h2, h3⟩ := run_append_q o.type w base v l hown ad y hnews hlen hbase
  unfold Oper.wp execOp
  simp only [ho, resolve, invoke, builtin, Sem.run_bind, Sem.run_pure, Result.andThen_ok, List.map_toArray, List.map_cons, List.map_nil, hs, hx, hr]
  refine hK _ _ (h v' w' h2 ((Below.refl base w).grown h3 hbase ?_) ?_)
  · intro k hk
    rcases hown with ⟨hv, _⟩ | ⟨g, o, cap, cur, hv, hg, _⟩
    · rw [hv] at hk; cases hk
    · rw [hv] at hk; simp only [Value.ownBlock, Option.some.injEq] at hk; omega
  · intro k ob hk hT
    refine h3.block k (Array.getElem?_eq_some_iff.1 hk).1 (fun e => ?_)
    rcases hown with ⟨hv, _⟩ | ⟨g, o, cap, cur, hv, hg, hh, _⟩
    · rw [hv] at e; cases e
    · rw [hv] at e
      simp only [Value.ownBlock, Option.some.injEq] at e
      subst e
      rw [hh] at hk
      exact hT cur (Option.some.inj hk).symm
/-- Bools that can be read. -/
def BoolsB (w : World) (ao : Option Addr) (L : List Bool) : Prop :=
  ∀ i, i < L.length → ∃ sb so, ao = some ⟨sb, so, none⟩ ∧ w.cell? ⟨sb, so + i, none⟩ = some (.bool (L.getD i false))
theorem BoolsB.below {w w' : World} {ao : Option Addr} {L : List Bool} (h : BoolsB w ao L) (hb : Below w.heap.size w w') : BoolsB w' ao L := by
  intro i hi
  obtain ⟨sb, so, ha, hc⟩ := h i hi
  exact ⟨sb, so, ha, (hb.cell (block_lt_of_cell hc)).trans hc⟩
theorem open_bs {H : Type} {enc : TypeId × Value → H} {W : World} {r : Reach} {b0 : Nat} {v : Value} {d : DataW H} {p : List MemPlace}
    (hv : Value.okWide Try.prog W r b0 26 v) (h : DataW.Trod enc Try.prog W 0 (fun _ => true) true 26 v d p) :
    ∃ (ao : Option Addr) (L : List Bool) (cap : Nat), v = .slice ao L.length cap ∧ BoolsB W ao L ∧ L.length ≤ maxLen := by
  obtain ⟨a0, len, cap, rfl⟩ := okWide_slice Try.underlying26 hv
  obtain ⟨fuel, hf⟩ := h
  rcases Deep.open_slice Try.underlying26 hf with ⟨hcs, _⟩ | ⟨a, len', cap', m, n, D, Pl, hcs, _, hl, hm, hmm, _, hx⟩
  · simp only [Value.cells, List.cons.injEq, Value.slice.injEq, and_true] at hcs
    obtain ⟨rfl, rfl, rfl⟩ := hcs
    exact ⟨none, [], 0, rfl, fun i hi => absurd hi (by simp), by simp⟩
  · simp only [Value.cells, List.cons.injEq, Value.slice.injEq, and_true] at hcs
    obtain ⟨rfl, rfl, rfl⟩ := hcs
    simp only [if_true] at hmm
    have each : ∀ i, i < m → ∃ q : Bool, W.cell? (a.add i) = some (.bool q) := by
      intro i hi
      obtain ⟨cs', h1, h2⟩ := hx i hi
      rw [show Try.prog.cellsOf 4 = 1 from by kernel_rfl] at h1
      obtain ⟨_, hlen, hcell⟩ := World.cells?_some h1
      obtain ⟨q, e0, _⟩ := DataW.trod_bool Try.underlying4 h2
      subst e0
      have c0 := hcell 0 (by omega)
      rw [Deep.add_add] at c0
      exact ⟨q, by simpa using c0⟩
    obtain ⟨q, hq⟩ := Deep.choose_lt each
    have hget : ∀ i, i < len → ((List.range len).map q).getD i false = q i := by
      intro i hi
      simp [List.getD_eq_getElem?_getD, hi]
    refine ⟨some a, (List.range len).map q, cap, by simp, ?_, by simp; omega⟩
    intro i hi
    rw [List.length_map, List.length_range] at hi
    rw [hget i hi]
    have h0 := hq i (by omega)
    have h00 := hq 0 (by omega)
    obtain ⟨b, off, spot⟩ := a
    have hspot : spot = none := by simpa [Addr.add] using World.cell?_spot h00
    subst hspot
    rw [Addr.add_mid] at h0
    exact ⟨b, off, rfl, h0⟩
end Go.Proofs.Ytmlkbdkehoajaaa
