/-
  Layer 11: the runs, as an iterator.
-/
import Derived.Test.YtmlkbdkehoajaaaAl2
import Derived.RangeFuncNested
import Derived.RangeFuncBound
import Derived.RangeFuncCalls
import Derived.RangeFuncLeaves
import Derived.RangeFuncBox
import Derived.Shelf.Abstract
import Derived.Shelf.RegionOpen
import Derived.OwnWalkIn
import Derived.TacticsInMore
import Derived.LoopNIn
import Derived.LoopIn
namespace Go.Proofs.Ytmlkbdkehoajaaa
open Go.RowKit Go.Shelf
open Go.Lib (hid)

attribute [local go_sem] Oper.semAt_some

/-- What a round that goes on keeps. -/
def KpS (n₀ Bm Bt : Nat) (W W' : World) : Prop := Below n₀ W W' ∧ W'.heap[Bm]? = W.heap[Bm]? ∧ W'.heap[Bt]? = W.heap[Bt]?
theorem KpS.refl (n₀ Bm Bt : Nat) (W : World) : KpS n₀ Bm Bt W W := ⟨Below.refl _ _, rfl, rfl⟩
theorem KpS.trans {n₀ Bm Bt : Nat} {A B C : World} (h : KpS n₀ Bm Bt A B) (k : KpS n₀ Bm Bt B C) : KpS n₀ Bm Bt A C := ⟨h.1.trans k.1, k.2.1.trans h.2.1, k.2.2.trans h.2.2⟩
theorem KpS.drewN {n₀ Bm Bt : Nat} {A B : World} (h : KpS n₀ Bm Bt A B) (q : Nat) : KpS n₀ Bm Bt A (B.drewN q) := ⟨h.1.trans ⟨rfl, rfl, rfl, Nat.le_refl _, fun _ _ => rfl⟩, h.2.1, h.2.2⟩
theorem kpS_b {n₀ Bm Bt : Nat} {w : World} (hn : n₀ ≤ w.heap.size) (hm : Bm < w.heap.size) (ht : Bt < w.heap.size) (W : World) (l : Nat) (o o' : Obj) (hl : w.heap.size ≤ l) (h : W.heap[l]? = some o) (h1 : o.isCells = false) (h2 : o.isWalk = false) : KpS n₀ Bm Bt W (W.putObj l o') :=
  ⟨belowK_b hn W l o o' hl h h1 h2, World.putObj_heap_other (by omega), World.putObj_heap_other (by omega)⟩
/-- A Span. -/
def spE (x : Nat × Nat) : Value := .agg #[.int .i64 (x.1 : Int), .int .i64 (x.2 : Int)]
theorem abides_drewN {β : Type} {B : Nat} {J : β → World → Prop} (h : AbidesFrom B J) {s : β} {W : World} (hs : J s W) (q : Nat) : J s (W.drewN q) :=
  h s W _ none hs ⟨rfl, rfl, rfl, Nat.le_refl _, fun _ _ _ => rfl⟩ (fun r e => by cases e)

set_option maxRecDepth 100000 in
set_option maxHeartbeats 2000000 in
theorem spans1_in (n : Nat) (hn : 1 ≤ n) (l Bm Bt n₀ b g c : Nat) (L : List Bool) (t : Bool) (J Jx : List (Nat × Nat) → World → Prop) (BJ : Nat) (hJ : AbidesFrom BJ J)
    (hY : ∀ pre x W, J pre W → pre.length < L.length → x.1 + x.2 ≤ L.length → YieldAt Fence.wide (n - 1) Try.prog l #[spE x] W fun e W' =>
      (e = .returned (.bool true) ∧ J (pre ++ [x]) W' ∧ KpS n₀ Bm Bt W W') ∨ (e = .returned (.bool false) ∧ Jx (pre ++ [x]) W'))
    (W : World) (hBm : W.cell? ⟨Bm, 0, none⟩ = some (.pointer (some ⟨b, 0, none⟩))) (hBt : W.cell? ⟨Bt, 0, none⟩ = some (.bool t)) (hb : b < n₀) (hg : g < n₀) (hM : MapAt W b g c L) (h0 : J [] W) :
    CallsIn Fence.wide n Try.prog 30 #[.func (.yield l) #[] #[], .pointer (some ⟨Bm, 0, none⟩), .pointer (some ⟨Bt, 0, none⟩)] W fun e W' => (∃ v, e = .returned v) ∧
      ((∃ ys, ys = Al.spans L t ∧ J ys W') ∨ (∃ pre, pre <+: Al.spans L t ∧ Jx pre W')) := by
  have hle := hM.le
  refine callsIn_of_wp Try.func30 rfl trivial ?_ rfl
  simp only [Try.ntmps30, List.size_toArray, List.length_cons, List.length_nil, Nat.reduceAdd, Nat.reduceSub, Array.replicate_succ, Array.replicate_zero, List.push_toArray, List.append_toArray, List.nil_append, List.cons_append]
  gi_wp2
  gi_loopw [4, 5] (fun i e wr => ∃ (p : Nat) (pre : List (Nat × Nat)), p ≤ L.length + 1 ∧ i = .int .i64 p ∧ Al.spans L t = pre ++ Al.from_ L t p ∧ J pre wr ∧ KpS n₀ Bm Bt W wr)
    (fun i _ _ => L.length + 1 - (intOf i).toNat)
  case atStart => exact ⟨0, [], by omega, rfl, rfl, h0, KpS.refl _ _ _ _⟩
  case round =>
    obtain ⟨p, pre, hp, rfl, hpre, hJs, hk⟩ := hrel
    have HK := hid hk
    have HJS := hid hJs
    have HPRE := hid hpre
    have m0 : wr.cell? ⟨Bm, 0, none⟩ = some (.pointer (some ⟨b, 0, none⟩)) := by rw [← hBm]; simp only [World.cell?, hk.2.1]
    have t0 : wr.cell? ⟨Bt, 0, none⟩ = some (.bool t) := by rw [← hBt]; simp only [World.cell?, hk.2.2]
    have HM := hid (show MapAt wr b g c L from hM.at (hk.1.block b hb) (hk.1.block g hg))
    have b0 := HM.out.cell
    clear hpre hJs hk h0 hBm hBt hM
    by_cases hlt : p < L.length
    · have HST := hid (Al.from_step L t p hlt)
      have hpi : (p : Int) < (L.length : Int) := by omega
      have HRO := hid (Al.run_out L p t)
      have HRI := hid (Al.run_has L p t)
      have hrl := Al.run_le L p t
      generalize Al.run L p t = R at *
      gi_wp2
      refine wpIn_wide.2 ?_
      go_loopw [5] (fun e wq => (∃ q, wq = wr.drewN q) ∧ ∃ r : Nat, r ≤ R ∧ e = .int .i64 ((p + r : Nat) : Int))
        (fun e _ => p + R - (intOf e).toNat)
      case atStart => exact ⟨⟨0, rfl⟩, 0, by omega, by rw [Nat.add_zero]⟩
      case round =>
        obtain ⟨⟨q, rfl⟩, r, hr, rfl⟩ := hrel
        obtain ⟨z, hz⟩ : ∃ z, z = p + r := ⟨_, rfl⟩
        rw [← hz]
        by_cases hrR : r < R
        · have hri := HRI.out r hrR
          rw [← hz] at hri
          have hzl : z < L.length := by omega
          have c0 : wr.cell? ⟨g, z, none⟩ = some (.bool t) := by
            rw [HM.out.row.cell z hzl, List.getD_eq_getElem?_getD, hri]; rfl
          have hzi : (z : Int) < (L.length : Int) := by omega
          have htt : (t == t) = true := beq_self_eq_true t
          have HZ := hid hz
          clear hri hz
          go_upto_region 3 with (fail)
          go_quiet (fail)
          go_wp2
          exact ⟨⟨⟨_, rfl⟩, r + 1, by omega, by have := HZ.out; congr 1; omega⟩, by have := HZ.out; simp [intOf]; omega⟩
        · obtain rfl : r = R := by omega
          have hro := HRO.out
          rw [← hz] at hro
          have HZ := hid hz
          have hzb : z ≤ 4096 := by omega
          clear HRO HRI hz
          by_cases hzl : z < L.length
          · obtain ⟨y, hy⟩ : ∃ y, L[z]? = some y := ⟨_, List.getElem?_eq_getElem hzl⟩
            have hyt : (y == t) = false := by rw [beq_eq_false_iff_ne]; exact fun e => hro (by rw [hy, e])
            have c0 : wr.cell? ⟨g, z, none⟩ = some (.bool y) := by
              rw [HM.out.row.cell z hzl, List.getD_eq_getElem?_getD, hy]; rfl
            have hzi : (z : Int) < (L.length : Int) := by omega
            clear hro hy
            go_upto_region 3 with (fail)
            go_quiet (fail)
            go_wp2
            by_cases hR0 : 0 < r
            · have HJ2 := hid (abides_drewN hJ HJS.out (q + nq))
              have HK2 := hid (HK.out.drewN (q + nq))
              have HST2 := hid (show Al.from_ L t p = [(p, r)] ++ Al.from_ L t (p + r + 1) from by rw [HST.out, if_pos hR0])
              obtain ⟨fn, tmps, assign, body, hy, hRR⟩ := hY pre (p, r) (wr.drewN (q + nq)) HJ2.out (by
                have h1 := Al.spans_len L t
                rw [HPRE.out, HST2.out] at h1
                simp only [List.length_append, List.length_cons, List.length_nil] at h1
                omega) (by show p + r ≤ L.length; omega)
              unfold spE at hy
              dsimp only at hy
              have hzp : (p : Int) < (z : Int) := by have := HZ.out; omega
              have hzs : (z : Int) - (p : Int) = (r : Int) := by have := HZ.out; omega
              gi_wp2
              refine hRR.mono ?_
              rintro e W3 (⟨rfl, hJ3, hk3⟩ | ⟨rfl, hJx3⟩)
              · have HK3 := hid (HK2.out.trans hk3)
                have HJ3 := hid hJ3
                clear hJ3 hk3
                gi_wp2
                go_roundw
                case rel => exact ⟨p + r + 1, pre ++ [(p, r)], by omega, by have := HZ.out; congr 1; omega, by rw [HPRE.out, HST2.out, List.append_assoc], HJ3.out, HK3.out⟩
                case measure => have := HZ.out; simp [intOf]; omega
              · gi_wp2
                refine bodyPost_ret (results_none rfl _ _ _) rfl ?_
                exact ⟨⟨_, rfl⟩, .inr ⟨pre ++ [(p, r)], by rw [HPRE.out, HST2.out, ← List.append_assoc]; exact List.prefix_append _ _, hJx3⟩⟩
            · obtain rfl : r = 0 := by omega
              have HJ2 := hid (abides_drewN hJ HJS.out (q + nq))
              have HK2 := hid (HK.out.drewN (q + nq))
              have hzp : ¬ (p : Int) < (z : Int) := by have := HZ.out; omega
              first
                | (exfalso; have := HZ.out; omega)
                | (gi_wp2
                   refine ⟨fun _ h => (by cases h), ?_⟩
                   gi_wp2
                   exact ⟨⟨p + 0 + 1, pre, by omega, by have := HZ.out; congr 1; omega, by rw [HPRE.out, HST.out]; rfl, HJ2.out, HK2.out⟩, by have := HZ.out; simp [intOf]; omega⟩)
          · have hzd : decide ((z : Int) < (L.length : Int)) = false := by simp; omega
            have hzd2 : ¬ (z : Int) < (L.length : Int) := by omega
            clear hro
            go_upto_region 3 with (fail)
            go_quiet (fail)
            go_wp2
            by_cases hR0 : 0 < r
            · have HJ2 := hid (abides_drewN hJ HJS.out (q + nq))
              have HK2 := hid (HK.out.drewN (q + nq))
              have HST2 := hid (show Al.from_ L t p = [(p, r)] ++ Al.from_ L t (p + r + 1) from by rw [HST.out, if_pos hR0])
              obtain ⟨fn, tmps, assign, body, hy, hRR⟩ := hY pre (p, r) (wr.drewN (q + nq)) HJ2.out (by
                have h1 := Al.spans_len L t
                rw [HPRE.out, HST2.out] at h1
                simp only [List.length_append, List.length_cons, List.length_nil] at h1
                omega) (by show p + r ≤ L.length; omega)
              unfold spE at hy
              dsimp only at hy
              have hzp : (p : Int) < (z : Int) := by have := HZ.out; omega
              have hzs : (z : Int) - (p : Int) = (r : Int) := by have := HZ.out; omega
              gi_wp2
              refine hRR.mono ?_
              rintro e W3 (⟨rfl, hJ3, hk3⟩ | ⟨rfl, hJx3⟩)
              · have HK3 := hid (HK2.out.trans hk3)
                have HJ3 := hid hJ3
                clear hJ3 hk3
                gi_wp2
                go_roundw
                case rel => exact ⟨p + r + 1, pre ++ [(p, r)], by omega, by have := HZ.out; congr 1; omega, by rw [HPRE.out, HST2.out, List.append_assoc], HJ3.out, HK3.out⟩
                case measure => have := HZ.out; simp [intOf]; omega
              · gi_wp2
                refine bodyPost_ret (results_none rfl _ _ _) rfl ?_
                exact ⟨⟨_, rfl⟩, .inr ⟨pre ++ [(p, r)], by rw [HPRE.out, HST2.out, ← List.append_assoc]; exact List.prefix_append _ _, hJx3⟩⟩
            · obtain rfl : r = 0 := by omega
              have HJ2 := hid (abides_drewN hJ HJS.out (q + nq))
              have HK2 := hid (HK.out.drewN (q + nq))
              have hzp : ¬ (p : Int) < (z : Int) := by have := HZ.out; omega
              first
                | (exfalso; have := HZ.out; omega)
                | (gi_wp2
                   refine ⟨fun _ h => (by cases h), ?_⟩
                   gi_wp2
                   exact ⟨⟨p + 0 + 1, pre, by omega, by have := HZ.out; congr 1; omega, by rw [HPRE.out, HST.out]; rfl, HJ2.out, HK2.out⟩, by have := HZ.out; simp [intOf]; omega⟩)
    · have HE := hid (Al.from_end L t p (by omega))
      rw [HE.out, List.append_nil] at HPRE
      have hpi : ¬ (p : Int) < (L.length : Int) := by omega
      gi_wp2
      go_end0
      first
        | exact ⟨⟨_, rfl⟩, .inl ⟨_, rfl, by rw [HPRE.out]; exact HJS.out⟩⟩
        | exact ⟨⟨_, rfl⟩, .inl (by rw [HPRE.out]; exact HJS.out)⟩

/-- A run, with its bound. -/
abbrev Sp4 := { x : Nat × Nat // x.1 + x.2 ≤ 4096 }
def spV (x : Sp4) : Array Value := #[.agg #[.int .i64 (x.1.1 : Int), .int .i64 (x.1.2 : Int)]]
theorem lift_list : ∀ l : List (Nat × Nat), (∀ x ∈ l, x.1 + x.2 ≤ 4096) → ∃ l' : List Sp4, l'.map (·.1) = l
  | [], _ => ⟨[], rfl⟩
  | x :: l, h => by
    obtain ⟨l', hl⟩ := lift_list l (fun y hy => h y (by simp [hy]))
    exact ⟨⟨x, h x (by simp)⟩ :: l', by simp [hl]⟩

set_option maxHeartbeats 1000000 in
/-- The runs: all of them, or a first part of them. -/
theorem spans_stops (n : Nat) (hn : 1 ≤ n) (Bm Bt n₀ b g c : Nat) (L : List Bool) (t : Bool) (w : World) (hBm : Boxed w Bm 24 (.pointer (some ⟨b, 0, none⟩))) (hBt : Boxed w Bt 4 (.bool t)) (_ : n₀ ≤ w.heap.size) (hb : b < n₀) (hg : g < n₀) (hM : MapAt w b g c L) :
    SeqStopsK Fence.wide n Try.prog 30 #[.pointer (some ⟨Bm, 0, none⟩), .pointer (some ⟨Bt, 0, none⟩)] spV (KpS n₀ Bm Bt) (fun ys => ys.map (·.1) = Al.spans L t) (fun pre => pre.map (·.1) <+: Al.spans L t) L.length w := by
  intro l J Jx W hW hJ hJx hY h0
  have hle := hM.le
  refine (spans1_in n hn l Bm Bt n₀ b g c L t (fun pre W => ∃ pre' : List Sp4, pre'.map (·.1) = pre ∧ J pre' W) (fun pre W => ∃ pre' : List Sp4, pre'.map (·.1) = pre ∧ Jx pre' W) W.heap.size ?_ ?_ W ((hW.cell (p := ⟨Bm, 0, none⟩) hBm.lt).trans hBm.cell) ((hW.cell (p := ⟨Bt, 0, none⟩) hBt.lt).trans hBt.cell) hb hg (hM.at (hW.block b hM.lt) (hW.block g hM.row.lt)) ⟨[], rfl, h0⟩).mono ?_
  · intro s A B row hs hg hr
    obtain ⟨pre', h1, h2⟩ := hs
    exact ⟨pre', h1, hJ _ A B row h2 hg hr⟩
  · rintro pre x W1 ⟨pre', rfl, hj⟩ hlen hx
    rw [List.length_map] at hlen
    have := hY pre' ⟨x, by omega⟩ W1 hj hlen
    refine this.mono ?_
    rintro e W' (⟨rfl, h1, h2⟩ | ⟨rfl, h1⟩)
    · exact .inl ⟨rfl, ⟨pre' ++ [⟨x, by omega⟩], by simp, h1⟩, h2⟩
    · exact .inr ⟨rfl, pre' ++ [⟨x, by omega⟩], by simp, h1⟩
  · rintro e W' ⟨hv, ⟨ys, rfl, pre', hp, hj⟩ | ⟨pre, hpre, pre', rfl, hj⟩⟩
    · exact ⟨hv, .inl ⟨pre', hp, hj⟩⟩
    · exact ⟨hv, .inr ⟨pre', hpre, hj⟩⟩

set_option maxHeartbeats 1000000 in
theorem spans_in (n b : Nat) (t : Bool) (w : World) :
    CallsIn Fence.wide n Try.prog 25 #[.pointer (some ⟨b, 0, none⟩), .bool t] w fun e w' => e = .returned (.func (.func 30) #[] #[.pointer (some ⟨w.heap.size, 0, none⟩), .pointer (some ⟨w.heap.size + 1, 0, none⟩)]) ∧
      w' = (w.alloc (.cells #[.pointer (some ⟨b, 0, none⟩)] 24)).alloc (.cells #[.bool t] 4) := by
  refine callsIn_of_wp Try.func25 rfl trivial ?_ rfl
  simp only [Try.ntmps25, List.size_toArray, List.length_cons, List.length_nil, Nat.reduceAdd, Nat.reduceSub, Array.replicate_succ, Array.replicate_zero, List.push_toArray, List.append_toArray, List.nil_append, List.cons_append]
  gi_wp2
  go_ret
  exact ⟨rfl, rfl⟩
end Go.Proofs.Ytmlkbdkehoajaaa
