/-
  Layer 6: what the reference's functions return: Raw, Read, ReadText, End.
-/
import Derived.Test.YtlehhalakjjnkaaRef6
import Derived.Laws.ResultCell
namespace Go.Proofs.Ytlehhalakjjnkaa
open Go.RowKit
open Go.Lib (hid)

namespace Wx
/-- Behind an error nothing is left. -/
def Good (s : List Nat) (e : Int) : Prop := e = 0 ∨ s = []
end Wx
/-- The reference's In. -/
def inV (r : List Nat × Int) : Value := .agg #[.string (str r.1), .int .i64 r.2]

theorem ret_in {fn : Func} {p u : Tmp} (h : fn.results = #[.cell p 54, .tmp u]) {R : Ending → World → Prop} (a : Act) (w : World) (bz : Nat) (r : List Nat × Int) (v : Value)
    (hp : a.tmps.getD p undef = .pointer (some ⟨bz, 0, none⟩)) (hb : w.heap[bz]? = some (.cells #[.string (str r.1), .int .i64 r.2] 54 (0, 0))) (hu : a.tmps.getD u undef = v) (hd : a.defers = [])
    (hR : R (.returned (.tuple #[inV r, v])) w) : bodyPost Try.prog fn R .ret a w := by
  refine bodyPost_ret (v := .tuple #[inV r, v]) ?_ hd hR
  have hr : w.rangeAt bz 0 [Value.string (str r.1), .int .i64 r.2] := by
    intro j x hj
    rw [Nat.zero_add, cell_of_row w bz j _ _ _ hb, ← hj, List.getElem?_toArray]
  have hl := run_loadVar_mid w bz 0 54 _ _ hr Try.underlying54 rfl (by kernel_rfl)
  rw [results_cell_tmp h, hp, hu]
  simp only [asAddr, Sem.run_pure, Result.andThen_ok, hl]
  rfl

set_option maxHeartbeats 1000000 in
set_option maxRecDepth 100000 in
theorem rraw_any (s : List Nat) (e n : Int) (hg : Wx.Good s e) (hs : ∀ c ∈ s, c < 256) (w : World) :
    Calls Try.prog 36 #[inV (s, e), .int .i64 n] w fun r w' => r = .returned (.tuple #[inV (Wx.iraw s e n).1, .string (str (Wx.iraw s e n).2)]) ∧ Below w.heap.size w w' := by
  obtain ⟨k, hk⟩ : ∃ k : Nat, n.toNat = k := ⟨_, rfl⟩
  have hk5 : max 0 n = (k : Int) := by omega
  unfold inV
  by_cases he : e = 0
  · subst he
    have hz : (str s).size = s.length := str_size s
    by_cases hlt : s.length < k
    · have e1 : Wx.iraw s 0 n = (([], 2), []) := by unfold Wx.iraw Wx.ifail; rw [hk, if_pos hlt]; simp
      rw [e1]
      clear e1
      go_enter Try.func36, Try.ntmps36
      go_wp2
      refine ret_in Try.results36 _ _ (w.heap.size + 1) ([], 2) _ rfl (heap_alloc2_new _ _ _) rfl rfl ?_
      exact ⟨rfl, ((Below.refl _ _).alloc (Nat.le_refl _) _).alloc (by simp) _⟩
    · have e1 : Wx.iraw s 0 n = ((s.drop k, 0), s.take k) := by unfold Wx.iraw; rw [hk, if_neg hlt]
      rw [e1]
      have hex1 : (str s).extract 0 k = str (s.take k) := by
        have := extract_mid s hs 0 k
        rwa [Nat.zero_add, List.drop_zero] at this
      have hex2 : (str s).extract k s.length = str (s.drop k) := by
        have := extract_mid s hs k (s.length - k)
        rwa [show k + (s.length - k) = s.length from by omega, List.take_of_length_le (by simp)] at this
      have hle : (k : Int) ≤ (s.length : Int) := by omega
      clear e1
      generalize hS1 : str (s.take k) = S1 at hex1
      generalize hS2 : str (s.drop k) = S2 at hex2
      have HS1 := hid hS1
      have HS2 := hid hS2
      clear hS1 hS2
      generalize str s = SS at *
      go_enter Try.func36, Try.ntmps36
      go_upto_region 6 with (fail)
      go_region
      go_wp2
      refine ret_in Try.results36 _ _ (w.heap.size + 1) (s.drop k, 0) (.string S1) rfl (by show ((w.alloc _).alloc _).heap[w.heap.size + 1]? = _; rw [heap_alloc2_new, HS2.out]) rfl rfl ?_
      exact ⟨by rw [← HS2.out]; rfl, (((Below.refl _ _).alloc (Nat.le_refl _) _).alloc (by simp) _).drew⟩
  · obtain rfl : s = [] := hg.resolve_left he
    have heb : (e != 0) = true := by simp [he]
    rw [show Wx.iraw [] e n = (([], e), []) from by unfold Wx.iraw Wx.ifail; split <;> simp [he]]
    rw [show str ([], e).1 = ⟨#[]⟩ from rfl]
    go_enter Try.func36, Try.ntmps36
    go_wp2
    refine ret_in Try.results36 _ _ (w.heap.size + 1) ([], e) _ rfl (heap_alloc2_new _ _ _) rfl rfl ?_
    exact ⟨rfl, ((Below.refl _ _).alloc (Nat.le_refl _) _).alloc (by simp) _⟩

namespace Wx
theorem beval_take_le (t : List Nat) (_h : ∀ c ∈ t, c < 256) (k : Nat) : beval (t.take k) ≤ beval t := by
  refine Nat.le_trans (Nat.le_mul_of_pos_right _ (Nat.pow_pos (n := t.length - k) (show 0 < 256 by omega))) ?_
  conv => rhs; rw [← List.take_append_drop k t]
  unfold beval
  rw [List.foldl_append, beval_from (t.drop k), List.length_drop]
  exact Nat.le_add_right _ _
theorem beval_top (t : List Nat) (hl : t.length = 8) (hb : ∀ c ∈ t, c < 256) : 9223372036854775808 ≤ beval t ↔ 127 < t.getD 0 0 := by
  match t, hl with
  | c :: l, hl =>
    have h7 : l.length = 7 := by simpa using hl
    have h1 := beval_bound l (fun x hx => hb x (by simp [hx]))
    rw [beval_cons, h7]
    rw [h7] at h1
    have hc : (c :: l).getD 0 0 = c := rfl
    rw [hc]
    have h1' : beval l < 72057594037927936 := h1
    rw [show (256 : Nat) ^ 7 = 72057594037927936 from rfl]
    omega
theorem Good.raw {s : List Nat} {e : Int} (h : Good s e) (n : Int) : Good (iraw s e n).1.1 (iraw s e n).1.2 := by
  rcases h with rfl | rfl
  · unfold iraw ifail
    split
    · right; simp
    · left; rfl
  · unfold iraw ifail
    split
    · split
      · right; rfl
      · right; rfl
    · right; simp
theorem Good.num {s : List Nat} {e : Int} (h : Good s e) : Good (inum s e).1.1 (inum s e).1.2 := by
  have hr := h.raw 8
  unfold inum
  split
  · exact hr
  · split
    · unfold ifail
      split
      · exact hr
      · right; rfl
    · exact hr
theorem Good.text {s : List Nat} {e : Int} (h : Good s e) : Good (itext s e).1.1 (itext s e).1.2 := h.num.raw _
theorem Good.fail {s : List Nat} {e : Int} (h : Good s e) (q : Int) : Good (ifail s e q).1 (ifail s e q).2 := by
  unfold ifail
  split
  · exact h
  · right; rfl
end Wx

/-- Two cells written. -/
theorem in_set2 {w : World} {b : Nat} {u0 u1 : Value} (h : w.heap[b]? = some (.cells #[u0, u1] 54 (0, 0))) (v0 v1 : Value) :
    ((w.setCell ⟨b, 0, none⟩ v0).setCell ⟨b, 1, none⟩ v1).heap[b]? = some (.cells #[v0, v1] 54 (0, 0)) := by
  rw [heap_setCell_same _ b 1 _ _ v1 (heap_setCell_same w b 0 _ _ v0 h)]
  rfl
theorem in_cells {w : World} {b : Nat} {u0 u1 : Value} (h : w.heap[b]? = some (.cells #[u0, u1] 54 (0, 0))) :
    w.cell? ⟨b, 0, none⟩ = some u0 ∧ w.frozen? ⟨b, 0, none⟩ = false ∧ (∀ v, (w.setCell ⟨b, 0, none⟩ v).cell? ⟨b, 1, none⟩ = some u1) ∧ ∀ v, (w.setCell ⟨b, 0, none⟩ v).frozen? ⟨b, 1, none⟩ = false := by
  refine ⟨by rw [Lib.cell_of_heap h]; rfl, Lib.frozen_of_heap h 0, fun v => ?_, fun v => Lib.frozen_of_heap (heap_setCell_same w b 0 _ _ v h) 1⟩
  rw [Lib.cell_of_heap (heap_setCell_same w b 0 _ _ v h)]; rfl
theorem below_set2 {B : Nat} {u w : World} {b : Nat} (h : Below B u w) (hb : B ≤ b) (v0 v1 : Value) : Below B u ((w.setCell ⟨b, 0, none⟩ v0).setCell ⟨b, 1, none⟩ v1) :=
  (h.setCell (p := ⟨b, 0, none⟩) hb v0).setCell (p := ⟨b, 1, none⟩) hb v1

set_option maxHeartbeats 1000000 in
set_option maxRecDepth 100000 in
theorem rread_any (s : List Nat) (e : Int) (hg : Wx.Good s e) (hs : ∀ c ∈ s, c < 256) (w : World) :
    Calls Try.prog 35 #[inV (s, e)] w fun r w' => r = .returned (.tuple #[inV (Wx.inum s e).1, .int .i64 ((Wx.inum s e).2 : Int)]) ∧ Below w.heap.size w w' := by
  have HR := hid (fun wx => rraw_any s e 8 hg hs wx)
  have HTB := hid (Wx.iraw_lt s e 8 hs).2
  have hcase : ((Wx.iraw s e 8).2 = [] ∧ (Wx.iraw s e 8).1.2 ≠ 0) ∨ ((Wx.iraw s e 8).2.length = 8 ∧ (Wx.iraw s e 8).1.2 = 0) := by
    rcases hg with rfl | rfl
    · unfold Wx.iraw Wx.ifail
      split
      · left; simp
      · rename_i h8
        right
        simp at h8
        exact ⟨by rw [List.length_take]; simp; omega, rfl⟩
    · by_cases he : e = 0
      · subst he
        left
        simp [Wx.iraw, Wx.ifail]
      · left
        simp [Wx.iraw, Wx.ifail, he]
  have HNU := hid (show Wx.inum s e = if (Wx.iraw s e 8).2 = [] then ((Wx.iraw s e 8).1, 0) else if 9223372036854775808 ≤ Wx.beval (Wx.iraw s e 8).2 then (Wx.ifail (Wx.iraw s e 8).1.1 (Wx.iraw s e 8).1.2 1, 0) else ((Wx.iraw s e 8).1, Wx.beval (Wx.iraw s e 8).2) from rfl)
  clear hg hs
  generalize Wx.iraw s e 8 = R at *
  obtain ⟨⟨s1, e1⟩, t⟩ := R
  simp only at HR HTB hcase HNU
  unfold inV at HR ⊢
  go_enter Try.func35, Try.ntmps35
  go_upto_region 2 with (go_at_call 36; refine (HR.out _).mono ?_; rintro r w1 ⟨rfl, k1⟩)
  have hb0 : Below w.heap.size w ((w.alloc (.cells #[.string (str s), .int .i64 e] 54)).alloc (.cells #[.string ⟨#[]⟩, .int .i64 0] 54)) := ((Below.refl _ _).alloc (Nat.le_refl _) _).alloc (by simp) _
  have hz1 : w1.heap[w.heap.size + 1]? = some (.cells #[.string ⟨#[]⟩, .int .i64 0] 54 (0, 0)) := by
    rw [k1.block (w.heap.size + 1) (by simp)]; exact heap_alloc2_new _ _ _
  have hb1 := hb0.trans (k1.mono hb0.size)
  have hz1lt := (Array.getElem?_eq_some_iff.1 hz1).1
  generalize hw2 : w1.alloc _ = w2
  have HX2 := hid (show w2.heap[w1.heap.size]? = some (.cells #[.string (str s1), .int .i64 e1] 54 (0, 0)) from by rw [← hw2]; exact heap_alloc_new _ _)
  have HZ2 := hid (show w2.heap[w.heap.size + 1]? = some (.cells #[.string ⟨#[]⟩, .int .i64 0] 54 (0, 0)) from by rw [← hw2, Below.heap_alloc _ _ _ hz1lt]; exact hz1)
  have HB2 := hid (show Below w.heap.size w w2 from by rw [← hw2]; exact hb1.alloc hb1.size _)
  clear hw2 hz1 hb0 hb1 k1 HR hz1lt
  generalize w1.heap.size = q at *
  have c0 : w2.cell? ⟨q, 0, none⟩ = some (.string (str s1)) := by rw [Lib.cell_of_heap HX2.out]; rfl
  have c1 : w2.cell? ⟨q, 1, none⟩ = some (.int .i64 e1) := by rw [Lib.cell_of_heap HX2.out]; rfl
  obtain ⟨y0, y1, y2, y3⟩ := in_cells HZ2.out
  rcases hcase with ⟨rfl, he1⟩ | ⟨hl8, rfl⟩
  · rw [if_pos rfl] at HNU
    have heb : (e1 != 0) = true := by simp [he1]
    go_wp2
    refine ret_in Try.results35 _ _ (w.heap.size + 1) (s1, e1) (.int .i64 0) ?_ ?_ ?_ ?_ ?_
    · rfl
    · exact in_set2 HZ2.out _ _
    · rfl
    · rfl
    · exact ⟨by rw [HNU.out]; rfl, below_set2 HB2.out (Nat.le_succ _) _ _⟩
  · have hne : t ≠ [] := by intro h; rw [h] at hl8; simp at hl8
    rw [if_neg hne] at HNU
    have hz : (str t).size = 8 := by rw [str_size, hl8]
    have HSG : Hid (∀ j (hj : j < (str t).size), (str t)[j].toNat = t.getD j 0) := fun j hj => str_get t HTB.out j hj
    have htop := Wx.beval_top t hl8 HTB.out
    have h0lt : t.getD 0 0 < 256 := getD_lt (by omega) HTB.out 0
    generalize hS : str t = ST at *
    clear hS
    have hsg0 := HSG.out 0 (by omega)
    have h0s : 0 < ST.size := by omega
    by_cases hbig : 9223372036854775808 ≤ Wx.beval t
    · rw [if_pos hbig] at HNU
      have h127 := htop.1 hbig
      have h127' : (127 : Int) < (t.getD 0 0 : Nat) := by omega
      rw [show Wx.ifail s1 0 1 = ([], 1) from by simp [Wx.ifail]] at HNU
      clear htop hbig HSG HTB
      generalize t.getD 0 0 = x0 at *
      go_wp2
      refine ret_in Try.results35 _ _ (w.heap.size + 1) ([], 1) (.int .i64 0) ?_ ?_ ?_ ?_ ?_
      · rfl
      · exact in_set2 HZ2.out _ _
      · rfl
      · rfl
      · exact ⟨by rw [HNU.out]; rfl, below_set2 HB2.out (Nat.le_succ _) _ _⟩
    · rw [if_neg hbig] at HNU
      have h127 : ¬ 127 < t.getD 0 0 := fun h => hbig (htop.2 h)
      have h127' : ¬ (127 : Int) < (t.getD 0 0 : Nat) := by omega
      have hb63 : Wx.beval t < 9223372036854775808 := by omega
      generalize hx0 : t.getD 0 0 = x0 at *
      clear htop hx0 hbig
      go_upto_region 8 with (fail)
      clear hsg0 h0s h127 h127' h0lt
      go_loopw [6, 7] (fun v i wr => wr = w2 ∧ ∃ k : Nat, k ≤ 8 ∧ i = .int .i64 k ∧ v = .int .i64 (Wx.beval (t.take k) : Nat))
        (fun _ i _ => 8 - (intOf i).toNat)
      case atStart => exact ⟨by trivial, 0, by omega, rfl, by simp [Wx.beval]⟩
      case round =>
        obtain ⟨rfl, k, hk, rfl, rfl⟩ := hrel
        by_cases hlt : k < 8
        · have hlt' : k < ST.size := by omega
          have hsg := HSG.out k hlt'
          have hg := getD_lt (by omega) HTB.out k
          have HSU := hid (Wx.beval_succ t k (by omega))
          have hbv := Wx.beval_take_le t HTB.out k
          have hbv1 := Wx.beval_take_le t HTB.out (k + 1)
          rw [HSU.out] at hbv1
          generalize Wx.beval (t.take k) = v at *
          generalize t.getD k 0 = c at *
          have hmul : 256 * (v : Int) ≤ 9223372036854775807 := by omega
          have hsum : 256 * (v : Int) + (c : Int) ≤ 9223372036854775807 := by omega
          clear hbv hbv1
          go_wp2
          exact ⟨⟨by trivial, k + 1, by omega, by go_num, by rw [HSU.out]; congr 1; omega⟩, by simp [intOf]; omega⟩
        · obtain rfl : k = 8 := by omega
          rw [List.take_of_length_le (by omega)]
          generalize Wx.beval t = v at *
          rw [show ((8 : Nat) : Int) = 8 from rfl]
          go_wp2
          refine ret_in Try.results35 _ _ (w.heap.size + 1) (s1, 0) (.int .i64 (v : Int)) ?_ ?_ ?_ ?_ ?_
          · rfl
          · exact in_set2 HZ2.out _ _
          · rfl
          · rfl
          · exact ⟨by rw [HNU.out]; rfl, below_set2 HB2.out (Nat.le_succ _) _ _⟩

set_option maxHeartbeats 1000000 in
set_option maxRecDepth 100000 in
theorem rtextr_any (s : List Nat) (e : Int) (hg : Wx.Good s e) (hs : ∀ c ∈ s, c < 256) (w : World) :
    Calls Try.prog 25 #[inV (s, e)] w fun r w' => r = .returned (.tuple #[inV (Wx.itext s e).1, .string (str (Wx.itext s e).2)]) ∧ Below w.heap.size w w' := by
  have HR := hid (fun wx => rread_any s e hg hs wx)
  rw [itext_eq]
  have HW := hid (fun wx => rraw_any (Wx.inum s e).1.1 (Wx.inum s e).1.2 ((Wx.inum s e).2 : Int) hg.num (Wx.inum_lt s e hs) wx)
  clear hg hs
  generalize Wx.inum s e = R at *
  obtain ⟨⟨s1, e1⟩, n⟩ := R
  simp only at HR HW ⊢
  generalize Wx.iraw s1 e1 (n : Int) = R2 at *
  obtain ⟨⟨s2, e2⟩, t⟩ := R2
  simp only at HR HW ⊢
  unfold inV at HR HW ⊢
  simp only at HR HW ⊢
  go_enter Try.func25, Try.ntmps25
  go_upto_region 2 with (go_at_call 35; refine (HR.out _).mono ?_; rintro r w1 ⟨rfl, k1⟩)
  have hb0 : Below w.heap.size w ((w.alloc (.cells #[.string (str s), .int .i64 e] 54)).alloc (.cells #[.string ⟨#[]⟩, .int .i64 0] 54)) := ((Below.refl _ _).alloc (Nat.le_refl _) _).alloc (by simp) _
  have hz1 : w1.heap[w.heap.size + 1]? = some (.cells #[.string ⟨#[]⟩, .int .i64 0] 54 (0, 0)) := by
    rw [k1.block (w.heap.size + 1) (by simp)]; exact heap_alloc2_new _ _ _
  have hb1 := hb0.trans (k1.mono hb0.size)
  have hz1lt := (Array.getElem?_eq_some_iff.1 hz1).1
  generalize hw2 : w1.alloc _ = w2
  have HX2 := hid (show w2.heap[w1.heap.size]? = some (.cells #[.string (str s1), .int .i64 e1] 54 (0, 0)) from by rw [← hw2]; exact heap_alloc_new _ _)
  have HZ2 := hid (show w2.heap[w.heap.size + 1]? = some (.cells #[.string ⟨#[]⟩, .int .i64 0] 54 (0, 0)) from by rw [← hw2, Below.heap_alloc _ _ _ hz1lt]; exact hz1)
  have HB2 := hid (show Below w.heap.size w w2 from by rw [← hw2]; exact hb1.alloc hb1.size _)
  clear hw2 hz1 hb0 hb1 k1 HR hz1lt
  generalize w1.heap.size = q at *
  have c0 : w2.cell? ⟨q, 0, none⟩ = some (.string (str s1)) := by rw [Lib.cell_of_heap HX2.out]; rfl
  have c1 : w2.cell? ⟨q, 1, none⟩ = some (.int .i64 e1) := by rw [Lib.cell_of_heap HX2.out]; rfl
  go_wp2_with fail
  refine (HW.out _).mono ?_
  rintro r w3 ⟨rfl, k3⟩
  have HZ3 := hid (show w3.heap[w.heap.size + 1]? = some (.cells #[.string ⟨#[]⟩, .int .i64 0] 54 (0, 0)) from by rw [k3.block _ (Array.getElem?_eq_some_iff.1 HZ2.out).1]; exact HZ2.out)
  have HB3 := hid (HB2.out.trans (k3.mono HB2.out.size))
  obtain ⟨y0, y1, y2, y3⟩ := in_cells HZ3.out
  clear k3
  go_wp2
  refine ret_in Try.results25 _ _ (w.heap.size + 1) (s2, e2) (.string (str t)) ?_ ?_ ?_ ?_ ?_
  · rfl
  · exact in_set2 HZ3.out _ _
  · rfl
  · rfl
  · exact ⟨rfl, below_set2 HB3.out (Nat.le_succ _) _ _⟩
end Go.Proofs.Ytlehhalakjjnkaa
