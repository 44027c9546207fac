/-
  Layer 18: Clone, List, Next, Validity, Unseen.
-/
import Derived.Test.YtlfjhpmachblkaaBx3
import Derived.Lib.BufferMore
namespace Go.Proofs.Ytlfjhpmachblkaa
open Go.ChangeShapes Go.WideShapes Go.ChangeAt Go.RowKit
open Go.Lib (hid)

/-- A slice's block is none of the old ones. -/
def VFresh (w : World) (v : Value) : Prop := ∀ k, some k = v.ownBlock → w.heap.size ≤ k
theorem VFresh.nil (w : World) : VFresh w (.slice none 0 0) := fun k hk => by cases hk
theorem VFresh.next {w w1 : World} {v v' : Value} (h : VFresh w v) (hn : VNext w1 v v') (hs : w.heap.size ≤ w1.heap.size) : VFresh w v' := fun k hk => by
  rcases hn k hk with h1 | h1
  · exact h k h1
  · omega

set_option maxHeartbeats 1000000 in
set_option maxRecDepth 100000 in
theorem eclone_any (v : Value) (L : List Bv.E) (w : World) (h : OwnB w 38 v L) (hl : L.length ≤ 1000) :
    Calls Try.prog 37 #[v] w fun e w' => ∃ v', e = .returned v' ∧ OwnB w' 38 v' L ∧ VFresh w v' ∧ Below w.heap.size w w' := by
  obtain ⟨i, hi, hz0, hz1, hz2⟩ := info_parts eBox.info
  obtain ⟨h1, ⟨hv, h0⟩ | ⟨g, cap, cur, hv, hg, hh, hn, hm, hs, hc⟩⟩ := h
  · have hl0 : L = [] := List.eq_nil_of_length_eq_zero h0
    subst hl0 hv
    have hsn := fun wx : World => Lib.run_eql_slice_nil_nil (P := Try.prog) wx 0 0 Try.underlying43
    go_enter Try.func37, Try.ntmps37
    go_wp2
    go_ret
    exact ⟨_, rfl, OwnB.nil _ _, VFresh.nil _, Below.refl _ _⟩
  · obtain ⟨n, hnn⟩ : ∃ n, L.length = n := ⟨_, rfl⟩
    rw [hnn] at hv
    subst hv
    have hsn := fun wx : World => Lib.run_eql_slice_some_nil (P := Try.prog) wx ⟨g, 0, none⟩ n cap Try.underlying43
    have HO := hid (show (w.alloc (.cells #[] 38)).ownsRow w.heap.size 38 3 (.slice (some ⟨w.heap.size, 0, none⟩) 0 0) 0 [] from
      ⟨rfl, Or.inr ⟨w.heap.size, 0, #[], rfl, Nat.le_refl _, heap_alloc_new _ _, Nat.le_refl _, by unfold maxLen; omega, rfl, rfl⟩⟩)
    have HB := hid ((Below.refl w.heap.size w).alloc (Nat.le_refl _) (.cells #[] 38))
    have HX := hid (show ∀ j u, (besC L)[j]? = some u → (w.alloc (.cells #[] 38)).cell? ((⟨g, 0, none⟩ : Addr).add j) = some u from fun j u hj => by
      have hlt : j < L.length * 3 := by rw [← h1]; exact (List.getElem?_eq_some_iff.1 hj).1
      rw [← hc, List.getElem?_take, if_pos hlt, Array.getElem?_toList] at hj
      rw [Addr.add_lit, Nat.zero_add]
      exact (cell_of_row _ g j cur _ _ ((HB.out.block g (Array.getElem?_eq_some_iff.1 hh).1).trans hh)).trans hj)
    have HN := hid hnn
    have H1 := hid h1
    clear hh hc hs hn hm h1 hnn
    go_enter Try.func37, Try.ntmps37
    go_wp2_with (refine wpList_append_own _ rfl _ _ 43 rfl w.heap.size 38 i _ 3 24 Try.underlying43 hi hz0 hz1 hz2 rfl (by decide) _ 0 [] rfl HO.out ⟨g, 0, none⟩ n cap (besC L) rfl (by rw [H1.out, HN.out]) HX.out (besC_one L) (by unfold maxLen; have := HN.out; omega) (by have := HN.out; omega) HB.out.size ?_; intro v' w' ho' hg' _)
    go_ret
    refine ⟨v', rfl, ?_, ?_, ?_⟩
    · obtain ⟨k1, k2 | ⟨g2, cap2, cur2, kv, kg, rest⟩⟩ := ho'
      · exact ⟨by rw [besC_length], Or.inl ⟨k2.1, by have := HN.out; omega⟩⟩
      · have : 0 + n = L.length := by have := HN.out; omega
        rw [this] at kv rest
        exact ⟨by rw [besC_length], Or.inr ⟨g2, cap2, cur2, kv, Nat.zero_le _, rest⟩⟩
    · intro k hk
      obtain ⟨k1, k2 | ⟨g2, cap2, cur2, kv, kg, rest⟩⟩ := ho'
      · rw [k2.1] at hk; cases hk
      · rw [kv] at hk
        simp only [Value.ownBlock, Option.some.injEq] at hk
        omega
    · exact HB.out.grown hg' HB.out.size (fun k hk => Nat.le_of_eq (Option.some.inj (show some w.heap.size = some k from hk)))

section
variable {b : Nat} {v : Value} {V X : Int} {L : List Bv.E} {w : World}
set_option maxHeartbeats 1000000 in
set_option maxRecDepth 100000 in
theorem list_any (h : IsB w b v V X L) (hl : L.length ≤ 1000) :
    Calls Try.prog 17 #[.pointer (some ⟨b, 0, none⟩)] w fun e w' => ∃ v', e = .returned v' ∧ OwnB w' 38 v' L ∧ VFresh w v' ∧ Below w.heap.size w w' := by
  have c2 := h.c2
  have HC := hid (eclone_any v L w h.own hl)
  clear h
  go_enter Try.func17, Try.ntmps17
  go_wp2_with fail
  refine HC.out.mono ?_
  rintro e w1 ⟨v', rfl, ho, hf, hb⟩
  have HO := hid ho
  have HF := hid hf
  have HB := hid hb
  clear ho hf hb HC
  go_wp2
  go_ret
  exact ⟨v', rfl, HO.out, HF.out, HB.out⟩
set_option maxHeartbeats 1000000 in
set_option maxRecDepth 100000 in
theorem bclone_any (h : IsB w b v V X L) (hl : L.length ≤ 1000) :
    Calls Try.prog 13 #[.pointer (some ⟨b, 0, none⟩)] w fun e w' => ∃ b' v', e = .returned (.pointer (some ⟨b', 0, none⟩)) ∧ IsB w' b' v' V X L ∧ VFresh w v' ∧ w.heap.size ≤ b' ∧ Below w.heap.size w w' := by
  have HC := hid (fun wx hx => eclone_any v L wx hx hl)
  have HI := hid h
  clear h
  go_enter Try.func13, Try.ntmps13
  go_upto_region 1 with (fail)
  have hS1 : (fun W : World => W.heap[b]? = some (.cells #[.int .i64 V, .int .i64 X, v] 62 (0, 0)) ∧ OwnB W 38 v L) w.drew := ⟨HI.out.row, HI.out.own.below ((Below.refl _ w).drew)⟩
  refine wp_region_noPanic ?_
  refine wp_region_L 14 (fun W : World => W.heap[b]? = some (.cells #[.int .i64 V, .int .i64 X, v] 62 (0, 0)) ∧ OwnB W 38 v L) (by kernel_rfl) 16 rfl (fun hcl0 => ?_)
  refine wpAnyL_take (i := 0) (oi := ?oi2) (v := .pointer (some ⟨b, 0, none⟩)) ?hi2 (by kernel_rfl) (by kernel_rfl) (by kernel_rfl) (by kernel_rfl) hcl0 (fun _ _ _ h => h) ?hy2 hS1 (fun hcl1 => ?_)
  case hi2 => simp only [List.getElem?_toArray, List.getElem?_cons_zero]; rfl
  case hy2 => exact Or.inl ⟨rfl, fun _ hSw => rfl⟩
  simp only [Act.put, List.setIfInBounds_toArray, List.set_cons_zero, List.set_cons_succ]
  refine wpAnyL_take (i := 1) (oi := ?oi3) (v := .pointer (some ⟨b, 0, none⟩)) ?hi3 (by kernel_rfl) (by kernel_rfl) (by kernel_rfl) (by kernel_rfl) hcl1 (fun _ _ _ h => h) ?hy3 hS1 (fun hcl2 => ?_)
  case hi3 => simp only [List.getElem?_toArray, List.getElem?_cons_succ, List.getElem?_cons_zero]; rfl
  case hy3 => exact Or.inl ⟨rfl, fun _ hSw => by go_simp⟩
  simp only [Act.put, List.setIfInBounds_toArray, List.set_cons_zero, List.set_cons_succ]
  refine wpAnyL_take (i := 2) (oi := ?oi4) (v := .pointer (some ⟨b, 0, none⟩)) ?hi4 (by kernel_rfl) (by kernel_rfl) (by kernel_rfl) (by kernel_rfl) hcl2 (fun _ _ _ h => h) ?hy4 hS1 (fun hcl3 => ?_)
  case hi4 => simp only [List.getElem?_toArray, List.getElem?_cons_succ, List.getElem?_cons_zero]; rfl
  case hy4 => exact Or.inl ⟨rfl, fun _ hSw => by go_simp⟩
  simp only [Act.put, List.setIfInBounds_toArray, List.set_cons_zero, List.set_cons_succ]
  refine wpAnyL_take (i := 3) (oi := ?oi5) (v := .int .i64 V) ?hi5 (by kernel_rfl) (by kernel_rfl) (by kernel_rfl) (by kernel_rfl) hcl3 (fun _ _ _ h => h) ?hy5 hS1 (fun hcl4 => ?_)
  case hi5 => simp only [List.getElem?_toArray, List.getElem?_cons_succ, List.getElem?_cons_zero]; rfl
  case hy5 => exact Or.inl ⟨rfl, fun _ hSw => by have hc := cell_of_row _ b 0 _ _ _ hSw.1; go_simp⟩
  simp only [Act.put, List.setIfInBounds_toArray, List.set_cons_zero, List.set_cons_succ]
  refine wpAnyL_take (i := 4) (oi := ?oi6) (v := .pointer (some ⟨b, 0, none⟩)) ?hi6 (by kernel_rfl) (by kernel_rfl) (by kernel_rfl) (by kernel_rfl) hcl4 (fun _ _ _ h => h) ?hy6 hS1 (fun hcl5 => ?_)
  case hi6 => simp only [List.getElem?_toArray, List.getElem?_cons_succ, List.getElem?_cons_zero]; rfl
  case hy6 => exact Or.inl ⟨rfl, fun _ hSw => rfl⟩
  simp only [Act.put, List.setIfInBounds_toArray, List.set_cons_zero, List.set_cons_succ]
  refine wpAnyL_take (i := 5) (oi := ?oi7) (v := .pointer (some ⟨b, 0, none⟩)) ?hi7 (by kernel_rfl) (by kernel_rfl) (by kernel_rfl) (by kernel_rfl) hcl5 (fun _ _ _ h => h) ?hy7 hS1 (fun hcl6 => ?_)
  case hi7 => simp only [List.getElem?_toArray, List.getElem?_cons_succ, List.getElem?_cons_zero]; rfl
  case hy7 => exact Or.inl ⟨rfl, fun _ hSw => by go_simp⟩
  simp only [Act.put, List.setIfInBounds_toArray, List.set_cons_zero, List.set_cons_succ]
  refine wpAnyL_take (i := 6) (oi := ?oi8) (v := .pointer (some ⟨b, 1, none⟩)) ?hi8 (by kernel_rfl) (by kernel_rfl) (by kernel_rfl) (by kernel_rfl) hcl6 (fun _ _ _ h => h) ?hy8 hS1 (fun hcl7 => ?_)
  case hi8 => simp only [List.getElem?_toArray, List.getElem?_cons_succ, List.getElem?_cons_zero]; rfl
  case hy8 => exact Or.inl ⟨rfl, fun _ hSw => by go_simp⟩
  simp only [Act.put, List.setIfInBounds_toArray, List.set_cons_zero, List.set_cons_succ]
  refine wpAnyL_take (i := 7) (oi := ?oi9) (v := .int .i64 X) ?hi9 (by kernel_rfl) (by kernel_rfl) (by kernel_rfl) (by kernel_rfl) hcl7 (fun _ _ _ h => h) ?hy9 hS1 (fun hcl8 => ?_)
  case hi9 => simp only [List.getElem?_toArray, List.getElem?_cons_succ, List.getElem?_cons_zero]; rfl
  case hy9 => exact Or.inl ⟨rfl, fun _ hSw => by have hc := cell_of_row _ b 1 _ _ _ hSw.1; go_simp⟩
  simp only [Act.put, List.setIfInBounds_toArray, List.set_cons_zero, List.set_cons_succ]
  refine wpAnyL_take (i := 8) (oi := ?oi10) (v := .pointer (some ⟨b, 0, none⟩)) ?hi10 (by kernel_rfl) (by kernel_rfl) (by kernel_rfl) (by kernel_rfl) hcl8 (fun _ _ _ h => h) ?hy10 hS1 (fun hcl9 => ?_)
  case hi10 => simp only [List.getElem?_toArray, List.getElem?_cons_succ, List.getElem?_cons_zero]; rfl
  case hy10 => exact Or.inl ⟨rfl, fun _ hSw => rfl⟩
  simp only [Act.put, List.setIfInBounds_toArray, List.set_cons_zero, List.set_cons_succ]
  refine wpAnyL_take (i := 9) (oi := ?oi11) (v := .pointer (some ⟨b, 0, none⟩)) ?hi11 (by kernel_rfl) (by kernel_rfl) (by kernel_rfl) (by kernel_rfl) hcl9 (fun _ _ _ h => h) ?hy11 hS1 (fun hcl10 => ?_)
  case hi11 => simp only [List.getElem?_toArray, List.getElem?_cons_succ, List.getElem?_cons_zero]; rfl
  case hy11 => exact Or.inl ⟨rfl, fun _ hSw => by go_simp⟩
  simp only [Act.put, List.setIfInBounds_toArray, List.set_cons_zero, List.set_cons_succ]
  refine wpAnyL_take (i := 10) (oi := ?oi12) (v := .pointer (some ⟨b, 2, none⟩)) ?hi12 (by kernel_rfl) (by kernel_rfl) (by kernel_rfl) (by kernel_rfl) hcl10 (fun _ _ _ h => h) ?hy12 hS1 (fun hcl11 => ?_)
  case hi12 => simp only [List.getElem?_toArray, List.getElem?_cons_succ, List.getElem?_cons_zero]; rfl
  case hy12 => exact Or.inl ⟨rfl, fun _ hSw => by go_simp⟩
  simp only [Act.put, List.setIfInBounds_toArray, List.set_cons_zero, List.set_cons_succ]
  refine wpAnyL_take (i := 11) (oi := ?oi13) (v := v) ?hi13 (by kernel_rfl) (by kernel_rfl) (by kernel_rfl) (by kernel_rfl) hcl11 (fun _ _ _ h => h) ?hy13 hS1 (fun hcl12 => ?_)
  case hi13 => simp only [List.getElem?_toArray, List.getElem?_cons_succ, List.getElem?_cons_zero]; rfl
  case hy13 => exact Or.inl ⟨rfl, fun _ hSw => by have hc := cell_of_row _ b 2 _ _ _ hSw.1; go_simp⟩
  simp only [Act.put, List.setIfInBounds_toArray, List.set_cons_zero, List.set_cons_succ]
  clear hcl0 hcl1 hcl2 hcl3 hcl4 hcl5 hcl6 hcl7 hcl8 hcl9 hcl10 hcl11 hcl12
  refine wpAnyL_one (i := 12) (o := ?oi14) (by kernel_rfl) ?hi14 ?hw14 ?step14
  case hi14 => simp only [List.getElem?_toArray, List.getElem?_cons_succ, List.getElem?_cons_zero]; rfl
  case hw14 => rfl
  intro K hK
  go_simp
  refine (HC.out _ hS1.2).mono ?_
  rintro e w1 ⟨v', rfl, ho, hf, hb⟩
  obtain ⟨ao7, cp7, hv7⟩ := ownsRow_slice ho
  subst hv7
  have hs2 : w1.heap[b]? = some (.cells #[.int .i64 V, .int .i64 X, v] 62 (0, 0)) ∧ OwnB w1 38 v L := ⟨(hb.block b HI.out.lt).trans hS1.1, hS1.2.below hb⟩
  have HO := hid ho
  have HF := hid (show VFresh w (.slice ao7 L.length cp7) from hf)
  have HB := hid (show Below w.heap.size w w1 from ((Below.refl _ w).drew).trans hb)
  clear ho hf hb HC
  refine hK.out _ _ (fun _ => hs2) ?_
  clear hK K hS1
  try simp only [Act.put, List.setIfInBounds_toArray, List.set_cons_zero, List.set_cons_succ]
  refine wpAnyL_one (i := 13) (o := ?oi15) (by kernel_rfl) ?hi15 ?hw15 ?step15
  case hi15 => simp only [List.getElem?_toArray, List.getElem?_cons_succ, List.getElem?_cons_zero]; rfl
  case hw15 => rfl
  intro K hK
  go_simp
  refine hK.out _ _ (fun _ => hs2) ?_
  clear hK K
  try simp only [Act.put, List.setIfInBounds_toArray, List.set_cons_zero, List.set_cons_succ]
  refine wpAnyL_one (i := 14) (o := ?oi16) (by kernel_rfl) ?hi16 ?hw16 ?step16
  case hi16 => simp only [List.getElem?_toArray, List.getElem?_cons_succ, List.getElem?_cons_zero]; rfl
  case hw16 => rfl
  intro K hK
  go_simp
  refine hK.out _ _ (fun h => absurd rfl h) ?_
  clear hK K
  try simp only [Act.put, List.setIfInBounds_toArray, List.set_cons_zero, List.set_cons_succ]
  refine wpAnyL_one (i := 15) (o := ?oi17) (by kernel_rfl) ?hi17 ?hw17 ?step17
  case hi17 => simp only [List.getElem?_toArray, List.getElem?_cons_succ, List.getElem?_cons_zero]; rfl
  case hw17 => rfl
  intro K hK
  go_simp
  refine hK.out _ _ (fun _ => ⟨(Below.heap_alloc _ _ _ (Nat.lt_of_lt_of_le HI.out.lt HB.out.size)).trans hs2.1, hs2.2.below ((Below.refl _ _).alloc (Nat.le_refl _) _)⟩) ?_
  clear hK K
  try simp only [Act.put, List.setIfInBounds_toArray, List.set_cons_zero, List.set_cons_succ]
  refine wpAnyL_done (by kernel_rfl) ?_ _
  refine NoPanic.normal ?_
  go_wp2
  go_ret
  exact ⟨w1.heap.size, _, rfl, ⟨heap_alloc_new _ _, HO.out.below ((Below.refl _ _).alloc (Nat.le_refl _) _)⟩, HF.out, HB.out.size, HB.out.trans (((Below.refl _ w1).alloc (Nat.le_refl _) _).mono HB.out.size)⟩
set_option maxRecDepth 100000 in
set_option maxHeartbeats 1000000 in
theorem bnext_any (h : IsB w b v V X L) :
    Calls Try.prog 25 #[.pointer (some ⟨b, 0, none⟩)] w fun e w' => e = .returned (.int .i64 X) ∧ w' = w := by
  have c1 := h.c1
  clear h
  go_enter Try.func25, Try.ntmps25
  go_wp2
  go_ret
  exact ⟨rfl, rfl⟩
set_option maxRecDepth 100000 in
set_option maxHeartbeats 1000000 in
theorem bvalid_any (h : IsB w b v V X L) :
    Calls Try.prog 26 #[.pointer (some ⟨b, 0, none⟩)] w fun e w' => e = .returned (.int .i64 V) ∧ w' = w := by
  have c0 := h.c0
  clear h
  go_enter Try.func26, Try.ntmps26
  go_wp2
  go_ret
  exact ⟨rfl, rfl⟩
end
namespace Bv
def un (e : E) : Bool := bits .and .i64 e.2.1 1 == 0
def unseen (L : List E) : Nat := L.countP un
def del (e : E) : Bool := bits .and .i64 e.2.1 8 != 0
theorem count_step (p : E → Bool) (L : List E) (k : Nat) (h : k < L.length) : (L.take (k + 1)).countP p = (L.take k).countP p + if p (L.getD k (0, 0, 0)) then 1 else 0 := by
  rw [List.take_add_one, List.countP_append, List.getD_eq_getElem?_getD, List.getElem?_eq_getElem h]
  simp only [Option.toList_some, Option.getD_some, List.countP_cons, List.countP_nil]
  split <;> omega
theorem filter_step (p : E → Bool) (L : List E) (k : Nat) (h : k < L.length) : (L.take (k + 1)).filter p = (L.take k).filter p ++ if p (L.getD k (0, 0, 0)) then [L.getD k (0, 0, 0)] else [] := by
  rw [List.take_add_one, List.filter_append, List.getD_eq_getElem?_getD, List.getElem?_eq_getElem h]
  simp only [Option.toList_some, Option.getD_some, List.filter_cons, List.filter_nil]
end Bv
set_option maxHeartbeats 2000000 in
set_option maxRecDepth 100000 in
theorem unseen_any {b : Nat} {v : Value} {V X : Int} {L : List Bv.E} {w : World} (h : IsB w b v V X L) (hl : L.length ≤ 1000) :
    Calls Try.prog 34 #[.pointer (some ⟨b, 0, none⟩)] w fun e w' => e = .returned (.int .i64 (Bv.unseen L : Nat)) ∧ Below w.heap.size w w' := by
  have c2 := h.c2
  obtain ⟨ao, cap, rfl, hes⟩ := h.own.es
  have HA := hid hes
  clear h hes
  obtain ⟨N, hN⟩ : ∃ N, Bv.unseen L = N := ⟨_, rfl⟩
  rw [hN]
  have HN := hid hN
  clear hN
  go_enter Try.func34, Try.ntmps34
  go_upto_region 3 with (fail)
  go_loopw [3, 11] (fun n i wr => ∃ p : Nat, p ≤ L.length ∧ i = .int .i64 p ∧ n = .int .i64 (Bv.unseen (L.take p) : Nat) ∧ Below w.heap.size w wr)
    (fun _ i _ => L.length - (intOf i).toNat)
  case atStart => exact ⟨0, by omega, rfl, rfl, Below.refl _ _⟩
  case round =>
    obtain ⟨p, hp, rfl, rfl, hb⟩ := hrel
    have HB := hid hb
    clear hb
    by_cases hlt : p < L.length
    · obtain ⟨g, rfl, q0, q1, q2⟩ := (HA.out.below HB.out) p hlt
      have hst := Bv.count_step Bv.un L p hlt
      obtain ⟨⟨yu, yf, ym⟩, hy⟩ : ∃ y, L.getD p (0, 0, 0) = y := ⟨_, rfl⟩
      rw [hy] at q0 q1 q2 hst
      dsimp only at q0 q1 q2
      have hbd : Bv.unseen (L.take p) ≤ 1000 := Nat.le_trans (List.countP_le_length) (by rw [List.length_take]; omega)
      have hst2 : Bv.unseen (L.take (p + 1)) = Bv.unseen (L.take p) + if (bits .and .i64 yf 1 == 0) = true then 1 else 0 := hst
      obtain ⟨z, hz⟩ : ∃ z, bits .and .i64 yf 1 = z := ⟨_, rfl⟩
      rw [hz] at hst2
      have HST := hid hst2
      have HB2 := hid (HB.out.trans (((Below.refl wr.heap.size wr).alloc (Nat.le_refl _) (.cells #[.int .i64 yu, .int .i64 yf, .int .i64 ym] 38)).mono HB.out.size))
      clear hst hst2 hy
      generalize Bv.unseen (L.take p) = n at *
      by_cases h0 : z = 0
      · subst h0
        go_wp2
        exact ⟨⟨p + 1, by omega, by go_num, by rw [HST.out]; go_num, HB2.out⟩, by simp [intOf]; omega⟩
      · have h1 : (z == 0) = false := by simpa using h0
        go_wp2
        exact ⟨⟨p + 1, by omega, by go_num, by rw [HST.out, h1]; rfl, HB2.out⟩, by simp [intOf]; omega⟩
    · obtain rfl : p = L.length := by omega
      rw [List.take_length, HN.out]
      go_wp2
      go_ret
      exact ⟨rfl, HB.out⟩
end Go.Proofs.Ytlfjhpmachblkaa
