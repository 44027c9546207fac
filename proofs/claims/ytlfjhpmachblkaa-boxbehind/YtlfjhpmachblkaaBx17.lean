/-
  Layer 18: the law's Same and Is.
-/
import Derived.Test.YtlfjhpmachblkaaBx16
namespace Go.Proofs.Ytlfjhpmachblkaa
open Go.ChangeShapes Go.WideShapes Go.ChangeAt Go.RowKit
open Go.Lib (hid)

attribute [local go_sem] Oper.semAt_some

set_option maxHeartbeats 2000000 in
set_option maxRecDepth 100000 in
theorem same_any (v r : Value) (L : List Bv.E) (w : World) (h : OwnB w 38 v L) (hr : OwnB w 63 r L) (hl : L.length ≤ 1000) :
    Calls Try.prog 33 #[v, r] w fun e w' => e = .returned (.bool true) ∧ Below w.heap.size w w' := by
  obtain ⟨ao, cap, rfl, hes⟩ := h.es
  obtain ⟨bo, cbp, rfl, hfs⟩ := hr.es
  have HA := hid hes
  have HC := hid hfs
  clear h hr hes hfs
  go_enter Try.func33, Try.ntmps33
  go_upto_region 4 with (fail)
  go_loopw [5, 13] (fun _ i wr => ∃ p : Nat, p ≤ L.length ∧ i = .int .i64 p ∧ Below w.heap.size w wr) (fun _ i _ => L.length - (intOf i).toNat)
  case atStart => exact ⟨0, by omega, rfl, Below.refl _ _⟩
  case round =>
    obtain ⟨p, hp, rfl, hb⟩ := hrel
    have HB := hid hb
    clear hb
    by_cases hlt : p < L.length
    · obtain ⟨g, rfl, q0, q1, q2⟩ := (HA.out.below HB.out) p hlt
      obtain ⟨g2, rfl, x0, x1, x2⟩ := (HC.out.below HB.out) p hlt
      obtain ⟨⟨yu, yf, ym⟩, hy⟩ : ∃ y, L.getD p (0, 0, 0) = y := ⟨_, rfl⟩
      rw [hy] at q0 q1 q2 x0 x1 x2
      dsimp only at q0 q1 q2 x0 x1 x2
      have hpi : (p : Int) < (L.length : Int) := by omega
      clear hy
      go_upto_region 6 with (fail)
      go_quiet (fail)
      have hbq : Below wr.heap.size wr (wr.drewN nq) := ⟨rfl, rfl, rfl, Nat.le_refl _, fun _ _ => rfl⟩
      go_wp2
      exact ⟨⟨p + 1, by omega, by go_num, HB.out.trans (hbq.mono HB.out.size)⟩, by simp [intOf]; omega⟩
    · obtain rfl : p = L.length := by omega
      go_wp2
      go_ret
      exact ⟨rfl, HB.out⟩

theorem OwnB.toR {w w' : World} {b : Nat} {v v' r : Value} {V X : Int} {L K : List Bv.E} (h : OwnB w 63 r K) (hb : IsB w b v V X L) (hk : BxTo w b v w' v') : OwnB w' 63 r K := by
  refine h.at fun g hg => hk.1.block g (h.lt hg) ?_
  obtain ⟨cs, hc⟩ := h.block hg
  rintro (rfl | hv)
  · have := hb.row
    rw [hc] at this
    injection this with e; injection e with _ e _
    exact absurd e (by decide)
  · obtain ⟨cs2, hc2⟩ := hb.own.block hv
    rw [hc] at hc2
    injection hc2 with e; injection e with _ e _
    exact absurd e (by decide)
theorem heap_toR {w w' : World} {b k : Nat} {v v' : Value} {V X : Int} {L : List Bv.E} {cs : Array Value} {T : TypeId} (h : w.heap[k]? = some (.cells cs T (0, 0))) (h1 : T ≠ 62) (h2 : T ≠ 38) (hb : IsB w b v V X L) (hk : BxTo w b v w' v') : w'.heap[k]? = some (.cells cs T (0, 0)) := by
  refine (hk.1.block k (Array.getElem?_eq_some_iff.1 h).1 ?_).trans h
  rintro (rfl | hv)
  · have := hb.row
    rw [h] at this
    injection this with e; injection e with _ e _
    exact h1 e
  · obtain ⟨cs2, hc2⟩ := hb.own.block hv
    rw [h] at hc2
    injection hc2 with e; injection e with _ e _
    exact h2 e

/-- What the law's Is keeps. -/
structure IsS (w : World) (b : Nat) (v r : Value) (V X : Int) (L : List Bv.E) (u : World) : Prop where
  bx : IsB u b v V X L
  rf : OwnB u 63 r L
  rb : RbAt u w.heap.size V X r
  bel : Below w.heap.size w u
theorem IsS.keep {w u u' : World} {b : Nat} {v r : Value} {V X : Int} {L : List Bv.E} (h : IsS w b v r V X L u) (hb : Below u.heap.size u u') : IsS w b v r V X L u' :=
  ⟨h.bx.below hb, h.rf.below hb, h.rb.below hb, h.bel.trans (hb.mono h.bel.size)⟩

set_option maxHeartbeats 4000000 in
set_option maxRecDepth 100000 in
theorem is18_any (b : Nat) (v r : Value) (V X : Int) (L : List Bv.E) (w : World) (h : IsB w b v V X L) (hr : OwnB w 63 r L) (hG : Bv.Good V X L) :
    Calls Try.prog 12 #[.pointer (some ⟨b, 0, none⟩), rbV V X r] w fun e w' => e = .returned (.bool true) ∧ Below w.heap.size w w' := by
  have hl : L.length ≤ 1000 := by have := hG.len; omega
  have hfs : Bv.Fls L := fun i hi => (hG.ent i hi).2.2.1
  have HLI := hid (fun u (hu : IsB u b v V X L) => list_any hu hl)
  have HSM := hid (fun vl u (h1 : OwnB u 38 vl L) (h2 : OwnB u 63 r L) => same_any vl r L u h1 h2 hl)
  have HNX := hid (fun u (hu : IsB u b v V X L) => bnext_any hu)
  have HVA := hid (fun u (hu : IsB u b v V X L) => bvalid_any hu)
  have HUN := hid (fun u (hu : IsB u b v V X L) => unseen_any hu hl)
  have HRU := hid (fun u (h2 : OwnB u 63 r L) => runseen18_any V X r L u h2 hfs hl)
  have HPK := hid (fun u (hu : IsB u b v V X L) => pack_any hu hl hG.fits)
  have HRP := hid (fun u (h2 : OwnB u 63 r L) => rpack18_any V X r L u h2 hl hG.fits)
  have HI := hid h
  have HR := hid hr
  clear h hr hG hl hfs
  generalize Bv.unseen L = N at *
  generalize str (Bv.pack V X L) = SP at *
  unfold rbV
  unfold rbV at HRU HRP
  go_enter Try.func12, Try.ntmps12
  go_upto_region 1 with (fail)
  have hb0 : Below w.heap.size w (w.alloc (.cells #[.int .i64 V, .int .i64 X, r] 28)) := (Below.refl _ _).alloc (Nat.le_refl _) _
  have S0 : IsS w b v r V X L (w.alloc (.cells #[.int .i64 V, .int .i64 X, r] 28)) := ⟨HI.out.below hb0, HR.out.below hb0, heap_alloc_new _ _, hb0⟩
  have HS0 := hid S0
  clear hb0 S0
  generalize w.alloc _ = w0 at *
  refine wp_region_noPanic ?_
  refine wp_region_held_drew (S := IsS w b v r V X L) (by kernel_rfl) (HS0.out.keep ((Below.refl _ _).drew)) (fun hS1 => ?_)
  change wpAnyH _ _ _ _ _ 34 _ _ _
  refine wpAnyH_take (i := 0) (oi := ?oi2) (v := .pointer (some ⟨b, 0, none⟩)) ?hi2 (by kernel_rfl) (by kernel_rfl) (by kernel_rfl) (fun _ _ _ h => h) ?hy2 hS1 ?rest2
  case hi2 => simp only [List.getElem?_toArray, List.getElem?_cons_zero]; rfl
  case hy2 => exact Or.inl ⟨rfl, fun _ hSw => rfl⟩
  simp only [Act.put, List.setIfInBounds_toArray, List.set_cons_zero, List.set_cons_succ]
  refine wpAnyH_take (i := 2) (oi := ?oi3) (v := .pointer (some ⟨w.heap.size, 2, none⟩)) ?hi3 (by kernel_rfl) (by kernel_rfl) (by kernel_rfl) (fun _ _ _ h => h) ?hy3 hS1 ?rest3
  case hi3 => simp only [List.getElem?_toArray, List.getElem?_cons_succ, List.getElem?_cons_zero]; rfl
  case hy3 => exact Or.inl ⟨rfl, fun _ hSw => by go_simp⟩
  simp only [Act.put, List.setIfInBounds_toArray, List.set_cons_zero, List.set_cons_succ]
  refine wpAnyH_take (i := 3) (oi := ?oi4) (v := r) ?hi4 (by kernel_rfl) (by kernel_rfl) (by kernel_rfl) (fun _ _ _ h => h) ?hy4 hS1 ?rest4
  case hi4 => simp only [List.getElem?_toArray, List.getElem?_cons_succ, List.getElem?_cons_zero]; rfl
  case hy4 => exact Or.inl ⟨rfl, fun _ hSw => by have hc := hSw.rb.c.2.2; go_simp⟩
  simp only [Act.put, List.setIfInBounds_toArray, List.set_cons_zero, List.set_cons_succ]
  refine wpAnyH_ready (rs := [1]) (by kernel_rfl) (by simp) ?_
  refine AllReadyH.cons (o := ?oi5) ?hi5 ?step5 AllReadyH.nil
  case hi5 => simp only [List.getElem?_toArray, List.getElem?_cons_succ, List.getElem?_cons_zero]; rfl
  intro K hK
  go_simp
  refine (HLI.out _ hS1.bx).mono ?_
  rintro e w1 ⟨vl, rfl, hol, _, hb1⟩
  refine hK.out _ _ (hS1.keep hb1) (fun hS2 => ?_)
  clear hK K
  try simp only [Act.put, List.setIfInBounds_toArray, List.set_cons_zero, List.set_cons_succ]
  refine wpAnyH_ready (rs := [4]) (by kernel_rfl) (by simp) ?_
  refine AllReadyH.cons (o := ?oi6) ?hi6 ?step6 AllReadyH.nil
  case hi6 => simp only [List.getElem?_toArray, List.getElem?_cons_succ, List.getElem?_cons_zero]; rfl
  intro K hK
  go_simp
  refine (HSM.out vl _ hol hS2.rf).mono ?_
  rintro e w2 ⟨rfl, hb2⟩
  refine hK.out _ _ (hS2.keep hb2) (fun hS3 => ?_)
  clear hK K
  try simp only [Act.put, List.setIfInBounds_toArray, List.set_cons_zero, List.set_cons_succ]
  refine wpAnyH_take (i := 5) (oi := ?oi7) (v := .bool true) ?hi7 (by kernel_rfl) (by kernel_rfl) (by kernel_rfl) (fun _ _ _ h => h) ?hy7 hS3 ?rest7
  case hi7 => simp only [List.getElem?_toArray, List.getElem?_cons_succ, List.getElem?_cons_zero]; rfl
  case hy7 => exact Or.inl ⟨rfl, fun _ hSw => rfl⟩
  simp only [Act.put, List.setIfInBounds_toArray, List.set_cons_zero, List.set_cons_succ]
  refine wpAnyH_take (i := 6) (oi := ?oi8) (v := .pointer (some ⟨b, 0, none⟩)) ?hi8 (by kernel_rfl) (by kernel_rfl) (by kernel_rfl) (fun _ _ _ h => h) ?hy8 hS3 ?rest8
  case hi8 => simp only [List.getElem?_toArray, List.getElem?_cons_succ, List.getElem?_cons_zero]; rfl
  case hy8 => exact Or.inl ⟨rfl, fun _ hSw => rfl⟩
  simp only [Act.put, List.setIfInBounds_toArray, List.set_cons_zero, List.set_cons_succ]
  refine wpAnyH_take (i := 8) (oi := ?oi9) (v := .pointer (some ⟨w.heap.size, 1, none⟩)) ?hi9 (by kernel_rfl) (by kernel_rfl) (by kernel_rfl) (fun _ _ _ h => h) ?hy9 hS3 ?rest9
  case hi9 => simp only [List.getElem?_toArray, List.getElem?_cons_succ, List.getElem?_cons_zero]; rfl
  case hy9 => exact Or.inl ⟨rfl, fun _ hSw => by go_simp⟩
  simp only [Act.put, List.setIfInBounds_toArray, List.set_cons_zero, List.set_cons_succ]
  refine wpAnyH_take (i := 9) (oi := ?oi10) (v := .int .i64 X) ?hi10 (by kernel_rfl) (by kernel_rfl) (by kernel_rfl) (fun _ _ _ h => h) ?hy10 hS3 ?rest10
  case hi10 => simp only [List.getElem?_toArray, List.getElem?_cons_succ, List.getElem?_cons_zero]; rfl
  case hy10 => exact Or.inl ⟨rfl, fun _ hSw => by have hc := hSw.rb.c.2.1; go_simp⟩
  simp only [Act.put, List.setIfInBounds_toArray, List.set_cons_zero, List.set_cons_succ]
  refine wpAnyH_ready (rs := [7]) (by kernel_rfl) (by simp) ?_
  refine AllReadyH.cons (o := ?oi11) ?hi11 ?step11 AllReadyH.nil
  case hi11 => simp only [List.getElem?_toArray, List.getElem?_cons_succ, List.getElem?_cons_zero]; rfl
  intro K hK
  go_simp
  refine (HNX.out _ hS3.bx).mono ?_
  rintro e w3 ⟨rfl, rfl⟩
  refine hK.out _ _ (hS3) (fun hS4 => ?_)
  clear hK K
  try simp only [Act.put, List.setIfInBounds_toArray, List.set_cons_zero, List.set_cons_succ]
  refine wpAnyH_take (i := 10) (oi := ?oi12) (v := .bool true) ?hi12 (by kernel_rfl) (by kernel_rfl) (by kernel_rfl) (fun _ _ _ h => h) ?hy12 hS4 ?rest12
  case hi12 => simp only [List.getElem?_toArray, List.getElem?_cons_succ, List.getElem?_cons_zero]; rfl
  case hy12 => exact Or.inl ⟨rfl, fun _ hSw => by go_simp⟩
  simp only [Act.put, List.setIfInBounds_toArray, List.set_cons_zero, List.set_cons_succ]
  refine wpAnyH_take (i := 11) (oi := ?oi13) (v := .bool true) ?hi13 (by kernel_rfl) (by kernel_rfl) (by kernel_rfl) (fun _ _ _ h => h) ?hy13 hS4 ?rest13
  case hi13 => simp only [List.getElem?_toArray, List.getElem?_cons_succ, List.getElem?_cons_zero]; rfl
  case hy13 => exact Or.inl ⟨rfl, fun _ hSw => by go_simp⟩
  simp only [Act.put, List.setIfInBounds_toArray, List.set_cons_zero, List.set_cons_succ]
  refine wpAnyH_take (i := 12) (oi := ?oi14) (v := .bool true) ?hi14 (by kernel_rfl) (by kernel_rfl) (by kernel_rfl) (fun _ _ _ h => h) ?hy14 hS4 ?rest14
  case hi14 => simp only [List.getElem?_toArray, List.getElem?_cons_succ, List.getElem?_cons_zero]; rfl
  case hy14 => exact Or.inl ⟨rfl, fun _ hSw => rfl⟩
  simp only [Act.put, List.setIfInBounds_toArray, List.set_cons_zero, List.set_cons_succ]
  refine wpAnyH_take (i := 13) (oi := ?oi15) (v := .pointer (some ⟨b, 0, none⟩)) ?hi15 (by kernel_rfl) (by kernel_rfl) (by kernel_rfl) (fun _ _ _ h => h) ?hy15 hS4 ?rest15
  case hi15 => simp only [List.getElem?_toArray, List.getElem?_cons_succ, List.getElem?_cons_zero]; rfl
  case hy15 => exact Or.inl ⟨rfl, fun _ hSw => rfl⟩
  simp only [Act.put, List.setIfInBounds_toArray, List.set_cons_zero, List.set_cons_succ]
  refine wpAnyH_take (i := 15) (oi := ?oi16) (v := .pointer (some ⟨w.heap.size, 0, none⟩)) ?hi16 (by kernel_rfl) (by kernel_rfl) (by kernel_rfl) (fun _ _ _ h => h) ?hy16 hS4 ?rest16
  case hi16 => simp only [List.getElem?_toArray, List.getElem?_cons_succ, List.getElem?_cons_zero]; rfl
  case hy16 => exact Or.inl ⟨rfl, fun _ hSw => by go_simp⟩
  simp only [Act.put, List.setIfInBounds_toArray, List.set_cons_zero, List.set_cons_succ]
  refine wpAnyH_take (i := 16) (oi := ?oi17) (v := .int .i64 V) ?hi17 (by kernel_rfl) (by kernel_rfl) (by kernel_rfl) (fun _ _ _ h => h) ?hy17 hS4 ?rest17
  case hi17 => simp only [List.getElem?_toArray, List.getElem?_cons_succ, List.getElem?_cons_zero]; rfl
  case hy17 => exact Or.inl ⟨rfl, fun _ hSw => by have hc := hSw.rb.c.1; go_simp⟩
  simp only [Act.put, List.setIfInBounds_toArray, List.set_cons_zero, List.set_cons_succ]
  refine wpAnyH_ready (rs := [14]) (by kernel_rfl) (by simp) ?_
  refine AllReadyH.cons (o := ?oi18) ?hi18 ?step18 AllReadyH.nil
  case hi18 => simp only [List.getElem?_toArray, List.getElem?_cons_succ, List.getElem?_cons_zero]; rfl
  intro K hK
  go_simp
  refine (HVA.out _ hS4.bx).mono ?_
  rintro e w4 ⟨rfl, rfl⟩
  refine hK.out _ _ (hS4) (fun hS5 => ?_)
  clear hK K
  try simp only [Act.put, List.setIfInBounds_toArray, List.set_cons_zero, List.set_cons_succ]
  refine wpAnyH_take (i := 17) (oi := ?oi19) (v := .bool true) ?hi19 (by kernel_rfl) (by kernel_rfl) (by kernel_rfl) (fun _ _ _ h => h) ?hy19 hS5 ?rest19
  case hi19 => simp only [List.getElem?_toArray, List.getElem?_cons_succ, List.getElem?_cons_zero]; rfl
  case hy19 => exact Or.inl ⟨rfl, fun _ hSw => by go_simp⟩
  simp only [Act.put, List.setIfInBounds_toArray, List.set_cons_zero, List.set_cons_succ]
  refine wpAnyH_take (i := 18) (oi := ?oi20) (v := .bool true) ?hi20 (by kernel_rfl) (by kernel_rfl) (by kernel_rfl) (fun _ _ _ h => h) ?hy20 hS5 ?rest20
  case hi20 => simp only [List.getElem?_toArray, List.getElem?_cons_succ, List.getElem?_cons_zero]; rfl
  case hy20 => exact Or.inl ⟨rfl, fun _ hSw => by go_simp⟩
  simp only [Act.put, List.setIfInBounds_toArray, List.set_cons_zero, List.set_cons_succ]
  refine wpAnyH_take (i := 19) (oi := ?oi21) (v := .bool true) ?hi21 (by kernel_rfl) (by kernel_rfl) (by kernel_rfl) (fun _ _ _ h => h) ?hy21 hS5 ?rest21
  case hi21 => simp only [List.getElem?_toArray, List.getElem?_cons_succ, List.getElem?_cons_zero]; rfl
  case hy21 => exact Or.inl ⟨rfl, fun _ hSw => rfl⟩
  simp only [Act.put, List.setIfInBounds_toArray, List.set_cons_zero, List.set_cons_succ]
  refine wpAnyH_take (i := 20) (oi := ?oi22) (v := .pointer (some ⟨b, 0, none⟩)) ?hi22 (by kernel_rfl) (by kernel_rfl) (by kernel_rfl) (fun _ _ _ h => h) ?hy22 hS5 ?rest22
  case hi22 => simp only [List.getElem?_toArray, List.getElem?_cons_succ, List.getElem?_cons_zero]; rfl
  case hy22 => exact Or.inl ⟨rfl, fun _ hSw => rfl⟩
  simp only [Act.put, List.setIfInBounds_toArray, List.set_cons_zero, List.set_cons_succ]
  refine wpAnyH_take (i := 22) (oi := ?oi23) (v := .agg ([.int .i64 V, .int .i64 X, r] : List Value).toArray) ?hi23 (by kernel_rfl) (by kernel_rfl) (by kernel_rfl) (fun _ _ _ h => h) ?hy23 hS5 ?rest23
  case hi23 => simp only [List.getElem?_toArray, List.getElem?_cons_succ, List.getElem?_cons_zero]; rfl
  case hy23 => 
    refine yieldsIf_load_mid ?w23 _ ?x23 ?o23 w.heap.size 0 ?e23 ([.int .i64 V, .int .i64 X, r] : List Value) _ ?s23 Try.underlying28 rfl infoRB
    case o23 => rfl
    case w23 => rfl
    case e23 => rfl
    case s23 => intro _ hSw; exact range_row hSw.rb
  simp only [Act.put, List.setIfInBounds_toArray, List.set_cons_zero, List.set_cons_succ]
  try simp only [Array.toArray_toList]
  refine wpAnyH_ready (rs := [21]) (by kernel_rfl) (by simp) ?_
  refine AllReadyH.cons (o := ?oi24) ?hi24 ?step24 AllReadyH.nil
  case hi24 => simp only [List.getElem?_toArray, List.getElem?_cons_succ, List.getElem?_cons_zero]; rfl
  intro K hK
  go_simp
  refine (HUN.out _ hS5.bx).mono ?_
  rintro e w5 ⟨rfl, hb5⟩
  refine hK.out _ _ (hS5.keep hb5) (fun hS6 => ?_)
  clear hK K
  try simp only [Act.put, List.setIfInBounds_toArray, List.set_cons_zero, List.set_cons_succ]
  refine wpAnyH_ready (rs := [23]) (by kernel_rfl) (by simp) ?_
  refine AllReadyH.cons (o := ?oi25) ?hi25 ?step25 AllReadyH.nil
  case hi25 => simp only [List.getElem?_toArray, List.getElem?_cons_succ, List.getElem?_cons_zero]; rfl
  intro K hK
  go_simp
  refine (HRU.out _ hS6.rf).mono ?_
  rintro e w6 ⟨rfl, hb6⟩
  refine hK.out _ _ (hS6.keep hb6) (fun hS7 => ?_)
  clear hK K
  try simp only [Act.put, List.setIfInBounds_toArray, List.set_cons_zero, List.set_cons_succ]
  refine wpAnyH_take (i := 24) (oi := ?oi26) (v := .bool true) ?hi26 (by kernel_rfl) (by kernel_rfl) (by kernel_rfl) (fun _ _ _ h => h) ?hy26 hS7 ?rest26
  case hi26 => simp only [List.getElem?_toArray, List.getElem?_cons_succ, List.getElem?_cons_zero]; rfl
  case hy26 => exact Or.inl ⟨rfl, fun _ hSw => by go_simp⟩
  simp only [Act.put, List.setIfInBounds_toArray, List.set_cons_zero, List.set_cons_succ]
  refine wpAnyH_take (i := 25) (oi := ?oi27) (v := .bool true) ?hi27 (by kernel_rfl) (by kernel_rfl) (by kernel_rfl) (fun _ _ _ h => h) ?hy27 hS7 ?rest27
  case hi27 => simp only [List.getElem?_toArray, List.getElem?_cons_succ, List.getElem?_cons_zero]; rfl
  case hy27 => exact Or.inl ⟨rfl, fun _ hSw => by go_simp⟩
  simp only [Act.put, List.setIfInBounds_toArray, List.set_cons_zero, List.set_cons_succ]
  refine wpAnyH_take (i := 26) (oi := ?oi28) (v := .bool true) ?hi28 (by kernel_rfl) (by kernel_rfl) (by kernel_rfl) (fun _ _ _ h => h) ?hy28 hS7 ?rest28
  case hi28 => simp only [List.getElem?_toArray, List.getElem?_cons_succ, List.getElem?_cons_zero]; rfl
  case hy28 => exact Or.inl ⟨rfl, fun _ hSw => rfl⟩
  simp only [Act.put, List.setIfInBounds_toArray, List.set_cons_zero, List.set_cons_succ]
  refine wpAnyH_take (i := 27) (oi := ?oi29) (v := .pointer (some ⟨b, 0, none⟩)) ?hi29 (by kernel_rfl) (by kernel_rfl) (by kernel_rfl) (fun _ _ _ h => h) ?hy29 hS7 ?rest29
  case hi29 => simp only [List.getElem?_toArray, List.getElem?_cons_succ, List.getElem?_cons_zero]; rfl
  case hy29 => exact Or.inl ⟨rfl, fun _ hSw => rfl⟩
  simp only [Act.put, List.setIfInBounds_toArray, List.set_cons_zero, List.set_cons_succ]
  refine wpAnyH_take (i := 29) (oi := ?oi30) (v := .agg ([.int .i64 V, .int .i64 X, r] : List Value).toArray) ?hi30 (by kernel_rfl) (by kernel_rfl) (by kernel_rfl) (fun _ _ _ h => h) ?hy30 hS7 ?rest30
  case hi30 => simp only [List.getElem?_toArray, List.getElem?_cons_succ, List.getElem?_cons_zero]; rfl
  case hy30 => 
    refine yieldsIf_load_mid ?w30 _ ?x30 ?o30 w.heap.size 0 ?e30 ([.int .i64 V, .int .i64 X, r] : List Value) _ ?s30 Try.underlying28 rfl infoRB
    case o30 => rfl
    case w30 => rfl
    case e30 => rfl
    case s30 => intro _ hSw; exact range_row hSw.rb
  simp only [Act.put, List.setIfInBounds_toArray, List.set_cons_zero, List.set_cons_succ]
  try simp only [Array.toArray_toList]
  refine wpAnyH_ready (rs := [28]) (by kernel_rfl) (by simp) ?_
  refine AllReadyH.cons (o := ?oi31) ?hi31 ?step31 AllReadyH.nil
  case hi31 => simp only [List.getElem?_toArray, List.getElem?_cons_succ, List.getElem?_cons_zero]; rfl
  intro K hK
  go_simp
  refine (HPK.out _ hS7.bx).mono ?_
  rintro e w7 ⟨rfl, hb7⟩
  refine hK.out _ _ (hS7.keep hb7) (fun hS8 => ?_)
  clear hK K
  try simp only [Act.put, List.setIfInBounds_toArray, List.set_cons_zero, List.set_cons_succ]
  refine wpAnyH_ready (rs := [30]) (by kernel_rfl) (by simp) ?_
  refine AllReadyH.cons (o := ?oi32) ?hi32 ?step32 AllReadyH.nil
  case hi32 => simp only [List.getElem?_toArray, List.getElem?_cons_succ, List.getElem?_cons_zero]; rfl
  intro K hK
  go_simp
  refine (HRP.out _ hS8.rf).mono ?_
  rintro e w8 ⟨rfl, hb8⟩
  refine hK.out _ _ (hS8.keep hb8) (fun hS9 => ?_)
  clear hK K
  try simp only [Act.put, List.setIfInBounds_toArray, List.set_cons_zero, List.set_cons_succ]
  refine wpAnyH_take (i := 31) (oi := ?oi33) (v := .bool true) ?hi33 (by kernel_rfl) (by kernel_rfl) (by kernel_rfl) (fun _ _ _ h => h) ?hy33 hS9 ?rest33
  case hi33 => simp only [List.getElem?_toArray, List.getElem?_cons_succ, List.getElem?_cons_zero]; rfl
  case hy33 => exact Or.inl ⟨rfl, fun _ hSw => by go_simp⟩
  simp only [Act.put, List.setIfInBounds_toArray, List.set_cons_zero, List.set_cons_succ]
  refine wpAnyH_take (i := 32) (oi := ?oi34) (v := .bool true) ?hi34 (by kernel_rfl) (by kernel_rfl) (by kernel_rfl) (fun _ _ _ h => h) ?hy34 hS9 ?rest34
  case hi34 => simp only [List.getElem?_toArray, List.getElem?_cons_succ, List.getElem?_cons_zero]; rfl
  case hy34 => exact Or.inl ⟨rfl, fun _ hSw => by go_simp⟩
  simp only [Act.put, List.setIfInBounds_toArray, List.set_cons_zero, List.set_cons_succ]
  refine wpAnyH_ready (rs := [33]) (by kernel_rfl) (by simp) ?_
  refine AllReadyH.cons (o := ?oiu35_33) ?hiu35_33 ?stepu35_33 AllReadyH.nil
  case hiu35_33 => simp only [List.getElem?_toArray, List.getElem?_cons_succ, List.getElem?_cons_zero]; rfl
  intro K hK
  go_simp
  refine hK.out _ _ hS9 (fun hS10 => ?_)
  clear hK K
  try simp only [Act.put, List.setIfInBounds_toArray, List.set_cons_zero, List.set_cons_succ]
  refine wpAnyH_done (by kernel_rfl) ?_ _
  refine NoPanic.normal ?_
  go_wp2
  go_ret
  exact ⟨rfl, hS10.bel⟩
end Go.Proofs.Ytlfjhpmachblkaa
