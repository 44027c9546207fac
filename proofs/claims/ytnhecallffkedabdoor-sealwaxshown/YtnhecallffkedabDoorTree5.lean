/-
  Layer 7: what (level).above returns.
-/
import Derived.Test.YtnhecallffkedabDoorBase
import Derived.Test.YtnhecallffkedabDoorTree4
namespace Go.Proofs.YtnhecallffkedabDoor
open Go.RowKit
open Go.Lib (hid)

namespace Tx
/-- The sums of neighbours, two by two: the first k. -/
def upN (F : List (List Nat)) (r : List Nat) (k : Nat) : List (List Nat) := (List.range k).map fun i => hn (F.getD (2 * i) r) (F.getD (2 * i + 1) r)
theorem upN_succ (F : List (List Nat)) (r : List Nat) (k : Nat) : upN F r k ++ [hn (F.getD (2 * k) r) (F.getD (2 * k + 1) r)] = upN F r (k + 1) := by
  simp [upN, List.range_succ]
theorem upN_length (F : List (List Nat)) (r : List Nat) (k : Nat) : (upN F r k).length = k := by simp [upN]
def up (F : List (List Nat)) (r : List Nat) : List (List Nat) := upN F r ((F.length + 1) / 2)
end Tx
theorem range_row {w : World} {b : Nat} {cs : Array Value} {t : TypeId} {fr : Nat × Nat} (h : w.heap[b]? = some (.cells cs t fr)) : w.rangeAt b 0 cs.toList := by
  intro j u hj
  rw [Nat.zero_add, cell_of_row w b j _ _ _ h]
  simpa using hj
/-- While the sums of neighbours are made. -/
structure As (w : World) (q : Nat) (R : List Nat) (v : Value) (LV : Array Value) (u : World) : Prop where
  lv : u.heap[q]? = some (.cells (lvC v R) 53 (0, 0))
  res : ∃ cs : Array Value, cs.size = 33 ∧ u.heap[w.heap.size + 1]? = some (.cells cs 53 (0, 0))
  inn : u.heap[w.heap.size]? = some (.cells LV 53 (0, 0))
  bel : Below w.heap.size w u
  tab : Tabs u
  sz : q < u.heap.size
theorem As.keep {w : World} {q : Nat} {R : List Nat} {v : Value} {LV : Array Value} {u u' : World} (h : As w q R v LV u) (hb : Below u.heap.size u u') : As w q R v LV u' := by
  obtain ⟨cs, hc, hr⟩ := h.res
  exact ⟨by rw [hb.block q h.sz]; exact h.lv, ⟨cs, hc, by rw [hb.block _ (Array.getElem?_eq_some_iff.1 hr).1]; exact hr⟩, by rw [hb.block _ (Array.getElem?_eq_some_iff.1 h.inn).1]; exact h.inn, h.bel.trans (hb.mono h.bel.size), h.tab.below hb (Nat.le_refl _), Nat.lt_of_lt_of_le h.sz hb.size⟩
theorem As.grown {w : World} {q : Nat} {R : List Nat} {v : Value} {LV : Array Value} {u u' : World} (h : As w q R v LV u) (hT : Tabs w) (hwq : w.heap.size + 1 < q) (hb : Below (q + 1) u u') : As w q R v LV u' := by
  obtain ⟨cs, hc, hr⟩ := h.res
  have hb' : Below w.heap.size w u' := h.bel.trans (hb.mono (by omega))
  exact ⟨by rw [hb.block q (by omega)]; exact h.lv, ⟨cs, hc, by rw [hb.block _ (by omega)]; exact hr⟩, by rw [hb.block _ (by omega)]; exact h.inn, hb', hT.below hb' (Nat.le_refl _), Nat.lt_of_lt_of_le h.sz hb.size⟩
theorem As.put {w : World} {q : Nat} {R : List Nat} {v : Value} {LV : Array Value} {u : World} (h : As w q R v LV u) (hT : Tabs w) (hwq : w.heap.size + 1 < q) (v' : Value) : As w q R v' LV (u.setCell ⟨q, 0, none⟩ v') := by
  obtain ⟨cs, hc, hr⟩ := h.res
  have hb' := h.bel.setCell (p := ⟨q, 0, none⟩) (show w.heap.size ≤ q by omega) v'
  refine ⟨?_, ⟨cs, hc, by rw [heap_setCell_other _ _ _ _ (by show w.heap.size + 1 ≠ q; omega)]; exact hr⟩, by rw [heap_setCell_other _ _ _ _ (by show w.heap.size ≠ q; omega)]; exact h.inn, hb', hT.below hb' (Nat.le_refl _), by simpa using h.sz⟩
  rw [heap_setCell_same u q 0 _ _ _ h.lv, show (lvC v R).setIfInBounds 0 v' = lvC v' R from by unfold lvC; rw [Array.setIfInBounds_append_left (by simp)]; rfl]

set_option maxHeartbeats 2000000 in
set_option maxRecDepth 100000 in
theorem above_any (v0 : Value) (F : List (List Nat)) (r : List Nat) (hF : ∀ f ∈ F, f.length = 32) (hFb : ∀ f ∈ F, ∀ x ∈ f, x < 256) (hr : r.length = 32) (hrb : ∀ x ∈ r, x < 256) (hFl : F.length ≤ 100000) (w : World) (hT : Tabs w) (hS : Sums w v0 F) :
    Calls Tryd.prog 17 #[.agg (lvC v0 r)] w fun e w' => ∃ v, e = .returned (.agg (lvC v (Tx.hn r r))) ∧ OwnU w' w.heap.size v (Tx.up F r) ∧ Below w.heap.size w w' := by
  have HSM := hid hS
  have HT := hid hT
  have HAT := hid (fun i hi wx hx => at_any v0 F r hF hr (by omega) i hi wx hx)
  have HGL := hid (show ∀ i, (F.getD i r).length = 32 ∧ ∀ x ∈ F.getD i r, x < 256 from fun i => by
    by_cases h : i < F.length
    · have : F.getD i r ∈ F := by simp [List.getD_eq_getElem?_getD, h]
      exact ⟨hF _ this, hFb _ this⟩
    · rw [show F.getD i r = r from by simp [List.getD_eq_getElem?_getD, List.getElem?_eq_none (show F.length ≤ i by omega)]]
      exact ⟨hr, hrb⟩)
  have HNR := hid (fun wx => node_any r r hr hr wx)
  have HOR := hid (fun wx hx => of_one (Tx.node r r) (Tx.node_lt r r hrb hrb) (by simp [Tx.node]; omega) wx hx 9)
  rw [show Sx.digest (Tx.node r r) = Tx.hn r r from rfl] at HOR
  have hll : (lvC v0 r).size = 33 := lvC_size v0 r hr
  have hrl := Tx.hn_length r r
  generalize hRE : Tx.hn r r = R at *
  have HRE := hid hRE
  clear hT hS hF hFb hrb hRE
  obtain ⟨a0, c0, hv0, _⟩ := HSM.out
  generalize hLV : lvC v0 r = LV at *
  have HLV := hid hLV
  have hsr : (ints .u8 r).size = 32 := by rw [ints_size, hr]
  clear hLV hr
  go_enter Tryd.func17, Tryd.ntmps17
  go_upto_region 1 with (fail)
  generalize hw1 : (w.alloc _).alloc _ = w1
  have HI := hid (show w1.heap[w.heap.size]? = some (.cells LV 53 (0, 0)) from by rw [← hw1]; exact heap_alloc2_old _ _ _)
  have HZ := hid (show w1.heap[w.heap.size + 1]? = some (.cells (lvC (.slice none 0 0) (List.replicate 32 0)) 53 (0, 0)) from by rw [← hw1, heap_alloc2_new]; rfl)
  have HB1 := hid (show Below w.heap.size w w1 from by rw [← hw1]; exact ((Below.refl _ _).alloc (Nat.le_refl _) _).alloc (by simp) _)
  clear hw1
  have HRS := hid (show w1.rangeAt w.heap.size 1 (ints .u8 r).toList from by have h := HI.out; rw [← HLV.out] at h; exact lvC_rest h)
  go_wp2_with (refine wpList_load_mid rfl _ _ rfl w.heap.size 1 rfl _ _ HRS.out Tryd.underlying27 rfl (by rw [Array.length_toList, hsr]; exact info27) ?_; rw [Array.toArray_toList])
  refine (HNR.out _).mono ?_
  rintro e w2 ⟨rfl, hb2⟩
  have HB2 := hid hb2
  clear hb2 HNR HRS
  go_wp2_with fail
  refine (HOR.out _ (HT.out.below (HB1.out.trans (HB2.out.mono HB1.out.size)) (Nat.le_refl _))).mono ?_
  rintro e w3 ⟨rfl, hb3⟩
  have HB3 := hid hb3
  clear hb3 HOR
  have HRL := hid (run_lv · R hrl)
  have hls := lvC_size (.slice none 0 0) R hrl
  go_upto_region 3 with (first
    | (refine wpList_build rfl _ _ rfl #[(1, .agg (ints .u8 R))] (by simp only [List.map_toArray, List.map_cons, List.map_nil]; rfl) (lvC (.slice none 0 0) R) (HRL.out _) ?_)
    | (refine wpList_store_row rfl _ _ _ rfl w3.heap.size _ rfl rfl _ _ (heap_alloc_new _ _) (by rw [hls]; exact info51) (by rw [hls]; rfl) (lvC_one _ rfl _) ?_))
  generalize hw4 : (w3.alloc _).setRow _ _ = w4
  have hz1 := (Array.getElem?_eq_some_iff.1 HZ.out).1
  have hwq : w.heap.size + 1 < w3.heap.size := Nat.lt_of_lt_of_le (Nat.lt_of_lt_of_le hz1 HB2.out.size) HB3.out.size
  have HS3 := hid (show As w w3.heap.size R (.slice none 0 0) LV w4 from by
    have hb4 : Below w3.heap.size w3 w4 := by rw [← hw4]; exact below_setRow ((Below.refl _ _).alloc (Nat.le_refl _) _) (Nat.le_refl _) _
    have hb23 : Below w1.heap.size w1 w3 := HB2.out.trans (HB3.out.mono HB2.out.size)
    have hbw : Below w.heap.size w w3 := HB1.out.trans (hb23.mono HB1.out.size)
    have hbz := hbw.trans (hb4.mono hbw.size)
    refine ⟨?_, ?_, ?_, hbz, HT.out.below hbz (Nat.le_refl _), ?_⟩
    · rw [← hw4]; exact setRow_heap _ _ _ _ _ _ (heap_alloc_new _ _)
    · exact ⟨_, lvC_size (.slice none 0 0) (List.replicate 32 0) (by simp), by rw [hb4.block _ hwq, hb23.block _ hz1]; exact HZ.out⟩
    · rw [hb4.block _ (by omega), hb23.block _ (by omega)]; exact HI.out
    · exact Nat.lt_of_lt_of_le (Nat.lt_succ_self _) (by rw [← hw4]; simp))
  clear hw4 HZ HB1 HB2 HB3 HRL hls HI hz1
  generalize w3.heap.size = qb at *
  go_loopw [4] (fun i wr => ∃ k : Nat, k ≤ (F.length + 1) / 2 ∧ i = .int .i64 (2 * (k : Int)) ∧ ∃ v, As w qb R v LV wr ∧ OwnU wr (qb + 1) v (Tx.upN F r k))
    (fun i _ => F.length + 1 - (intOf i).toNat)
  case atStart => exact ⟨0, by omega, rfl, _, HS3.out, OwnU.nil _ _⟩
  case round =>
    clear HS3
    obtain ⟨k, hk, rfl, v, hS, hO⟩ := hrel
    have HO := hid hO
    clear hO
    have hin := hS.inn
    rw [← HLV.out] at hin
    have hcf := lvC_first hin
    rw [hv0] at hcf
    clear hin
    by_cases hlt : 2 * k < F.length
    · have HA1 := hid (fun wx hx => HAT.out (2 * k) (by omega) wx hx)
      have HA2 := hid (fun wx hx => HAT.out (2 * k + 1) (by omega) wx hx)
      have g1 := HGL.out (2 * k)
      have g2 := HGL.out (2 * k + 1)
      have HND := hid (fun wx => node_any (F.getD (2 * k) r) (F.getD (2 * k + 1) r) g1.1 g2.1 wx)
      have HOF := hid (fun wx hx => of_one (Tx.node (F.getD (2 * k) r) (F.getD (2 * k + 1) r)) (Tx.node_lt _ _ g1.2 g2.2) (by rw [Tx.node, List.length_cons, List.length_append, g1.1, g2.1]; omega) wx hx 9)
      rw [show Sx.digest (Tx.node (F.getD (2 * k) r) (F.getD (2 * k + 1) r)) = Tx.hn (F.getD (2 * k) r) (F.getD (2 * k + 1) r) from rfl] at HOF
      have HTS := hid (Tx.upN_succ F r k)
      have hul := Tx.upN_length F r k
      have hfl := Tx.hn_length (F.getD (2 * k) r) (F.getD (2 * k + 1) r)
      clear g1 g2
      generalize Tx.hn (F.getD (2 * k) r) (F.getD (2 * k + 1) r) = f at *
      generalize str (Tx.node (F.getD (2 * k) r) (F.getD (2 * k + 1) r)) = SL at *
      generalize F.getD (2 * k) r = x1 at *
      generalize F.getD (2 * k + 1) r = x2 at *
      have HS := hid hS
      clear hS
      have g1 : 2 * (k : Int) < F.length := by omega
      go_upto_region 5 with (fail)
      clear hcf
      have hw7 : IntKind.i64.wrap (2 * (k : Int) + 1) = 2 * (k : Int) + 1 := by simp [IntKind.wrap, IntKind.bits, IntKind.signed]; omega
      have hS1 : As w qb R v LV wr.drew := HS.out.keep ((Below.refl _ _).drew)
      have i51 : (Tryd.prog.info? 53).map (·.size) = some LV.toList.length := by rw [Array.length_toList, hll]; exact info51
      refine wp_region_noPanic ?_
      refine wp_region_L 15 (As w qb R v LV) (by kernel_rfl) 16 rfl (fun hcl0 => ?_)
      refine wpAnyL_take (i := 0) (oi := ?oi2) (v := .pointer (some ⟨qb, 0, none⟩)) ?hi2 (by kernel_rfl) (by kernel_rfl) (by kernel_rfl) (by kernel_rfl) hcl0 (fun _ _ _ h => h) ?hy2 hS1 (fun hcl1 => ?_)
      case hi2 => simp only [List.getElem?_toArray, List.getElem?_cons_zero]; rfl
      case hy2 => exact Or.inl ⟨rfl, fun _ hSw => rfl⟩
      simp only [Act.put, List.setIfInBounds_toArray, List.set_cons_zero, List.set_cons_succ]
      refine wpAnyL_take (i := 1) (oi := ?oi3) (v := v) ?hi3 (by kernel_rfl) (by kernel_rfl) (by kernel_rfl) (by kernel_rfl) hcl1 (fun _ _ _ h => h) ?hy3 hS1 (fun hcl2 => ?_)
      case hi3 => simp only [List.getElem?_toArray, List.getElem?_cons_succ, List.getElem?_cons_zero]; rfl
      case hy3 => exact Or.inl ⟨rfl, fun _ hSw => by have hc := lvC_first hSw.lv; go_simp⟩
      simp only [Act.put, List.setIfInBounds_toArray, List.set_cons_zero, List.set_cons_succ]
      refine wpAnyL_take (i := 2) (oi := ?oi4) (v := .agg LV.toList.toArray) ?hi4 (by kernel_rfl) (by kernel_rfl) (by kernel_rfl) (by kernel_rfl) hcl2 (fun _ _ _ h => h) ?hy4 hS1 (fun hcl3 => ?_)
      case hi4 => simp only [List.getElem?_toArray, List.getElem?_cons_succ, List.getElem?_cons_zero]; rfl
      case hy4 => 
        refine yieldsIf_load_mid ?w4 _ ?x4 ?o4 w.heap.size 0 ?e4 LV.toList _ ?s4 Tryd.underlying53 rfl i51
        case o4 => rfl
        case w4 => rfl
        case e4 => rfl
        case s4 => intro _ hSw; exact range_row hSw.inn
      simp only [Act.put, List.setIfInBounds_toArray, List.set_cons_zero, List.set_cons_succ, Array.toArray_toList]
      refine wpAnyL_take (i := 3) (oi := ?oi5) (v := .int .i64 (2 * (k : Int))) ?hi5 (by kernel_rfl) (by kernel_rfl) (by kernel_rfl) (by kernel_rfl) hcl3 (fun _ _ _ h => h) ?hy5 hS1 (fun hcl4 => ?_)
      case hi5 => simp only [List.getElem?_toArray, List.getElem?_cons_succ, List.getElem?_cons_zero]; rfl
      case hy5 => exact Or.inl ⟨rfl, fun _ hSw => rfl⟩
      simp only [Act.put, List.setIfInBounds_toArray, List.set_cons_zero, List.set_cons_succ]
      refine wpAnyL_take (i := 5) (oi := ?oi6) (v := .agg LV.toList.toArray) ?hi6 (by kernel_rfl) (by kernel_rfl) (by kernel_rfl) (by kernel_rfl) hcl4 (fun _ _ _ h => h) ?hy6 hS1 (fun hcl5 => ?_)
      case hi6 => simp only [List.getElem?_toArray, List.getElem?_cons_succ, List.getElem?_cons_zero]; rfl
      case hy6 => 
        refine yieldsIf_load_mid ?w6 _ ?x6 ?o6 w.heap.size 0 ?e6 LV.toList _ ?s6 Tryd.underlying53 rfl i51
        case o6 => rfl
        case w6 => rfl
        case e6 => rfl
        case s6 => intro _ hSw; exact range_row hSw.inn
      simp only [Act.put, List.setIfInBounds_toArray, List.set_cons_zero, List.set_cons_succ, Array.toArray_toList]
      refine wpAnyL_take (i := 6) (oi := ?oi7) (v := .int .i64 (2 * (k : Int))) ?hi7 (by kernel_rfl) (by kernel_rfl) (by kernel_rfl) (by kernel_rfl) hcl5 (fun _ _ _ h => h) ?hy7 hS1 (fun hcl6 => ?_)
      case hi7 => simp only [List.getElem?_toArray, List.getElem?_cons_succ, List.getElem?_cons_zero]; rfl
      case hy7 => exact Or.inl ⟨rfl, fun _ hSw => rfl⟩
      simp only [Act.put, List.setIfInBounds_toArray, List.set_cons_zero, List.set_cons_succ]
      refine wpAnyL_take (i := 7) (oi := ?oi8) (v := .int .i64 (2 * (k : Int) + 1)) ?hi8 (by kernel_rfl) (by kernel_rfl) (by kernel_rfl) (by kernel_rfl) hcl6 (fun _ _ _ h => h) ?hy8 hS1 (fun hcl7 => ?_)
      case hi8 => simp only [List.getElem?_toArray, List.getElem?_cons_succ, List.getElem?_cons_zero]; rfl
      case hy8 => exact Or.inl ⟨rfl, fun _ hSw => by go_simp⟩
      simp only [Act.put, List.setIfInBounds_toArray, List.set_cons_zero, List.set_cons_succ]
      clear hcl0 hcl1 hcl2 hcl3 hcl4 hcl5 hcl6 hcl7
      rw [show (2 * (k : Int)) = ((2 * k : Nat) : Int) from by omega, show (((2 * k : Nat) : Int) + 1) = ((2 * k + 1 : Nat) : Int) from by omega]
      refine wpAnyL_one (i := 4) (o := ?oi9) (by kernel_rfl) ?hi9 ?hw9 ?step9
      case hi9 => simp only [List.getElem?_toArray, List.getElem?_cons_succ, List.getElem?_cons_zero]; rfl
      case hw9 => rfl
      intro K hK
      go_simp
      refine (HA1.out _ ((HSM.out.below hS1.bel))).mono ?_
      rintro e w5 ⟨rfl, hb5⟩
      have hS2 := hS1.keep hb5
      refine hK.out _ _ (fun _ => hS2) ?_
      clear hK K
      try simp only [Act.put, List.setIfInBounds_toArray, List.set_cons_zero, List.set_cons_succ]
      refine wpAnyL_one (i := 8) (o := ?oi10) (by kernel_rfl) ?hi10 ?hw10 ?step10
      case hi10 => simp only [List.getElem?_toArray, List.getElem?_cons_succ, List.getElem?_cons_zero]; rfl
      case hw10 => rfl
      intro K hK
      go_simp
      refine (HA2.out _ ((HSM.out.below hS2.bel))).mono ?_
      rintro e w6 ⟨rfl, hb6⟩
      have hS3 := hS2.keep hb6
      refine hK.out _ _ (fun _ => hS3) ?_
      clear hK K
      try simp only [Act.put, List.setIfInBounds_toArray, List.set_cons_zero, List.set_cons_succ]
      refine wpAnyL_one (i := 9) (o := ?oi11) (by kernel_rfl) ?hi11 ?hw11 ?step11
      case hi11 => simp only [List.getElem?_toArray, List.getElem?_cons_succ, List.getElem?_cons_zero]; rfl
      case hw11 => rfl
      intro K hK
      go_simp
      refine (HND.out _).mono ?_
      rintro e w7 ⟨rfl, hb7⟩
      have hS4 := hS3.keep hb7
      refine hK.out _ _ (fun _ => hS4) ?_
      clear hK K
      try simp only [Act.put, List.setIfInBounds_toArray, List.set_cons_zero, List.set_cons_succ]
      refine wpAnyL_one (i := 10) (o := ?oi12) (by kernel_rfl) ?hi12 ?hw12 ?step12
      case hi12 => simp only [List.getElem?_toArray, List.getElem?_cons_succ, List.getElem?_cons_zero]; rfl
      case hw12 => rfl
      intro K hK
      go_simp
      refine hK.out _ _ (fun _ => hS4.keep ((Below.refl _ _).alloc (Nat.le_refl _) _)) ?_
      clear hK K
      try simp only [Act.put, List.setIfInBounds_toArray, List.set_cons_zero, List.set_cons_succ]
      refine wpAnyL_one (i := 11) (o := ?oi13) (by kernel_rfl) ?hi13 ?hw13 ?step13
      case hi13 => simp only [List.getElem?_toArray, List.getElem?_cons_succ, List.getElem?_cons_zero]; rfl
      case hw13 => rfl
      intro K hK
      go_simp
      refine (HOF.out w7 hS4.tab).mono ?_
      rintro e w8 ⟨rfl, hb8⟩
      have hS5 := hS4.keep hb8
      refine hK.out _ _ (fun _ => hS5) ?_
      clear hK K
      try simp only [Act.put, List.setIfInBounds_toArray, List.set_cons_zero, List.set_cons_succ]
      refine wpAnyL_one (i := 12) (o := ?oi14) (by kernel_rfl) ?hi14 ?hw14 ?step14
      case hi14 => simp only [List.getElem?_toArray, List.getElem?_cons_succ, List.getElem?_cons_zero]; rfl
      case hw14 => rfl
      intro K hK
      refine wp_mkU _ rfl f hfl rfl ?_
      have hS6 := hS5.keep ((Below.refl w8.heap.size w8).alloc (Nat.le_refl _) (.cells (ints .u8 f) 27))
      refine hK.out _ _ (fun _ => hS6) ?_
      clear hK K
      try simp only [Act.put, List.setIfInBounds_toArray, List.set_cons_zero, List.set_cons_succ]
      refine wpAnyL_one (i := 13) (o := ?oi15) (by kernel_rfl) ?hi15 ?hw15 ?step15
      case hi15 => simp only [List.getElem?_toArray, List.getElem?_cons_succ, List.getElem?_cons_zero]; rfl
      case hw15 => rfl
      intro K hK
      have hbx : Below wr.heap.size wr (w8.alloc (.cells (ints .u8 f) 27)) := by
        have h1 : Below wr.heap.size wr w5 := (Below.refl _ _).drew.trans hb5
        have h2 := ((h1.next (Nat.le_refl _) hb6).next (Nat.le_refl _) hb7).next (Nat.le_refl _) hb8
        exact h2.alloc h2.size _
      refine wp_appU _ _ rfl (qb + 1) v _ rfl (HO.out.below hbx) ⟨w8.heap.size, 0, none⟩ 1 f hfl rfl (fun j u hj => ?_) (by rw [hul]; omega) (Nat.le_trans HS.out.sz hbx.size) ?_
      · rw [Addr.add_mid, Nat.zero_add, cell_of_row _ _ _ _ _ _ (heap_alloc_new _ _)]; simpa using hj
      intro v' w9 ho9 hb9 _
      rw [HTS.out] at ho9
      have hS7 := hS6.grown HT.out hwq hb9
      refine hK.out _ _ (fun _ => hS7) ?_
      clear hK K
      try simp only [Act.put, List.setIfInBounds_toArray, List.set_cons_zero, List.set_cons_succ]
      refine wpAnyL_one (i := 14) (o := ?oi16) (by kernel_rfl) ?hi16 ?hw16 ?step16
      case hi16 => simp only [List.getElem?_toArray, List.getElem?_cons_succ, List.getElem?_cons_zero]; rfl
      case hw16 => rfl
      intro K hK
      go_simp
      refine hK.out _ _ (fun _ => hS7) ?_
      clear hK K
      try simp only [Act.put, List.setIfInBounds_toArray, List.set_cons_zero, List.set_cons_succ]
      obtain ⟨ao9, c9, hv9, _⟩ := ho9.sums
      generalize (Tx.upN F r (k + 1)).length = n9 at hv9
      subst hv9
      refine wpAnyL_one (i := 15) (o := ?oi17) (by kernel_rfl) ?hi17 ?hw17 ?step17
      case hi17 => simp only [List.getElem?_toArray, List.getElem?_cons_succ, List.getElem?_cons_zero]; rfl
      case hw17 => rfl
      intro K hK
      have hfz := frozen_of_row w9 qb 0 _ _ hS7.lv
      have hcz := lvC_first hS7.lv
      go_simp
      refine hK.out _ _ (fun h => absurd rfl h) ?_
      clear hK K
      refine wpAnyL_done (by kernel_rfl) ?_ _
      refine NoPanic.normal ?_
      have HP := hid (hS7.put HT.out hwq (.slice ao9 n9 c9))
      have HOX := hid (show OwnU (w9.setCell ⟨qb, 0, none⟩ (.slice ao9 n9 c9)) (qb + 1) (.slice ao9 n9 c9) (Tx.upN F r (k + 1)) from by
        obtain ⟨o1, o2, o3 | ⟨g, c, cur, hv, hg, hh, rr⟩⟩ := ho9
        · exact ⟨o1, o2, Or.inl o3⟩
        · exact ⟨o1, o2, Or.inr ⟨g, c, cur, hv, hg, by rw [heap_setCell_other _ _ _ _ (by show g ≠ qb; omega)]; exact hh, rr⟩⟩)
      clear hS1 hS2 hS3 hS4 hS5 hS6 hS7 ho9 hb9 hb5 hb6 hb7 hb8 hbx hfz hcz
      go_wp2
      exact ⟨⟨k + 1, by omega, congrArg (Value.int .i64) (by omega), _, HP.out, HOX.out⟩, by simp only [intOf]; omega⟩
    · obtain rfl : k = (F.length + 1) / 2 := by omega
      rw [show Tx.upN F r ((F.length + 1) / 2) = Tx.up F r from rfl] at HO
      have HS := hid hS
      have hls : (lvC v R).size = 33 := lvC_size v R hrl
      have hone : v.oneCell' = true := by obtain ⟨a1, c1, h1, _⟩ := HO.out.sums; rw [h1]; rfl
      obtain ⟨cs, hcs, hres⟩ := hS.res
      have HR := hid hres
      clear hS hres
      have g1 : ¬ 2 * (((F.length + 1) / 2 : Nat) : Int) < F.length := by omega
      generalize (F.length + 1) / 2 = kk at *
      go_wp2_with (first
        | (refine wpList_load_row rfl _ _ rfl qb rfl _ _ _ _ HS.out.lv Tryd.underlying53 rfl (by rw [hls]; exact info51) ?_)
        | (refine wpList_store_row rfl _ _ _ rfl (w.heap.size + 1) _ rfl rfl _ _ HR.out (by rw [hls]; exact info51) (by rw [hls, hcs]) (lvC_one _ hone _) ?_))
      refine bodyPost_ret (v := .agg (lvC v R))
        (results_cell_row Tryd.results17 _ _ (w.heap.size + 1) _ _ _ _ rfl (setRow_heap wr (w.heap.size + 1) _ _ _ _ HR.out) Tryd.underlying53 rfl (by rw [hls]; exact info51))
        rfl ?_
      refine ⟨v, rfl, ?_, below_setRow HS.out.bel (by omega) _⟩
      obtain ⟨o1, o2, o3 | ⟨g, c, cur, hv, hg, hh, rr⟩⟩ := HO.out
      · exact ⟨o1, o2, Or.inl o3⟩
      · exact ⟨o1, o2, Or.inr ⟨g, c, cur, hv, by omega, by rw [setRow_other _ _ _ _ (by omega)]; exact hh, rr⟩⟩
end Go.Proofs.YtnhecallffkedabDoor
