/-
  For every case: what holds is just what the document says (law TreeHolds); without conditions.
-/
import Derived.Test.YtabhdjahdhhgiaaDoorRef7a
import Derived.Test.YtabhdjahdhhgiaaDoorLTreeClash
namespace Go.Proofs.YtabhdjahdhhgiaaDoor
open Go.ChangeShapes Go.WideShapes Go.ChangeAt Go.RowKit
open Go.Lib (hid)

theorem open_case2 {H : Type} {enc : TypeId × Value → H} {W : World} {r : Reach} {b0 : Nat} {v : Value} {d : DataW H} {p : List MemPlace}
    (hv : Value.okWide Tryd.prog W r b0 39 v) (h : DataW.Trod enc Tryd.prog W 0 (fun _ => true) true 39 v d p) :
    ∃ (cd : Int) (ao : Option Addr) (L : List ByteArray) (cap : Nat) (ci : Int) (t : ByteArray) (sp : Int), v = .agg (csC cd (.slice ao L.length cap) ci t sp) ∧ StrsB W ao L ∧ (L.length ≤ maxLen ∧ ∀ s ∈ L, s.size ≤ maxLen) ∧ t.size ≤ maxLen ∧ ci ≤ 9223372036854775807 := by
  unfold Value.okWide at hv
  rw [Tryd.underlying39] at hv
  obtain ⟨cs, rfl, hsz, hfs⟩ := hv
  obtain ⟨fuel, hf⟩ := h
  obtain ⟨xs, n, _, _, hl, hlen, hx⟩ := DataW.trod_struct Tryd.underlying39 hf
  have hcs : cs.size = 5 := by rw [hsz]; kernel_rfl
  obtain ⟨l⟩ := cs
  match l, hcs with
  | [c0, c1, c2, c3, c4], _ =>
    match xs, hlen with
    | [y0, y1, y2, y3, y4], _ =>
      have h0 := hx 0 _ rfl
      have h1 := hx 1 _ rfl
      have h2 := hx 2 _ rfl
      have h3 := hx 3 _ rfl
      have h4 := hx 4 _ rfl
      change DataW.trod enc Tryd.prog W 0 (fun _ => true) true n 3 [c0] = some y0 at h0
      change DataW.trod enc Tryd.prog W 0 (fun _ => true) true n 22 [c1] = some y1 at h1
      change DataW.trod enc Tryd.prog W 0 (fun _ => true) true n 3 [c2] = some y2 at h2
      change DataW.trod enc Tryd.prog W 0 (fun _ => true) true n 9 [c3] = some y3 at h3
      change DataW.trod enc Tryd.prog W 0 (fun _ => true) true n 3 [c4] = some y4 at h4
      obtain ⟨z0, e0, _, _⟩ := DataW.trod_int Tryd.underlying3 h0
      obtain ⟨ao, L, cap, e1, hS, hL1, hL2⟩ := open_strs1 h1
      obtain ⟨z2, e2, _, wz2⟩ := DataW.trod_int Tryd.underlying3 h2
      obtain ⟨s3, e3, _, w3⟩ := DataW.trod_string Tryd.underlying9 h3
      obtain ⟨z4, e4, _, _⟩ := DataW.trod_int Tryd.underlying3 h4
      simp only [List.cons.injEq, and_true] at e0 e2 e3 e4
      subst e0 e1 e2 e3 e4
      exact ⟨z0, ao, L, cap, z2, s3, z4, rfl, hS, ⟨hL1, hL2⟩, w3, by have := bounds_i64 wz2; omega⟩


/-- While it is asked what holds: the case, the root at q, the sums. -/
structure Ls (w : World) (CA : Array Value) (q : Nat) (R : List Nat) (v : Value) (S : List (List Nat)) (u : World) : Prop where
  ina : u.heap[w.heap.size]? = some (.cells CA 39 (0, 0))
  ro : Row u q .u8 27 R
  sums : Sums u v S
  tab : Tabs u
  bel : Below w.heap.size w u
theorem Ls.keep {w : World} {CA : Array Value} {q : Nat} {R : List Nat} {v : Value} {S : List (List Nat)} {u u' : World} (h : Ls w CA q R v S u) (hb : Below u.heap.size u u') : Ls w CA q R v S u' :=
  ⟨by rw [hb.block _ (Array.getElem?_eq_some_iff.1 h.ina).1]; exact h.ina, h.ro.below hb h.ro.lt, h.sums.below hb, h.tab.below hb (Nat.le_refl _), h.bel.trans (hb.mono h.bel.size)⟩

namespace TreeHolds
set_option maxHeartbeats 4000000 in
set_option maxRecDepth 100000 in
theorem walk (ad : Int) (ao : Option Addr) (LA : List ByteArray) (ac : Nat) (ai : Int) (at' : ByteArray) (asp : Int) (w : World) (hT : Tabs w) (hA : StrsB w ao LA) (hLA : LA.length ≤ maxLen ∧ ∀ s ∈ LA, s.size ≤ maxLen) (hta : at'.size ≤ maxLen) (hai : ai ≤ 9223372036854775807) :
    Calls Tryd.prog 4 #[.agg (csC ad (.slice ao LA.length ac) ai at' asp)] w fun e w' => e = .returned (.bool true) ∧ Below w.heap.size w w' := by
  obtain ⟨da, hda⟩ := depth_of ad
  have HSHA := hid (fun wx hx hy => lshow_any ad ao LA ac ai at' asp wx hx hy hLA.1 hLA.2 da hda)
  have HCA := hid (fun wx => cut_any at' 20 wx hta (by omega))
  have hsl := cut_le' at' 20
  have hsb := cut_lt' at' 20
  generalize (nums at').take 20 = s at *
  have hfa : (few LA 20 20).length ≤ 20 := by rw [few_length]; omega
  have ga := Tx.sumAt_good da (few LA 20 20) (by omega) da 0
  rw [show Tx.sumAt da (few LA 20 20) da 0 = Tx.root da (few LA 20 20) from rfl] at ga
  have HGA := Tx.spoilt_good _ asp (Tx.showL_good da ai (few LA 20 20) (by omega))
  have hla : (Tx.spoilt (Tx.showL da ai (few LA 20 20)) asp).length ≤ 5 := by rw [Tx.spoilt_length]; have := Tx.showL_length da ai (few LA 20 20); omega
  generalize Tx.spoilt (Tx.showL da ai (few LA 20 20)) asp = SA at *
  generalize Tx.root da (few LA 20 20) = RA at *
  have sza : (ints .u8 RA).size = 32 := by rw [ints_size, ga.1]
  have HH1 := hid (fun ao1 ca1 wx hx hy => holds_any RA ga.1 ga.2 ai s hsb (by omega) SA (fun f hf => (HGA f hf).1) (fun f hf => (HGA f hf).2) (by omega) ao1 ca1 wx hx hy)
  have HRH := hid (fun ao1 ca1 wx hx => refHolds_any RA ga.2 ai hai s hsb (by omega) SA (fun f hf => (HGA f hf).1) (fun f hf => (HGA f hf).2) (by omega) ao1 ca1 wx hx)
  have HTX := hid (fun wx => text_any RA ga.1 wx)
  have HTS := hid (fun v wx hx => texts_any SA (fun f hf => (HGA f hf).1) (by omega) v wx hx)
  have HT := hid hT
  have HA := hid hA
  have z1 := csC_size ad (.slice ao LA.length ac) ai at' asp
  have HCC1 := hid (fun (u : World) (h : u.heap[w.heap.size]? = some (.cells (csC ad (.slice ao LA.length ac) ai at' asp) 39 (0, 0))) => cs_cells h)
  clear hT hA hLA hta hda HGA hfa ga hsl hsb
  generalize csC ad (.slice ao LA.length ac) ai at' asp = CA at *
  generalize Tx.holds RA ai s SA = b at *
  go_enter Tryd.func4, Tryd.ntmps4
  go_upto_region 1 with (fail)
  generalize hw0 : w.alloc _ = w0
  have K0 := hid (show w0.heap[w.heap.size]? = some (.cells CA 39 (0, 0)) ∧ Below w.heap.size w w0 from by
    rw [← hw0]; exact ⟨heap_alloc_new _ _, (Below.refl _ _).alloc (Nat.le_refl _) _⟩)
  clear hw0
  go_wp2_with fail
  refine (tawake_any _ (HT.out.below K0.out.2 (Nat.le_refl _))).mono ?_
  rintro e w1 ⟨rfl, hb1⟩
  have K1 := hid (show w1.heap[w.heap.size]? = some (.cells CA 39 (0, 0)) ∧ Below w.heap.size w w1 from
    ⟨by rw [hb1.block _ (Array.getElem?_eq_some_iff.1 K0.out.1).1]; exact K0.out.1, K0.out.2.trans (hb1.mono K0.out.2.size)⟩)
  clear hb1 K0
  have ct := (HCC1.out _ K1.out.1).2
  go_wp2_with fail
  refine (HCA.out _).mono ?_
  rintro e w2 ⟨rfl, hw2⟩
  rw [← hw2]
  clear hw2 w2 ct HCA
  go_wp2_with (refine wpList_load_row rfl _ _ rfl w.heap.size rfl _ _ _ _ K1.out.1 Tryd.underlying39 rfl (by rw [z1]; exact info39) ?_)
  refine (HSHA.out _ (HT.out.below K1.out.2 (Nat.le_refl _)) (HA.out.below K1.out.2)).mono ?_
  rintro e w4 ⟨⟨v4, rfl, ho4⟩, hb4⟩
  have K4 := hid (show w4.heap[w.heap.size]? = some (.cells CA 39 (0, 0)) ∧ Below w.heap.size w w4 from
    ⟨by rw [hb4.block _ (Array.getElem?_eq_some_iff.1 K1.out.1).1]; exact K1.out.1, K1.out.2.trans (hb4.mono K1.out.2.size)⟩)
  have O4 := hid ho4
  clear hb4 ho4 K1 HSHA HA
  go_upto_region 5 with (refine wpList_store_row rfl _ _ _ rfl w4.heap.size _ rfl rfl _ _ (heap_alloc_new _ _) (by rw [sza]; exact info27) (by rw [sza]; rfl) (ints_one _ _) ?_)
  generalize hw5 : (w4.alloc _).setRow _ _ = w5
  have hb5 : Below w4.heap.size w4 w5 := by rw [← hw5]; exact below_setRow ((Below.refl _ _).alloc (Nat.le_refl _) _) (Nat.le_refl _) _
  obtain ⟨ao1, ca1, rfl, hsa⟩ := (O4.out.below hb5).sums
  have C5 := hid (show Ls w CA w4.heap.size RA (.slice ao1 SA.length ca1) SA w5 from by
    have hbw := K4.out.2.trans (hb5.mono K4.out.2.size)
    refine ⟨by rw [hb5.block _ (Array.getElem?_eq_some_iff.1 K4.out.1).1]; exact K4.out.1, ?_, ⟨ao1, ca1, rfl, hsa⟩, HT.out.below hbw (Nat.le_refl _), hbw⟩
    rw [← hw5]; exact setRow_heap _ _ _ _ _ _ (heap_alloc_new _ _))
  clear hw5 hb5 K4 O4 hsa
  generalize w4.heap.size = q at *
  have ia : (Tryd.prog.info? 27).map (·.size) = some (ints .u8 RA).toList.length := by rw [Array.length_toList, sza]; exact info27
  refine wp_region_noPanic ?_
  refine wp_region_held_drew (S := Ls w CA q RA (.slice ao1 SA.length ca1) SA) (by kernel_rfl) (C5.out.keep ((Below.refl _ _).drew)) (fun hS1 => ?_)
  change wpAnyH _ _ _ _ _ 16 _ _ _
  refine wpAnyH_take (i := 0) (oi := ?oi2) (v := .agg (ints .u8 RA).toList.toArray) ?hi2 (by kernel_rfl) (by kernel_rfl) (by kernel_rfl) (fun _ _ _ h => h) ?hy2 hS1 ?rest2
  case hi2 => simp only [List.getElem?_toArray, List.getElem?_cons_zero]; rfl
  case hy2 => 
    refine yieldsIf_load_mid ?w2 _ ?x2 ?o2 q 0 ?e2 (ints .u8 RA).toList _ ?s2 Tryd.underlying27 rfl ia
    case o2 => rfl
    case w2 => rfl
    case e2 => rfl
    case s2 => intro _ hSw; exact range_row hSw.ro
  simp only [Act.put, List.setIfInBounds_toArray, List.set_cons_zero, List.set_cons_succ, Array.toArray_toList]
  refine wpAnyH_take (i := 1) (oi := ?oi3) (v := .pointer (some ⟨w.heap.size, 2, none⟩)) ?hi3 (by kernel_rfl) (by kernel_rfl) (by kernel_rfl) (fun _ _ _ h => h) ?hy3 hS1 ?rest3
  case hi3 => simp only [List.getElem?_toArray, List.getElem?_cons_succ, List.getElem?_cons_zero]; rfl
  case hy3 => exact Or.inl ⟨rfl, fun _ hSw => by go_simp⟩
  simp only [Act.put, List.setIfInBounds_toArray, List.set_cons_zero, List.set_cons_succ]
  refine wpAnyH_take (i := 2) (oi := ?oi4) (v := .int .i64 ai) ?hi4 (by kernel_rfl) (by kernel_rfl) (by kernel_rfl) (fun _ _ _ h => h) ?hy4 hS1 ?rest4
  case hi4 => simp only [List.getElem?_toArray, List.getElem?_cons_succ, List.getElem?_cons_zero]; rfl
  case hy4 => exact Or.inl ⟨rfl, fun _ hSw => by have hc := (HCC1.out _ hSw.ina).1; go_simp⟩
  simp only [Act.put, List.setIfInBounds_toArray, List.set_cons_zero, List.set_cons_succ]
  refine wpAnyH_take (i := 3) (oi := ?oi5) (v := .string (str s)) ?hi5 (by kernel_rfl) (by kernel_rfl) (by kernel_rfl) (fun _ _ _ h => h) ?hy5 hS1 ?rest5
  case hi5 => simp only [List.getElem?_toArray, List.getElem?_cons_succ, List.getElem?_cons_zero]; rfl
  case hy5 => exact Or.inl ⟨rfl, fun _ hSw => rfl⟩
  simp only [Act.put, List.setIfInBounds_toArray, List.set_cons_zero, List.set_cons_succ]
  refine wpAnyH_take (i := 4) (oi := ?oi6) (v := .slice ao1 SA.length ca1) ?hi6 (by kernel_rfl) (by kernel_rfl) (by kernel_rfl) (fun _ _ _ h => h) ?hy6 hS1 ?rest6
  case hi6 => simp only [List.getElem?_toArray, List.getElem?_cons_succ, List.getElem?_cons_zero]; rfl
  case hy6 => exact Or.inl ⟨rfl, fun _ hSw => rfl⟩
  simp only [Act.put, List.setIfInBounds_toArray, List.set_cons_zero, List.set_cons_succ]
  refine wpAnyH_take (i := 6) (oi := ?oi7) (v := .agg (ints .u8 RA).toList.toArray) ?hi7 (by kernel_rfl) (by kernel_rfl) (by kernel_rfl) (fun _ _ _ h => h) ?hy7 hS1 ?rest7
  case hi7 => simp only [List.getElem?_toArray, List.getElem?_cons_succ, List.getElem?_cons_zero]; rfl
  case hy7 => 
    refine yieldsIf_load_mid ?w7 _ ?x7 ?o7 q 0 ?e7 (ints .u8 RA).toList _ ?s7 Tryd.underlying27 rfl ia
    case o7 => rfl
    case w7 => rfl
    case e7 => rfl
    case s7 => intro _ hSw; exact range_row hSw.ro
  simp only [Act.put, List.setIfInBounds_toArray, List.set_cons_zero, List.set_cons_succ, Array.toArray_toList]
  refine wpAnyH_take (i := 8) (oi := ?oi8) (v := .pointer (some ⟨w.heap.size, 2, none⟩)) ?hi8 (by kernel_rfl) (by kernel_rfl) (by kernel_rfl) (fun _ _ _ h => h) ?hy8 hS1 ?rest8
  case hi8 => simp only [List.getElem?_toArray, List.getElem?_cons_succ, List.getElem?_cons_zero]; rfl
  case hy8 => exact Or.inl ⟨rfl, fun _ hSw => by go_simp⟩
  simp only [Act.put, List.setIfInBounds_toArray, List.set_cons_zero, List.set_cons_succ]
  refine wpAnyH_take (i := 9) (oi := ?oi9) (v := .int .i64 ai) ?hi9 (by kernel_rfl) (by kernel_rfl) (by kernel_rfl) (fun _ _ _ h => h) ?hy9 hS1 ?rest9
  case hi9 => simp only [List.getElem?_toArray, List.getElem?_cons_succ, List.getElem?_cons_zero]; rfl
  case hy9 => exact Or.inl ⟨rfl, fun _ hSw => by have hc := (HCC1.out _ hSw.ina).1; go_simp⟩
  simp only [Act.put, List.setIfInBounds_toArray, List.set_cons_zero, List.set_cons_succ]
  refine wpAnyH_take (i := 10) (oi := ?oi10) (v := .string (str s)) ?hi10 (by kernel_rfl) (by kernel_rfl) (by kernel_rfl) (fun _ _ _ h => h) ?hy10 hS1 ?rest10
  case hi10 => simp only [List.getElem?_toArray, List.getElem?_cons_succ, List.getElem?_cons_zero]; rfl
  case hy10 => exact Or.inl ⟨rfl, fun _ hSw => rfl⟩
  simp only [Act.put, List.setIfInBounds_toArray, List.set_cons_zero, List.set_cons_succ]
  refine wpAnyH_take (i := 11) (oi := ?oi11) (v := .slice ao1 SA.length ca1) ?hi11 (by kernel_rfl) (by kernel_rfl) (by kernel_rfl) (fun _ _ _ h => h) ?hy11 hS1 ?rest11
  case hi11 => simp only [List.getElem?_toArray, List.getElem?_cons_succ, List.getElem?_cons_zero]; rfl
  case hy11 => exact Or.inl ⟨rfl, fun _ hSw => rfl⟩
  simp only [Act.put, List.setIfInBounds_toArray, List.set_cons_zero, List.set_cons_succ]
  refine wpAnyH_ready (rs := [5]) (by kernel_rfl) (by simp) ?_
  refine AllReadyH.cons (o := ?oi12) ?hi12 ?step12 AllReadyH.nil
  case hi12 => simp only [List.getElem?_toArray, List.getElem?_cons_succ, List.getElem?_cons_zero]; rfl
  intro K hK
  go_simp
  refine (HH1.out _ _ _ hS1.tab hS1.sums).mono ?_
  rintro e w6 ⟨rfl, hb6⟩
  refine hK.out _ _ (hS1.keep hb6) (fun hS2 => ?_)
  clear hK K
  try simp only [Act.put, List.setIfInBounds_toArray, List.set_cons_zero, List.set_cons_succ]
  refine wpAnyH_ready (rs := [7]) (by kernel_rfl) (by simp) ?_
  refine AllReadyH.cons (o := ?oi13) ?hi13 ?step13 AllReadyH.nil
  case hi13 => simp only [List.getElem?_toArray, List.getElem?_cons_succ, List.getElem?_cons_zero]; rfl
  intro K hK
  go_simp
  refine (HTX.out _).mono ?_
  rintro e w7 ⟨rfl, hb7⟩
  refine hK.out _ _ (hS2.keep hb7) (fun hS3 => ?_)
  clear hK K
  try simp only [Act.put, List.setIfInBounds_toArray, List.set_cons_zero, List.set_cons_succ]
  refine wpAnyH_ready (rs := [12]) (by kernel_rfl) (by simp) ?_
  refine AllReadyH.cons (o := ?oi14) ?hi14 ?step14 AllReadyH.nil
  case hi14 => simp only [List.getElem?_toArray, List.getElem?_cons_succ, List.getElem?_cons_zero]; rfl
  intro K hK
  go_simp
  refine (HTS.out _ _ hS3.sums).mono ?_
  rintro e w8 ⟨v8, rfl, ho8, hb8⟩
  refine hK.out _ _ (hS3.keep hb8) (fun hS4 => ?_)
  clear hK K
  try simp only [Act.put, List.setIfInBounds_toArray, List.set_cons_zero, List.set_cons_succ]
  obtain ⟨ao2, ca2, rfl, hst⟩ := ho8.strs
  refine wpAnyH_ready (rs := [13]) (by kernel_rfl) (by simp) ?_
  refine AllReadyH.cons (o := ?oi15) ?hi15 ?step15 AllReadyH.nil
  case hi15 => simp only [List.getElem?_toArray, List.getElem?_cons_succ, List.getElem?_cons_zero]; rfl
  intro K hK
  go_simp
  refine (HRH.out _ _ _ hst).mono ?_
  rintro e w9 ⟨rfl, hb9⟩
  refine hK.out _ _ (hS4.keep hb9) (fun hS5 => ?_)
  clear hK K
  try simp only [Act.put, List.setIfInBounds_toArray, List.set_cons_zero, List.set_cons_succ]
  refine wpAnyH_take (i := 14) (oi := ?oi16) (v := .bool true) ?hi16 (by kernel_rfl) (by kernel_rfl) (by kernel_rfl) (fun _ _ _ h => h) ?hy16 hS5 ?rest16
  case hi16 => simp only [List.getElem?_toArray, List.getElem?_cons_succ, List.getElem?_cons_zero]; rfl
  case hy16 => exact Or.inl ⟨rfl, fun _ hSw => by go_simp⟩
  simp only [Act.put, List.setIfInBounds_toArray, List.set_cons_zero, List.set_cons_succ]
  refine wpAnyH_take (i := 15) (oi := ?oi17) (v := .bool true) ?hi17 (by kernel_rfl) (by kernel_rfl) (by kernel_rfl) (fun _ _ _ h => h) ?hy17 hS5 ?rest17
  case hi17 => simp only [List.getElem?_toArray, List.getElem?_cons_succ, List.getElem?_cons_zero]; rfl
  case hy17 => exact Or.inl ⟨rfl, fun _ hSw => rfl⟩
  simp only [Act.put, List.setIfInBounds_toArray, List.set_cons_zero, List.set_cons_succ]
  refine wpAnyH_done (by kernel_rfl) ?_ _
  refine NoPanic.normal ?_
  go_wp2
  go_ret
  exact ⟨rfl, hS5.bel⟩


set_option maxRecDepth 100000 in
theorem contract (H : Type) (enc : TypeId × Value → H) (W : World) (base : Nat) (args : Array Value) (ds gs : List (DataW H)) (before : List MemPlace)
    (hval : ∀ (j : Nat) t v, Tryd.f4.params[j]? = some t → args[j]? = some v → Value.okWide Tryd.prog W .any base t v)
    (hW : DataW.Whole enc Tryd.prog Tryd.f4.params.toList Rows.treeHoldsSpec.vars false W args.toList ds gs before) (hL : laidMetH Tryd.prog Rows.treeHoldsRow.laid W) :
    Calls Tryd.prog 4 args W fun e W' => ∃ v, e = .returned v ∧ Rows.treeHoldsSpec.post enc Tryd.prog Tryd.f4 false true false false W args v W' := by
  have hW' := hW
  obtain ⟨p, q, hA0, hV, rfl, hfz, hnd⟩ := hW
  have hA : DataW.TrodAll enc Tryd.prog W 0 (fun _ => true) true Tryd.f4.params.toList args.toList ds p := hA0
  rw [Tryd.params4] at hA hval
  obtain ⟨v0, vs0, d0, ds0, p0, q0, hargs, rfl, rfl, h0, r0⟩ := trodAll_cons hA
  obtain ⟨rfl, rfl, rfl⟩ := trodAll_nil r0
  obtain rfl : args = #[v0] := by cases args; simp_all
  obtain ⟨cd0, ao0, L0, cap0, ci0, ct0, sp0, rfl, hA0s, hb0, ht0, hi0⟩ := open_case2 (hval 0 39 v0 rfl rfl) h0
  refine (walk cd0 ao0 L0 cap0 ci0 ct0 sp0 W (tabs_of hL) hA0s hb0 ht0 hi0).mono fun e W' ⟨he, hb⟩ => ?_
  subst he
  exact ⟨_, rfl, law_post rfl rfl (by rw [Tryd.params4]; decide +kernel) hW' rfl hb⟩

theorem laid_met (os : Os) : laidMet Tryd.prog Rows.treeHoldsRow.laid ((laidWorld os).forCall (fun _ _ => 0) ⟨#[], #[.agg (csC 0 (.slice none 0 0) 0 ByteArray.empty 0)], []⟩).memory :=
  laidMet_of_run' 8 (by kernel_rfl) (by kernel_rfl)
theorem reads (os : Os) {H : Type} (enc : TypeId × Value → H) : ∃ places, DataW.whole enc Tryd.prog ((laidWorld os).forCall (fun _ _ => 0) ⟨#[], #[.agg (csC 0 (.slice none 0 0) 0 ByteArray.empty 0)], []⟩).memory Tryd.f4.params.toList Rows.treeHoldsSpec.vars false (#[.agg (csC 0 (.slice none 0 0) 0 ByteArray.empty 0)] : Array Value).toList 8
    = some ([.agg [.lit (.int .i64 0), .nil, .lit (.int .i64 0), .lit (.string []), .lit (.int .i64 0)]], [], places) :=
  ⟨[], by kernel_rfl⟩

set_option maxRecDepth 100000 in
theorem lifted (os : Os) (started : os.Started) (H : Type) (enc : TypeId × Value → H) (F : Stop.Interp) :
    ReturnsInHanded {} Tryd.checked os 4 .any ((OpenSpec.ofChange Rows.treeHoldsSpec).preRow enc Tryd.prog Tryd.f4 Rows.treeHoldsRow.domain false Rows.treeHoldsRow.laid) (((OpenSpec.ofChange Rows.treeHoldsSpec).at F).post enc Tryd.prog Tryd.f4 false true false false) := by
  obtain ⟨places, hx⟩ := reads os enc
  refine returnsInHanded_of_row (C := Tryd.checked) (s := OpenSpec.ofChange Rows.treeHoldsSpec) own started (by kernel_rfl) Tryd.func4
    (witness_row_at (enc := enc) (C := Tryd.checked) false (laidWorld os) #[.agg (csC 0 (.slice none 0 0) 0 ByteArray.empty 0)] rfl (by kernel_rfl) (by kernel_rfl) (by kernel_rfl)
      (OpenSpec.preRow_of_cond 8 hx (by kernel_rfl) (fun k hk => by cases hk) (by kernel_rfl) (laid_met os))) ?_
  intro W base args ds gs before hval hW _ _ _ hL _ _
  exact contract H enc W base args ds gs before hval hW hL

theorem said : Rows.TreeHoldsSaid :=
  OpenClaim.holds_of_cond 4 Tryd.f4 rfl rfl rfl rfl rfl rfl rfl ⟨rfl, rfl, rfl, rfl, rfl⟩ rfl rfl rfl rfl rfl (by kernel_rfl) Tryd.func4 (by kernel_rfl)
    (of_decide_eq_true (by kernel_rfl)) (by unfold Func.isWrapper; first | (rw [if_pos (by decide +kernel)]; kernel_rfl) | (rw [if_neg (by decide +kernel)]; exact ⟨rfl, rfl⟩))
    (fun os started H enc _ F => by rw [OpenClaim.pre_eq_preRow]; exact lifted os started H enc F)

theorem plain (f : FuncId) (fn : Func) (hf : Tryd.pinned.checked.prog.funcNamed "sealwax/sealwaxlaw07.TreeHolds" = some f) (hfn : Tryd.pinned.checked.prog.funcs[f]? = some fn) :
    false = Tryd.pinned.checked.prog.looks [] ∧ ∀ (j : Nat) t, fn.params[j]? = some t → Tryd.pinned.checked.prog.wantsStandIn t = false := by
  obtain rfl : f = 4 := Option.some.inj ((show Tryd.prog.funcNamed "sealwax/sealwaxlaw07.TreeHolds" = some 4 by kernel_rfl).symm.trans hf) |>.symm
  obtain rfl : fn = Tryd.f4 := (Option.some.inj (Tryd.func4.symm.trans hfn)).symm
  refine ⟨by kernel_rfl, fun j t ht => ?_⟩
  rw [Tryd.params4] at ht
  have hmem := Array.mem_of_getElem? ht
  exact (show ∀ t ∈ (Tryd.f4.params), Tryd.prog.wantsStandIn t = false from by rw [Tryd.params4]; decide +kernel) t (by rw [Tryd.params4]; exact hmem)

theorem card : Rows.TreeHoldsCardSaid :=
  Claim7.holds_tied_plain_at .later [] _ _ _ _ said (fun _ h => by cases h) (by kernel_rfl) (fun _ h => by cases h) treeHolds_row_tie rfl ⟨rfl, rfl⟩ (by kernel_rfl) rfl plain (by kernel_rfl)

end TreeHolds
theorem treeHolds_card : Rows.TreeHoldsCardSaid := TreeHolds.card
end Go.Proofs.YtabhdjahdhhgiaaDoor
