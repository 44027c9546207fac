/-
  For every two sums: mac.Equal says whether they are alike, and each equals itself (law MacEqual); without conditions.
-/
import Derived.Test.YtnhebfafiikilaaDoorMacOf
namespace Go.Proofs.YtnhebfafiikilaaDoor
open Go.ChangeShapes Go.WideShapes Go.ChangeAt Go.RowKit
open Go.Lib (hid)

def jefe : List Nat := [74, 101, 102, 101]
def whatDo : List Nat := [119, 104, 97, 116, 32, 100, 111, 32, 121, 97, 32, 119, 97, 110, 116, 32, 102, 111, 114, 32, 110, 111, 116, 104, 105, 110, 103, 63]
def jefeHex : List Nat := [53, 98, 100, 99, 99, 49, 52, 54, 98, 102, 54, 48, 55, 53, 52, 101, 54, 97, 48, 52, 50, 52, 50, 54, 48, 56, 57, 53, 55, 53, 99, 55, 53, 97, 48, 48, 51, 102, 48, 56, 57, 100, 50, 55, 51, 57, 56, 51, 57, 100, 101, 99, 53, 56, 98, 57, 54, 52, 101, 99, 51, 56, 52, 51]
set_option maxRecDepth 100000 in
theorem jefe_hex : Sx.hexL (Sx.hmac jefe whatDo) = jefeHex := by decide +kernel

theorem hmac_lt (k t : List Nat) : ∀ x ∈ Sx.hmac k t, x < 256 := digest_lt _
theorem hmac_length (k t : List Nat) : (Sx.hmac k t).length = 32 := digest_length _

/-- mac.Of at a slice of its own of one text. -/
theorem mac_one (k x : List Nat) (hk : ∀ y ∈ k, y < 256) (hkl : k.length ≤ 1000000) (hx : ∀ y ∈ x, y < 256) (hl : x.length ≤ 1000000) (w : World) (hT : Tabs w) (t : TypeId) :
    Calls Tryd.prog 26 #[.string (str k), .slice (some ⟨w.heap.size, 0, none⟩) 1 1] (w.alloc (.cells #[.string (str x)] t)) fun e w' => e = .returned (.agg (ints .u8 (Sx.hmac k x))) ∧ Below (w.alloc (.cells #[.string (str x)] t)).heap.size (w.alloc (.cells #[.string (str x)] t)) w' := by
  have h := mac_any k hk hkl [x] (some ⟨w.heap.size, 0, none⟩) 1 (by simpa using hx) (w.alloc (.cells #[.string (str x)] t)) (hT.below ((Below.refl _ _).alloc (Nat.le_refl _) _) (Nat.le_refl _)) (strs_one w x t) (by simp; omega) (by simp)
  simp only [List.flatten_cons, List.flatten_nil, List.append_nil] at h
  exact h

set_option maxHeartbeats 1000000 in
theorem awake2_any (w : World) (hT : Tabs w) :
    Calls Tryd.prog 25 #[] w fun e w' => e = .returned (.bool true) ∧ Below w.heap.size w w' := by
  have HM := hid (mac_one jefe whatDo (by decide) (by decide) (by decide) (by decide) w hT 9)
  have hhx : (str (Sx.hexL (Sx.hmac jefe whatDo))).toList = [53, 98, 100, 99, 99, 49, 52, 54, 98, 102, 54, 48, 55, 53, 52, 101, 54, 97, 48, 52, 50, 52, 50, 54, 48, 56, 57, 53, 55, 53, 99, 55, 53, 97, 48, 48, 51, 102, 48, 56, 57, 100, 50, 55, 51, 57, 56, 51, 57, 100, 101, 99, 53, 56, 98, 57, 54, 52, 101, 99, 51, 56, 52, 51] := by
    rw [str_toList, jefe_hex]; rfl
  have HL := hid (hmac_length jefe whatDo)
  have HB := hid (hmac_lt jefe whatDo)
  generalize Sx.hmac jefe whatDo = D at *
  have HT := hid hT
  clear hT
  go_enter Tryd.func25, Tryd.ntmps25
  go_wp2_with fail
  refine HM.out.mono ?_
  rintro e w1 ⟨rfl, hb1⟩
  go_wp2_with fail
  refine (hex_any D HL.out (getD_lt (by omega) HB.out) _).mono ?_
  rintro e w2 ⟨rfl, hb2⟩
  go_wp2_with fail
  go_ret
  exact ⟨rfl, (((Below.refl _ _).alloc (Nat.le_refl _) _).next (Nat.le_refl _) hb1).next (Nat.le_refl _) hb2⟩

namespace MacEqual
theorem keep {b c B : Nat} {l r : List Value} {u w w' : World} (h : w.rangeAt b 0 l ∧ w.rangeAt c 0 r ∧ Below B u w ∧ b < w.heap.size ∧ c < w.heap.size ∧ B ≤ w.heap.size) (hb : Below w.heap.size w w') :
    w'.rangeAt b 0 l ∧ w'.rangeAt c 0 r ∧ Below B u w' ∧ b < w'.heap.size ∧ c < w'.heap.size ∧ B ≤ w'.heap.size := by
  obtain ⟨h1, h2, h3, h5, h6, h7⟩ := h
  have := hb.size
  exact ⟨rangeAt_below h1 hb h5, rangeAt_below h2 hb h6, h3.trans (hb.mono (by omega)), by omega, by omega, by omega⟩

set_option maxHeartbeats 2000000 in
theorem walk (a b : List Nat) (hal : a.length = 32) (ha : ∀ x ∈ a, x < 256) (hbl : b.length = 32) (hb : ∀ x ∈ b, x < 256) (w : World) (hT : Tabs w) :
    Calls Tryd.prog 11 #[.agg (ints .u8 a), .agg (ints .u8 b)] w fun e w' => e = .returned (.bool true) ∧ Below w.heap.size w w' := by
  have hs1 : (ints .u8 a).size = 32 := by rw [ints_size, hal]
  have hs2 : (ints .u8 b).size = 32 := by rw [ints_size, hbl]
  have HA := hid ha
  have HB := hid hb
  have HT := hid hT
  clear ha hb hT
  have heq := fun wx => eql_sums wx a b HA.out HB.out hal hbl
  go_enter Tryd.func11, Tryd.ntmps11
  go_upto_region 1 with (fail)
  have ra : Row ((w.alloc (.cells (ints .u8 a) 26)).alloc (.cells (ints .u8 b) 26)) w.heap.size .u8 26 a := heap_alloc2_old _ _ _
  have rb : Row ((w.alloc (.cells (ints .u8 a) 26)).alloc (.cells (ints .u8 b) 26)) (w.heap.size + 1) .u8 26 b := heap_alloc2_new _ _ _
  have hb0 : Below w.heap.size w ((w.alloc (.cells (ints .u8 a) 26)).alloc (.cells (ints .u8 b) 26)) := ((Below.refl _ _).alloc (Nat.le_refl _) _).alloc (by simp) _
  generalize (w.alloc _).alloc _ = w0 at *
  have HR0 := hid (show w0.rangeAt w.heap.size 0 (ints .u8 a).toList ∧ w0.rangeAt (w.heap.size + 1) 0 (ints .u8 b).toList ∧ Below w.heap.size w w0 ∧ w.heap.size < w0.heap.size ∧ w.heap.size + 1 < w0.heap.size ∧ w.heap.size ≤ w0.heap.size from ⟨ra.range, rb.range, hb0, ra.lt, rb.lt, by have := ra.lt; omega⟩)
  have HB0 := hid hb0
  clear ra rb hb0
  go_wp2_with fail
  refine (awake2_any _ (HT.out.below HB0.out (Nat.le_refl _))).mono ?_
  rintro e w1 ⟨rfl, hb1⟩
  have HR1 := hid (keep HR0.out hb1)
  clear hb1 HR0
  go_upto_region 3 with (fail)
  have hu26 := Tryd.underlying26
  have hi1 : (Tryd.prog.info? 26).map (·.size) = some (ints .u8 a).toList.length := by rw [ints_llen, hal]; exact info26
  have hi2 : (Tryd.prog.info? 26).map (·.size) = some (ints .u8 b).toList.length := by rw [ints_llen, hbl]; exact info26
  have hee : ((a == b) == (a == b)) = true := beq_self_eq_true _
  have haa : (a == a) = true := beq_self_eq_true _
  have hbb : (b == b) = true := beq_self_eq_true _
  have HAA := hid haa
  have HBB := hid hbb
  clear haa hbb
  refine wp_region_noPanic ?_
  refine wp_region_held_drew (S := fun w' => w'.rangeAt w.heap.size 0 (ints .u8 a).toList ∧ w'.rangeAt (w.heap.size + 1) 0 (ints .u8 b).toList ∧ Below w.heap.size w w' ∧ w.heap.size < w'.heap.size ∧ w.heap.size + 1 < w'.heap.size ∧ w.heap.size ≤ w'.heap.size) (by kernel_rfl) (keep HR1.out ((Below.refl _ _).drew)) (fun hS1 => ?_)
  change wpAnyH _ _ _ _ _ 18 _ _ _
  refine wpAnyH_take (i := 0) (oi := ?oi2) (v := .agg (ints .u8 a).toList.toArray) ?hi2 (by kernel_rfl) (by kernel_rfl) (by kernel_rfl) (fun _ _ _ h => h) ?hy2 hS1 ?rest2
  case hi2 => simp only [List.getElem?_toArray, List.getElem?_cons_zero]; rfl
  case hy2 => 
    refine yieldsIf_load_mid ?w2 _ ?x2 ?o2 w.heap.size 0 ?e2 (ints .u8 a).toList _ ?s2 hu26 rfl hi1
    case o2 => rfl
    case w2 => rfl
    case e2 => rfl
    case s2 => intro _ hSw; exact hSw.1
  simp only [Act.put, List.setIfInBounds_toArray, List.set_cons_zero, List.set_cons_succ, Array.toArray_toList]
  refine wpAnyH_take (i := 1) (oi := ?oi3) (v := .agg (ints .u8 b).toList.toArray) ?hi3 (by kernel_rfl) (by kernel_rfl) (by kernel_rfl) (fun _ _ _ h => h) ?hy3 hS1 ?rest3
  case hi3 => simp only [List.getElem?_toArray, List.getElem?_cons_succ, List.getElem?_cons_zero]; rfl
  case hy3 => 
    refine yieldsIf_load_mid ?w3 _ ?x3 ?o3 (w.heap.size + 1) 0 ?e3 (ints .u8 b).toList _ ?s3 hu26 rfl hi2
    case o3 => rfl
    case w3 => rfl
    case e3 => rfl
    case s3 => intro _ hSw; exact hSw.2.1
  simp only [Act.put, List.setIfInBounds_toArray, List.set_cons_zero, List.set_cons_succ, Array.toArray_toList]
  refine wpAnyH_take (i := 3) (oi := ?oi4) (v := .agg (ints .u8 a).toList.toArray) ?hi4 (by kernel_rfl) (by kernel_rfl) (by kernel_rfl) (fun _ _ _ h => h) ?hy4 hS1 ?rest4
  case hi4 => simp only [List.getElem?_toArray, List.getElem?_cons_succ, List.getElem?_cons_zero]; rfl
  case hy4 => 
    refine yieldsIf_load_mid ?w4 _ ?x4 ?o4 w.heap.size 0 ?e4 (ints .u8 a).toList _ ?s4 hu26 rfl hi1
    case o4 => rfl
    case w4 => rfl
    case e4 => rfl
    case s4 => intro _ hSw; exact hSw.1
  simp only [Act.put, List.setIfInBounds_toArray, List.set_cons_zero, List.set_cons_succ, Array.toArray_toList]
  refine wpAnyH_take (i := 4) (oi := ?oi5) (v := .agg (ints .u8 b).toList.toArray) ?hi5 (by kernel_rfl) (by kernel_rfl) (by kernel_rfl) (fun _ _ _ h => h) ?hy5 hS1 ?rest5
  case hi5 => simp only [List.getElem?_toArray, List.getElem?_cons_succ, List.getElem?_cons_zero]; rfl
  case hy5 => 
    refine yieldsIf_load_mid ?w5 _ ?x5 ?o5 (w.heap.size + 1) 0 ?e5 (ints .u8 b).toList _ ?s5 hu26 rfl hi2
    case o5 => rfl
    case w5 => rfl
    case e5 => rfl
    case s5 => intro _ hSw; exact hSw.2.1
  simp only [Act.put, List.setIfInBounds_toArray, List.set_cons_zero, List.set_cons_succ, Array.toArray_toList]
  refine wpAnyH_take (i := 5) (oi := ?oi6) (v := .bool (a == b)) ?hi6 (by kernel_rfl) (by kernel_rfl) (by kernel_rfl) (fun _ _ _ h => h) ?hy6 hS1 ?rest6
  case hi6 => simp only [List.getElem?_toArray, List.getElem?_cons_succ, List.getElem?_cons_zero]; rfl
  case hy6 => exact Or.inl ⟨rfl, fun _ hSw => by go_simp⟩
  simp only [Act.put, List.setIfInBounds_toArray, List.set_cons_zero, List.set_cons_succ]
  refine wpAnyH_ready (rs := [2]) (by kernel_rfl) (by simp) ?_
  refine AllReadyH.cons (o := ?oi7) ?hi7 ?step7 AllReadyH.nil
  case hi7 => simp only [List.getElem?_toArray, List.getElem?_cons_succ, List.getElem?_cons_zero]; rfl
  intro K hK
  go_simp
  refine (equal_any a b hal hbl HA.out HB.out _).mono ?_
  rintro e w2 ⟨rfl, hb2⟩
  refine hK.out _ _ (keep hS1 hb2) (fun hS2 => ?_)
  clear hK K
  try simp only [Act.put, List.setIfInBounds_toArray, List.set_cons_zero, List.set_cons_succ]
  refine wpAnyH_take (i := 6) (oi := ?oi8) (v := .bool true) ?hi8 (by kernel_rfl) (by kernel_rfl) (by kernel_rfl) (fun _ _ _ h => h) ?hy8 hS2 ?rest8
  case hi8 => simp only [List.getElem?_toArray, List.getElem?_cons_succ, List.getElem?_cons_zero]; rfl
  case hy8 => exact Or.inl ⟨rfl, fun _ hSw => by go_simp⟩
  simp only [Act.put, List.setIfInBounds_toArray, List.set_cons_zero, List.set_cons_succ]
  refine wpAnyH_take (i := 7) (oi := ?oi9) (v := .bool true) ?hi9 (by kernel_rfl) (by kernel_rfl) (by kernel_rfl) (fun _ _ _ h => h) ?hy9 hS2 ?rest9
  case hi9 => simp only [List.getElem?_toArray, List.getElem?_cons_succ, List.getElem?_cons_zero]; rfl
  case hy9 => exact Or.inl ⟨rfl, fun _ hSw => rfl⟩
  simp only [Act.put, List.setIfInBounds_toArray, List.set_cons_zero, List.set_cons_succ]
  refine wpAnyH_take (i := 8) (oi := ?oi10) (v := .agg (ints .u8 a).toList.toArray) ?hi10 (by kernel_rfl) (by kernel_rfl) (by kernel_rfl) (fun _ _ _ h => h) ?hy10 hS2 ?rest10
  case hi10 => simp only [List.getElem?_toArray, List.getElem?_cons_succ, List.getElem?_cons_zero]; rfl
  case hy10 => 
    refine yieldsIf_load_mid ?w10 _ ?x10 ?o10 w.heap.size 0 ?e10 (ints .u8 a).toList _ ?s10 hu26 rfl hi1
    case o10 => rfl
    case w10 => rfl
    case e10 => rfl
    case s10 => intro _ hSw; exact hSw.1
  simp only [Act.put, List.setIfInBounds_toArray, List.set_cons_zero, List.set_cons_succ, Array.toArray_toList]
  refine wpAnyH_take (i := 9) (oi := ?oi11) (v := .agg (ints .u8 a).toList.toArray) ?hi11 (by kernel_rfl) (by kernel_rfl) (by kernel_rfl) (fun _ _ _ h => h) ?hy11 hS2 ?rest11
  case hi11 => simp only [List.getElem?_toArray, List.getElem?_cons_succ, List.getElem?_cons_zero]; rfl
  case hy11 => 
    refine yieldsIf_load_mid ?w11 _ ?x11 ?o11 w.heap.size 0 ?e11 (ints .u8 a).toList _ ?s11 hu26 rfl hi1
    case o11 => rfl
    case w11 => rfl
    case e11 => rfl
    case s11 => intro _ hSw; exact hSw.1
  simp only [Act.put, List.setIfInBounds_toArray, List.set_cons_zero, List.set_cons_succ, Array.toArray_toList]
  refine wpAnyH_ready (rs := [10]) (by kernel_rfl) (by simp) ?_
  refine AllReadyH.cons (o := ?oi12) ?hi12 ?step12 AllReadyH.nil
  case hi12 => simp only [List.getElem?_toArray, List.getElem?_cons_succ, List.getElem?_cons_zero]; rfl
  intro K hK
  go_simp
  refine (equal_any a a hal hal HA.out HA.out _).mono ?_
  rintro e w3 ⟨rfl, hb3⟩
  refine hK.out _ _ (keep hS2 hb3) (fun hS3 => ?_)
  clear hK K
  try simp only [Act.put, List.setIfInBounds_toArray, List.set_cons_zero, List.set_cons_succ]
  rw [HAA.out]
  refine wpAnyH_take (i := 11) (oi := ?oi13) (v := .bool true) ?hi13 (by kernel_rfl) (by kernel_rfl) (by kernel_rfl) (fun _ _ _ h => h) ?hy13 hS3 ?rest13
  case hi13 => simp only [List.getElem?_toArray, List.getElem?_cons_succ, List.getElem?_cons_zero]; rfl
  case hy13 => exact Or.inl ⟨rfl, fun _ hSw => by go_simp⟩
  simp only [Act.put, List.setIfInBounds_toArray, List.set_cons_zero, List.set_cons_succ]
  refine wpAnyH_take (i := 12) (oi := ?oi14) (v := .bool true) ?hi14 (by kernel_rfl) (by kernel_rfl) (by kernel_rfl) (fun _ _ _ h => h) ?hy14 hS3 ?rest14
  case hi14 => simp only [List.getElem?_toArray, List.getElem?_cons_succ, List.getElem?_cons_zero]; rfl
  case hy14 => exact Or.inl ⟨rfl, fun _ hSw => rfl⟩
  simp only [Act.put, List.setIfInBounds_toArray, List.set_cons_zero, List.set_cons_succ]
  refine wpAnyH_take (i := 13) (oi := ?oi15) (v := .agg (ints .u8 b).toList.toArray) ?hi15 (by kernel_rfl) (by kernel_rfl) (by kernel_rfl) (fun _ _ _ h => h) ?hy15 hS3 ?rest15
  case hi15 => simp only [List.getElem?_toArray, List.getElem?_cons_succ, List.getElem?_cons_zero]; rfl
  case hy15 => 
    refine yieldsIf_load_mid ?w15 _ ?x15 ?o15 (w.heap.size + 1) 0 ?e15 (ints .u8 b).toList _ ?s15 hu26 rfl hi2
    case o15 => rfl
    case w15 => rfl
    case e15 => rfl
    case s15 => intro _ hSw; exact hSw.2.1
  simp only [Act.put, List.setIfInBounds_toArray, List.set_cons_zero, List.set_cons_succ, Array.toArray_toList]
  refine wpAnyH_take (i := 14) (oi := ?oi16) (v := .agg (ints .u8 b).toList.toArray) ?hi16 (by kernel_rfl) (by kernel_rfl) (by kernel_rfl) (fun _ _ _ h => h) ?hy16 hS3 ?rest16
  case hi16 => simp only [List.getElem?_toArray, List.getElem?_cons_succ, List.getElem?_cons_zero]; rfl
  case hy16 => 
    refine yieldsIf_load_mid ?w16 _ ?x16 ?o16 (w.heap.size + 1) 0 ?e16 (ints .u8 b).toList _ ?s16 hu26 rfl hi2
    case o16 => rfl
    case w16 => rfl
    case e16 => rfl
    case s16 => intro _ hSw; exact hSw.2.1
  simp only [Act.put, List.setIfInBounds_toArray, List.set_cons_zero, List.set_cons_succ, Array.toArray_toList]
  refine wpAnyH_ready (rs := [15]) (by kernel_rfl) (by simp) ?_
  refine AllReadyH.cons (o := ?oi17) ?hi17 ?step17 AllReadyH.nil
  case hi17 => simp only [List.getElem?_toArray, List.getElem?_cons_succ, List.getElem?_cons_zero]; rfl
  intro K hK
  go_simp
  refine (equal_any b b hbl hbl HB.out HB.out _).mono ?_
  rintro e w4 ⟨rfl, hb4⟩
  refine hK.out _ _ (keep hS3 hb4) (fun hS4 => ?_)
  clear hK K
  try simp only [Act.put, List.setIfInBounds_toArray, List.set_cons_zero, List.set_cons_succ]
  rw [HBB.out]
  refine wpAnyH_take (i := 16) (oi := ?oi18) (v := .bool true) ?hi18 (by kernel_rfl) (by kernel_rfl) (by kernel_rfl) (fun _ _ _ h => h) ?hy18 hS4 ?rest18
  case hi18 => simp only [List.getElem?_toArray, List.getElem?_cons_succ, List.getElem?_cons_zero]; rfl
  case hy18 => exact Or.inl ⟨rfl, fun _ hSw => by go_simp⟩
  simp only [Act.put, List.setIfInBounds_toArray, List.set_cons_zero, List.set_cons_succ]
  refine wpAnyH_take (i := 17) (oi := ?oi19) (v := .bool true) ?hi19 (by kernel_rfl) (by kernel_rfl) (by kernel_rfl) (fun _ _ _ h => h) ?hy19 hS4 ?rest19
  case hi19 => simp only [List.getElem?_toArray, List.getElem?_cons_succ, List.getElem?_cons_zero]; rfl
  case hy19 => exact Or.inl ⟨rfl, fun _ hSw => rfl⟩
  simp only [Act.put, List.setIfInBounds_toArray, List.set_cons_zero, List.set_cons_succ]
  refine wpAnyH_done (by kernel_rfl) ?_ _
  refine NoPanic.normal ?_
  go_wp2
  go_ret
  exact ⟨rfl, hS4.2.2.1⟩


theorem contract (H : Type) (enc : TypeId × Value → H) (W : World) (base : Nat) (args : Array Value) (ds gs : List (DataW H)) (before : List MemPlace)
    (hval : ∀ (j : Nat) t v, Tryd.f11.params[j]? = some t → args[j]? = some v → Value.okWide Tryd.prog W .any base t v)
    (hW : DataW.Whole enc Tryd.prog Tryd.f11.params.toList Rows.macEqualSpec.vars false W args.toList ds gs before) (hL : laidMetH Tryd.prog Rows.macEqualRow.laid W) :
    Calls Tryd.prog 11 args W fun e W' => ∃ v, e = .returned v ∧ Rows.macEqualSpec.post enc Tryd.prog Tryd.f11 false true false false W args v W' := by
  have hW' := hW
  obtain ⟨p, q, hA0, hV, rfl, hfz, hnd⟩ := hW
  have hA : DataW.TrodAll enc Tryd.prog W 0 (fun _ => true) true Tryd.f11.params.toList args.toList ds p := hA0
  rw [Tryd.params11] at hA hval
  obtain ⟨v0, vs0, d0, ds0, p0, q0, hargs, rfl, rfl, h0, r0⟩ := trodAll_cons hA
  obtain ⟨v1, vs1, d1, ds1, p1, q1, rfl, rfl, rfl, h1, r1⟩ := trodAll_cons r0
  obtain ⟨rfl, rfl, rfl⟩ := trodAll_nil r1
  obtain rfl : args = #[v0, v1] := by cases args; simp_all
  obtain ⟨xs0, rfl, hl0, hx0⟩ := open_sum (hval 0 26 v0 rfl rfl) h0
  obtain ⟨xs1, rfl, hl1, hx1⟩ := open_sum (hval 1 26 v1 rfl rfl) h1
  refine (walk xs0 xs1 hl0 hx0 hl1 hx1 W (tabs_of hL)).mono fun e W' ⟨he, hb⟩ => ?_
  subst he
  exact ⟨_, rfl, law_post rfl rfl (by rw [Tryd.params11]; decide +kernel) hW' rfl hb⟩

theorem laid_met (os : Os) : laidMet Tryd.prog Rows.macEqualRow.laid ((laidWorld os).forCall (fun _ _ => 0) ⟨#[], #[.agg (ints .u8 (List.replicate 32 0)), .agg (ints .u8 (List.replicate 32 0))], []⟩).memory :=
  laidMet_of_run' 8 (by kernel_rfl) (by kernel_rfl)
theorem reads (os : Os) {H : Type} (enc : TypeId × Value → H) : ∃ places, DataW.whole enc Tryd.prog ((laidWorld os).forCall (fun _ _ => 0) ⟨#[], #[.agg (ints .u8 (List.replicate 32 0)), .agg (ints .u8 (List.replicate 32 0))], []⟩).memory Tryd.f11.params.toList Rows.macEqualSpec.vars false (#[.agg (ints .u8 (List.replicate 32 0)), .agg (ints .u8 (List.replicate 32 0))] : Array Value).toList 8
    = some ([.agg (List.replicate 32 (.lit (.int .u8 0))), .agg (List.replicate 32 (.lit (.int .u8 0)))], [], places) :=
  ⟨[], by kernel_rfl⟩

set_option maxRecDepth 100000 in
theorem lifted (os : Os) (started : os.Started) (H : Type) (enc : TypeId × Value → H) (F : Stop.Interp) :
    ReturnsInHanded {} Tryd.checked os 11 .any ((OpenSpec.ofChange Rows.macEqualSpec).preRow enc Tryd.prog Tryd.f11 Rows.macEqualRow.domain false Rows.macEqualRow.laid) (((OpenSpec.ofChange Rows.macEqualSpec).at F).post enc Tryd.prog Tryd.f11 false true false false) := by
  obtain ⟨places, hx⟩ := reads os enc
  refine returnsInHanded_of_row (C := Tryd.checked) (s := OpenSpec.ofChange Rows.macEqualSpec) own started (by kernel_rfl) Tryd.func11
    (witness_row_at (enc := enc) (C := Tryd.checked) false (laidWorld os) #[.agg (ints .u8 (List.replicate 32 0)), .agg (ints .u8 (List.replicate 32 0))] rfl (by kernel_rfl) (by kernel_rfl) (by kernel_rfl)
      (OpenSpec.preRow_of_cond 8 hx (by kernel_rfl) (fun k hk => by cases hk) (by kernel_rfl) (laid_met os))) ?_
  intro W base args ds gs before hval hW _ _ _ hL _ _
  exact contract H enc W base args ds gs before hval hW hL

theorem said : Rows.MacEqualSaid :=
  OpenClaim.holds_of_cond 11 Tryd.f11 rfl rfl rfl rfl rfl rfl rfl ⟨rfl, rfl, rfl, rfl, rfl⟩ rfl rfl rfl rfl rfl (by kernel_rfl) Tryd.func11 (by kernel_rfl)
    (of_decide_eq_true (by kernel_rfl)) (by unfold Func.isWrapper; first | (rw [if_pos (by decide +kernel)]; kernel_rfl) | (rw [if_neg (by decide +kernel)]; exact ⟨rfl, rfl⟩))
    (fun os started H enc _ F => by rw [OpenClaim.pre_eq_preRow]; exact lifted os started H enc F)

theorem plain (f : FuncId) (fn : Func) (hf : Tryd.pinned.checked.prog.funcNamed "sealwax/sealwaxlaw02.MacEqual" = some f) (hfn : Tryd.pinned.checked.prog.funcs[f]? = some fn) :
    false = Tryd.pinned.checked.prog.looks [] ∧ ∀ (j : Nat) t, fn.params[j]? = some t → Tryd.pinned.checked.prog.wantsStandIn t = false := by
  obtain rfl : f = 11 := Option.some.inj ((show Tryd.prog.funcNamed "sealwax/sealwaxlaw02.MacEqual" = some 11 by kernel_rfl).symm.trans hf) |>.symm
  obtain rfl : fn = Tryd.f11 := (Option.some.inj (Tryd.func11.symm.trans hfn)).symm
  refine ⟨by kernel_rfl, fun j t ht => ?_⟩
  rw [Tryd.params11] at ht
  have hmem := Array.mem_of_getElem? ht
  exact (show ∀ t ∈ (Tryd.f11.params), Tryd.prog.wantsStandIn t = false from by rw [Tryd.params11]; decide +kernel) t (by rw [Tryd.params11]; exact hmem)

theorem card : Rows.MacEqualCardSaid :=
  Claim7.holds_tied_plain_at .later [] _ _ _ _ said (fun _ h => by cases h) (by kernel_rfl) (fun _ h => by cases h) macEqual_row_tie rfl ⟨rfl, rfl⟩ (by kernel_rfl) rfl plain (by kernel_rfl)

end MacEqual
theorem macEqual_card : Rows.MacEqualCardSaid := MacEqual.card
end Go.Proofs.YtnhebfafiikilaaDoor
