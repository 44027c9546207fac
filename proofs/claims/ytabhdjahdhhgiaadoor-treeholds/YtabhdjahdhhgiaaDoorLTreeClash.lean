/-
  For every two cases: of two texts that are shown at one place of one root either both are alike, or two texts of one sum are told (law TreeClash); without conditions.
-/
import Derived.Test.YtabhdjahdhhgiaaDoorLTreeShow
import Derived.Test.YtabhdjahdhhgiaaDoorTree13
namespace Go.Proofs.YtabhdjahdhhgiaaDoor
open Go.ChangeShapes Go.WideShapes Go.ChangeAt Go.RowKit
open Go.Lib (hid)

theorem info39 : (Tryd.prog.info? 39).map (·.size) = some 5 := by kernel_rfl
/-- Two cases in memory. -/
structure Ks (w : World) (CA CB : Array Value) (u : World) : Prop where
  ina : u.heap[w.heap.size]? = some (.cells CA 39 (0, 0))
  inb : u.heap[w.heap.size + 1]? = some (.cells CB 39 (0, 0))
  tab : Tabs u
  bel : Below w.heap.size w u
theorem Ks.keep {w : World} {CA CB : Array Value} {u u' : World} (h : Ks w CA CB u) (hb : Below u.heap.size u u') : Ks w CA CB u' :=
  ⟨by rw [hb.block _ (Array.getElem?_eq_some_iff.1 h.ina).1]; exact h.ina, by rw [hb.block _ (Array.getElem?_eq_some_iff.1 h.inb).1]; exact h.inb, h.tab.below hb (Nat.le_refl _), h.bel.trans (hb.mono h.bel.size)⟩
theorem cs_cells {u : World} {b : Nat} {d : Int} {l : Value} {i : Int} {t : ByteArray} {sp : Int} {ty : TypeId} {fr : Nat × Nat} (h : u.heap[b]? = some (.cells (csC d l i t sp) ty fr)) :
    u.cell? ⟨b, 2, none⟩ = some (.int .i64 i) ∧ u.cell? ⟨b, 3, none⟩ = some (.string t) := by
  refine ⟨?_, ?_⟩ <;> (rw [cell_of_row _ _ _ _ _ _ h]; rfl)
theorem csC_size (d : Int) (l : Value) (i : Int) (t : ByteArray) (sp : Int) : (csC d l i t sp).size = 5 := rfl
theorem depth_of (cd : Int) : ∃ d : Nat, (d : Int) = max 0 (min cd 5) := ⟨(max 0 (min cd 5)).toNat, by omega⟩

namespace TreeClash
set_option maxHeartbeats 4000000 in
set_option maxRecDepth 100000 in
theorem walk (ad : Int) (ao : Option Addr) (LA : List ByteArray) (ac : Nat) (ai : Int) (at' : ByteArray) (asp : Int) (bd : Int) (bo : Option Addr) (LB : List ByteArray) (bc : Nat) (bi : Int) (bt : ByteArray) (bsp : Int)
    (w : World) (hT : Tabs w) (hA : StrsB w ao LA) (hLA : LA.length ≤ maxLen ∧ ∀ s ∈ LA, s.size ≤ maxLen) (hta : at'.size ≤ maxLen) (hB : StrsB w bo LB) (hLB : LB.length ≤ maxLen ∧ ∀ s ∈ LB, s.size ≤ maxLen) (htb : bt.size ≤ maxLen) :
    Calls Tryd.prog 5 #[.agg (csC ad (.slice ao LA.length ac) ai at' asp), .agg (csC bd (.slice bo LB.length bc) bi bt bsp)] w fun e w' => e = .returned (.bool true) ∧ Below w.heap.size w w' := by
  obtain ⟨da, hda⟩ := depth_of ad
  obtain ⟨db, hdb⟩ := depth_of bd
  have HSHA := hid (fun wx hx hy => lshow_any ad ao LA ac ai at' asp wx hx hy hLA.1 hLA.2 da hda)
  have HSHB := hid (fun wx hx hy => lshow_any bd bo LB bc bi bt bsp wx hx hy hLB.1 hLB.2 db hdb)
  have HCA := hid (fun wx => cut_any at' 20 wx hta (by omega))
  have HCB := hid (fun wx => cut_any bt 20 wx htb (by omega))
  have hsl := cut_le' at' 20
  have hsb := cut_lt' at' 20
  have htl := cut_le' bt 20
  have htb' := cut_lt' bt 20
  generalize (nums at').take 20 = s at *
  generalize (nums bt).take 20 = t at *
  have hfa : (few LA 20 20).length ≤ 20 := by rw [few_length]; omega
  have hfb : (few LB 20 20).length ≤ 20 := by rw [few_length]; omega
  have ga := Tx.sumAt_good da (few LA 20 20) (by omega) da 0
  have gb := Tx.sumAt_good db (few LB 20 20) (by omega) db 0
  rw [show Tx.sumAt da (few LA 20 20) da 0 = Tx.root da (few LA 20 20) from rfl] at ga
  rw [show Tx.sumAt db (few LB 20 20) db 0 = Tx.root db (few LB 20 20) from rfl] at gb
  have HGA := Tx.spoilt_good _ asp (Tx.showL_good da ai (few LA 20 20) (by omega))
  have HGB := Tx.spoilt_good _ bsp (Tx.showL_good db bi (few LB 20 20) (by omega))
  have hla : (Tx.spoilt (Tx.showL da ai (few LA 20 20)) asp).length ≤ 5 := by rw [Tx.spoilt_length]; have := Tx.showL_length da ai (few LA 20 20); omega
  have hlb : (Tx.spoilt (Tx.showL db bi (few LB 20 20)) bsp).length ≤ 5 := by rw [Tx.spoilt_length]; have := Tx.showL_length db bi (few LB 20 20); omega
  generalize Tx.spoilt (Tx.showL da ai (few LA 20 20)) asp = SA at *
  generalize Tx.spoilt (Tx.showL db bi (few LB 20 20)) bsp = SB at *
  generalize Tx.root da (few LA 20 20) = RA at *
  generalize Tx.root db (few LB 20 20) = RB at *
  have sza : (ints .u8 RA).size = 32 := by rw [ints_size, ga.1]
  have szb : (ints .u8 RB).size = 32 := by rw [ints_size, gb.1]
  have HCL := hid (fun ao1 ca1 bo1 cb1 wx hx hy hz => clashX_any ai s t hsb htb' (by omega) (by omega) SA SB (fun f hf => (HGA f hf).1) (fun f hf => (HGA f hf).2) (fun f hf => (HGB f hf).1) (fun f hf => (HGB f hf).2) (by omega) (by omega) ao1 bo1 ca1 cb1 wx hx hy hz)
  have HH1 := hid (fun ao1 ca1 wx hx hy => holds_any RA ga.1 ga.2 ai s hsb (by omega) SA (fun f hf => (HGA f hf).1) (fun f hf => (HGA f hf).2) (by omega) ao1 ca1 wx hx hy)
  have HH2 := hid (fun ao1 ca1 wx hx hy => holds_any RA ga.1 ga.2 ai t htb' (by omega) SB (fun f hf => (HGB f hf).1) (fun f hf => (HGB f hf).2) (by omega) ao1 ca1 wx hx hy)
  have hst : ((str s).toList == (str t).toList) = (s == t) := str_beq s t hsb htb'
  have HT := hid hT
  have HA := hid hA
  have HB := hid hB
  have z1 := csC_size ad (.slice ao LA.length ac) ai at' asp
  have z2 := csC_size bd (.slice bo LB.length bc) bi bt bsp
  have HCC1 := hid (fun (u : World) (h : u.heap[w.heap.size]? = some (.cells (csC ad (.slice ao LA.length ac) ai at' asp) 39 (0, 0))) => cs_cells h)
  have HCC2 := hid (fun (u : World) (h : u.heap[w.heap.size + 1]? = some (.cells (csC bd (.slice bo LB.length bc) bi bt bsp) 39 (0, 0))) => cs_cells h)
  clear hT hA hB hLA hLB hta htb hda hdb HGA HGB hfa hfb ga gb hsl htl hsb htb'
  generalize csC ad (.slice ao LA.length ac) ai at' asp = CA at *
  generalize csC bd (.slice bo LB.length bc) bi bt bsp = CB at *
  go_enter Tryd.func5, Tryd.ntmps5
  go_upto_region 1 with (fail)
  generalize hw0 : (w.alloc _).alloc _ = w0
  have K0 := hid (show Ks w CA CB w0 from by
    have hb0 : Below w.heap.size w w0 := by rw [← hw0]; exact ((Below.refl _ _).alloc (Nat.le_refl _) _).alloc (by simp) _
    exact ⟨by rw [← hw0]; exact heap_alloc2_old _ _ _, by rw [← hw0]; exact heap_alloc2_new _ _ _, HT.out.below hb0 (Nat.le_refl _), hb0⟩)
  clear hw0
  go_wp2_with fail
  refine (tawake_any _ K0.out.tab).mono ?_
  rintro e w1 ⟨rfl, hb1⟩
  have K1 := hid (K0.out.keep hb1)
  clear hb1 K0
  go_upto_region 3 with (fail)
  refine wp_region_noPanic ?_
  refine wp_region_held_drew (S := Ks w CA CB) (by kernel_rfl) (K1.out.keep ((Below.refl _ _).drew)) (fun hS1 => ?_)
  change wpAnyH _ _ _ _ _ 8 _ _ _
  refine wpAnyH_take (i := 0) (oi := ?oi2) (v := .pointer (some ⟨w.heap.size, 3, none⟩)) ?hi2 (by kernel_rfl) (by kernel_rfl) (by kernel_rfl) (fun _ _ _ h => h) ?hy2 hS1 ?rest2
  case hi2 => simp only [List.getElem?_toArray, List.getElem?_cons_zero]; rfl
  case hy2 => exact Or.inl ⟨rfl, fun _ hSw => by go_simp⟩
  simp only [Act.put, List.setIfInBounds_toArray, List.set_cons_zero, List.set_cons_succ]
  refine wpAnyH_take (i := 1) (oi := ?oi3) (v := .string at') ?hi3 (by kernel_rfl) (by kernel_rfl) (by kernel_rfl) (fun _ _ _ h => h) ?hy3 hS1 ?rest3
  case hi3 => simp only [List.getElem?_toArray, List.getElem?_cons_succ, List.getElem?_cons_zero]; rfl
  case hy3 => exact Or.inl ⟨rfl, fun _ hSw => by have hc := (HCC1.out _ hSw.ina).2; go_simp⟩
  simp only [Act.put, List.setIfInBounds_toArray, List.set_cons_zero, List.set_cons_succ]
  refine wpAnyH_take (i := 3) (oi := ?oi4) (v := .pointer (some ⟨w.heap.size + 1, 3, none⟩)) ?hi4 (by kernel_rfl) (by kernel_rfl) (by kernel_rfl) (fun _ _ _ h => h) ?hy4 hS1 ?rest4
  case hi4 => simp only [List.getElem?_toArray, List.getElem?_cons_succ, List.getElem?_cons_zero]; rfl
  case hy4 => exact Or.inl ⟨rfl, fun _ hSw => by go_simp⟩
  simp only [Act.put, List.setIfInBounds_toArray, List.set_cons_zero, List.set_cons_succ]
  refine wpAnyH_take (i := 4) (oi := ?oi5) (v := .string bt) ?hi5 (by kernel_rfl) (by kernel_rfl) (by kernel_rfl) (fun _ _ _ h => h) ?hy5 hS1 ?rest5
  case hi5 => simp only [List.getElem?_toArray, List.getElem?_cons_succ, List.getElem?_cons_zero]; rfl
  case hy5 => exact Or.inl ⟨rfl, fun _ hSw => by have hc := (HCC2.out _ hSw.inb).2; go_simp⟩
  simp only [Act.put, List.setIfInBounds_toArray, List.set_cons_zero, List.set_cons_succ]
  refine wpAnyH_ready (rs := [2]) (by kernel_rfl) (by simp) ?_
  refine AllReadyH.cons (o := ?oi6) ?hi6 ?step6 AllReadyH.nil
  case hi6 => simp only [List.getElem?_toArray, List.getElem?_cons_succ, List.getElem?_cons_zero]; rfl
  intro K hK
  go_simp
  refine (HCA.out _).mono ?_
  rintro e w2 ⟨rfl, hw2⟩
  refine hK.out _ _ (by rw [← hw2]; exact hS1) (fun hS2 => ?_)
  clear hK K
  try simp only [Act.put, List.setIfInBounds_toArray, List.set_cons_zero, List.set_cons_succ]
  refine wpAnyH_ready (rs := [5]) (by kernel_rfl) (by simp) ?_
  refine AllReadyH.cons (o := ?oi7) ?hi7 ?step7 AllReadyH.nil
  case hi7 => simp only [List.getElem?_toArray, List.getElem?_cons_succ, List.getElem?_cons_zero]; rfl
  intro K hK
  go_simp
  refine (HCB.out _).mono ?_
  rintro e w3 ⟨rfl, hw3⟩
  refine hK.out _ _ (by rw [← hw3]; exact hS2) (fun hS3 => ?_)
  clear hK K
  try simp only [Act.put, List.setIfInBounds_toArray, List.set_cons_zero, List.set_cons_succ]
  refine wpAnyH_take (i := 6) (oi := ?oi8) (v := .string (str s)) ?hi8 (by kernel_rfl) (by kernel_rfl) (by kernel_rfl) (fun _ _ _ h => h) ?hy8 hS3 ?rest8
  case hi8 => simp only [List.getElem?_toArray, List.getElem?_cons_succ, List.getElem?_cons_zero]; rfl
  case hy8 => exact Or.inl ⟨rfl, fun _ hSw => rfl⟩
  simp only [Act.put, List.setIfInBounds_toArray, List.set_cons_zero, List.set_cons_succ]
  refine wpAnyH_take (i := 7) (oi := ?oi9) (v := .string (str t)) ?hi9 (by kernel_rfl) (by kernel_rfl) (by kernel_rfl) (fun _ _ _ h => h) ?hy9 hS3 ?rest9
  case hi9 => simp only [List.getElem?_toArray, List.getElem?_cons_succ, List.getElem?_cons_zero]; rfl
  case hy9 => exact Or.inl ⟨rfl, fun _ hSw => rfl⟩
  simp only [Act.put, List.setIfInBounds_toArray, List.set_cons_zero, List.set_cons_succ]
  refine wpAnyH_done (by kernel_rfl) ?_ _
  refine NoPanic.normal ?_
  have K3 := hid hS3
  clear hS1 hS2 hS3 hw2 hw3 K1 HCA HCB
  go_wp2_with (refine wpList_load_row rfl _ _ rfl w.heap.size rfl _ _ _ _ K3.out.ina Tryd.underlying39 rfl (by rw [z1]; exact info39) ?_)
  refine (HSHA.out _ K3.out.tab (HA.out.below K3.out.bel)).mono ?_
  rintro e w4 ⟨⟨v4, rfl, ho4⟩, hb4⟩
  have K4 := hid (K3.out.keep hb4)
  have O4 := hid ho4
  clear hb4 ho4 K3 HSHA HA
  go_upto_region 5 with (refine wpList_store_row rfl _ _ _ rfl w4.heap.size _ rfl rfl _ _ (heap_alloc_new _ _) (by rw [sza]; exact info27) (by rw [sza]; rfl) (ints_one _ _) ?_)
  generalize hw5 : (w4.alloc _).setRow _ _ = w5
  have hb5 : Below w4.heap.size w4 w5 := by rw [← hw5]; exact below_setRow ((Below.refl _ _).alloc (Nat.le_refl _) _) (Nat.le_refl _) _
  have R5 := hid (show Row w5 w4.heap.size .u8 27 RA from by rw [← hw5]; exact setRow_heap _ _ _ _ _ _ (heap_alloc_new _ _))
  have K5 := hid (K4.out.keep hb5)
  have O5 := hid (O4.out.below hb5)
  clear hw5 hb5 K4 O4
  generalize w4.heap.size = q at *
  go_wp2_with (refine wpList_load_row rfl _ _ rfl (w.heap.size + 1) rfl _ _ _ _ K5.out.inb Tryd.underlying39 rfl (by rw [z2]; exact info39) ?_)
  refine (HSHB.out _ K5.out.tab (HB.out.below K5.out.bel)).mono ?_
  rintro e w6 ⟨⟨v6, rfl, ho6⟩, hb6⟩
  have K6 := hid (K5.out.keep hb6)
  have R6 := hid (R5.out.below hb6 R5.out.lt)
  have O6 := hid (O5.out.below hb6)
  have P6 := hid ho6
  clear hb6 ho6 K5 HSHB HB R5 O5
  go_upto_region 6 with (refine wpList_store_row rfl _ _ _ rfl w6.heap.size _ rfl rfl _ _ (heap_alloc_new _ _) (by rw [szb]; exact info27) (by rw [szb]; rfl) (ints_one _ _) ?_)
  generalize hw7 : (w6.alloc _).setRow _ _ = w7
  have hb7 : Below w6.heap.size w6 w7 := by rw [← hw7]; exact below_setRow ((Below.refl _ _).alloc (Nat.le_refl _) _) (Nat.le_refl _) _
  have K7 := hid (K6.out.keep hb7)
  have R7 := hid (R6.out.below hb7 R6.out.lt)
  have O7 := hid (O6.out.below hb7)
  have P7 := hid (P6.out.below hb7)
  clear hw7 hb7 K6 R6 O6 P6
  obtain ⟨ao1, ca1, rfl, hsa⟩ := O7.out.sums
  obtain ⟨bo1, cb1, rfl, hsb⟩ := P7.out.sums
  have SA7 := hid (show Sums w7 (.slice ao1 SA.length ca1) SA from ⟨ao1, ca1, rfl, hsa⟩)
  have SB7 := hid (show Sums w7 (.slice bo1 SB.length cb1) SB from ⟨bo1, cb1, rfl, hsb⟩)
  have ci := (HCC1.out _ K7.out.ina).1
  clear hsa hsb O7 P7
  obtain ⟨XS, hXS⟩ : ∃ X, X = str s := ⟨_, rfl⟩
  obtain ⟨XT, hXT⟩ : ∃ X, X = str t := ⟨_, rfl⟩
  rw [← hXS] at HCL HH1 hst
  rw [← hXT] at HCL HH2 hst
  rw [← hXS, ← hXT]
  clear hXS hXT
  go_wp2_with fail
  refine (HCL.out _ _ _ _ _ K7.out.tab SA7.out SB7.out).mono ?_
  rintro e w8 ⟨⟨x, y, is, rfl, hm⟩, hb8⟩
  have K8 := hid (K7.out.keep hb8)
  have R8 := hid (R7.out.below hb8 R7.out.lt)
  have SA8 := hid (SA7.out.below hb8)
  have SB8 := hid (SB7.out.below hb8)
  clear hb8 K7 R7 SA7 SB7 HCL ci
  rcases hm with ⟨rfl, h1, h2, h3, h4, h5⟩ | ⟨rfl, rfl, rfl, hno⟩
  · rw [show (s == t) = false from by simpa using h1] at hst
    have hxy : ((str x).toList == (str y).toList) = (x == y) := str_beq x y h4.1 h5.1
    rw [show (x == y) = false from by simpa using h2] at hxy
    have HOX := hid (fun wx hx => of_one x h4.1 (by omega) wx hx 9)
    have HOY := hid (fun wx hx => of_one y h5.1 (by omega) wx hx 9)
    have heq := fun wx => eql_sums wx (Sx.digest x) (Sx.digest y) (digest_lt x) (digest_lt y) (digest_length x) (digest_length y)
    rw [show (Sx.digest x == Sx.digest y) = true from by rw [h3]; exact beq_self_eq_true _] at heq
    clear h1 h2 h3 h4 h5
    generalize Sx.digest x = DX at *
    generalize Sx.digest y = DY at *
    generalize str x = X at *
    generalize str y = Y at *
    go_wp2_with fail
    refine (HOX.out _ K8.out.tab).mono ?_
    rintro e w9 ⟨rfl, hb9⟩
    have K9 := hid (K8.out.keep hb9)
    clear hb9 K8
    go_wp2_with fail
    refine (HOY.out _ K9.out.tab).mono ?_
    rintro e wa ⟨rfl, hba⟩
    have KA := hid (K9.out.keep hba)
    clear hba K9
    go_wp2_with fail
    go_ret
    exact ⟨rfl, KA.out.bel⟩
  · have HNO := hid hno
    clear hno
    have hr8 : w8.heap[q]? = some (.cells (ints .u8 RA) 27 (0, 0)) := R8.out
    have ci := (HCC1.out _ K8.out.ina).1
    rw [show str ([] : List Nat) = ⟨#[]⟩ from rfl]
    generalize hb1 : Tx.holds RA ai s SA = b1 at *
    have HB1 := hid hb1
    clear hb1
    go_wp2_with (refine wpList_load_row rfl _ _ rfl q rfl _ _ _ _ hr8 Tryd.underlying27 rfl (by rw [sza]; exact info27) ?_)
    refine (HH1.out _ _ _ K8.out.tab SA8.out).mono ?_
    rintro e w9 ⟨rfl, hb9⟩
    have K9 := hid (K8.out.keep hb9)
    have R9 := hid (R8.out.below hb9 R8.out.lt)
    have SB9 := hid (SB8.out.below hb9)
    clear hb9 K8 SA8 SB8 R8 hr8 ci HH1
    cases b1 with
    | false =>
      go_wp2_with fail
      go_ret
      exact ⟨rfl, K9.out.bel⟩
    | true =>
      have hr9 : w9.heap[q]? = some (.cells (ints .u8 RA) 27 (0, 0)) := R9.out
      have ci := (HCC1.out _ K9.out.ina).1
      generalize hb2 : Tx.holds RA ai t SB = b2 at *
      have HB2 := hid hb2
      clear hb2
      go_wp2_with (refine wpList_load_row_g rfl _ _ rfl q rfl _ _ _ _ hr9 Tryd.underlying27 rfl (by rw [sza]; exact info27) ?_)
      refine (HH2.out _ _ _ K9.out.tab SB9.out).mono ?_
      rintro e wa ⟨rfl, hba⟩
      have KA := hid (K9.out.keep hba)
      clear hba K9 R9 SB9 hr9 ci HH2
      cases b2 with
      | false =>
        go_wp2_with fail
        go_ret
        exact ⟨rfl, KA.out.bel⟩
      | true =>
        by_cases hlen : SA.length = SB.length
        · have hst2 : s = t := by
            have e1 := HB1.out
            have e2 := HB2.out
            unfold Tx.holds at e1 e2
            rw [Bool.and_eq_true, beq_iff_eq] at e1 e2
            exact HNO.out hlen e1.1 (by rw [e1.2, e2.2])
          rw [show (s == t) = true from by rw [hst2]; exact beq_self_eq_true _] at hst
          rw [← hlen]
          clear hst2 hlen
          go_wp2_with fail
          go_ret
          exact ⟨rfl, KA.out.bel⟩
        · have g1 : ((SA.length : Int) == (SB.length : Int)) = false := by simp; omega
          clear hlen
          go_wp2_with fail
          go_ret
          exact ⟨rfl, KA.out.bel⟩


set_option maxRecDepth 100000 in
theorem contract (H : Type) (enc : TypeId × Value → H) (W : World) (base : Nat) (args : Array Value) (ds gs : List (DataW H)) (before : List MemPlace)
    (hval : ∀ (j : Nat) t v, Tryd.f5.params[j]? = some t → args[j]? = some v → Value.okWide Tryd.prog W .any base t v)
    (hW : DataW.Whole enc Tryd.prog Tryd.f5.params.toList Rows.treeClashSpec.vars false W args.toList ds gs before) (hL : laidMetH Tryd.prog Rows.treeClashRow.laid W) :
    Calls Tryd.prog 5 args W fun e W' => ∃ v, e = .returned v ∧ Rows.treeClashSpec.post enc Tryd.prog Tryd.f5 false true false false W args v W' := by
  have hW' := hW
  obtain ⟨p, q, hA0, hV, rfl, hfz, hnd⟩ := hW
  have hA : DataW.TrodAll enc Tryd.prog W 0 (fun _ => true) true Tryd.f5.params.toList args.toList ds p := hA0
  rw [Tryd.params5] at hA hval
  obtain ⟨v0, vs0, d0, ds0, p0, q0, hargs, rfl, rfl, h0, r0⟩ := trodAll_cons hA
  obtain ⟨v1, vs1, d1, ds1, p1, q1, rfl, rfl, rfl, h1, r1⟩ := trodAll_cons r0
  obtain ⟨rfl, rfl, rfl⟩ := trodAll_nil r1
  obtain rfl : args = #[v0, v1] := by cases args; simp_all
  obtain ⟨cd0, ao0, L0, cap0, ci0, ct0, sp0, rfl, hA0s, hb0, ht0⟩ := open_case (hval 0 39 v0 rfl rfl) h0
  obtain ⟨cd1, ao1, L1, cap1, ci1, ct1, sp1, rfl, hA1s, hb1, ht1⟩ := open_case (hval 1 39 v1 rfl rfl) h1
  refine (walk cd0 ao0 L0 cap0 ci0 ct0 sp0 cd1 ao1 L1 cap1 ci1 ct1 sp1 W (tabs_of hL) hA0s hb0 ht0 hA1s hb1 ht1).mono fun e W' ⟨he, hb⟩ => ?_
  subst he
  exact ⟨_, rfl, law_post rfl rfl (by rw [Tryd.params5]; decide +kernel) hW' rfl hb⟩

theorem laid_met (os : Os) : laidMet Tryd.prog Rows.treeClashRow.laid ((laidWorld os).forCall (fun _ _ => 0) ⟨#[], #[.agg (csC 0 (.slice none 0 0) 0 ByteArray.empty 0), .agg (csC 0 (.slice none 0 0) 0 ByteArray.empty 0)], []⟩).memory :=
  laidMet_of_run' 8 (by kernel_rfl) (by kernel_rfl)
theorem reads (os : Os) {H : Type} (enc : TypeId × Value → H) : ∃ places, DataW.whole enc Tryd.prog ((laidWorld os).forCall (fun _ _ => 0) ⟨#[], #[.agg (csC 0 (.slice none 0 0) 0 ByteArray.empty 0), .agg (csC 0 (.slice none 0 0) 0 ByteArray.empty 0)], []⟩).memory Tryd.f5.params.toList Rows.treeClashSpec.vars false (#[.agg (csC 0 (.slice none 0 0) 0 ByteArray.empty 0), .agg (csC 0 (.slice none 0 0) 0 ByteArray.empty 0)] : Array Value).toList 8
    = some ([.agg [.lit (.int .i64 0), .nil, .lit (.int .i64 0), .lit (.string []), .lit (.int .i64 0)], .agg [.lit (.int .i64 0), .nil, .lit (.int .i64 0), .lit (.string []), .lit (.int .i64 0)]], [], places) :=
  ⟨[], by kernel_rfl⟩

set_option maxRecDepth 100000 in
theorem lifted (os : Os) (started : os.Started) (H : Type) (enc : TypeId × Value → H) (F : Stop.Interp) :
    ReturnsInHanded {} Tryd.checked os 5 .any ((OpenSpec.ofChange Rows.treeClashSpec).preRow enc Tryd.prog Tryd.f5 Rows.treeClashRow.domain false Rows.treeClashRow.laid) (((OpenSpec.ofChange Rows.treeClashSpec).at F).post enc Tryd.prog Tryd.f5 false true false false) := by
  obtain ⟨places, hx⟩ := reads os enc
  refine returnsInHanded_of_row (C := Tryd.checked) (s := OpenSpec.ofChange Rows.treeClashSpec) own started (by kernel_rfl) Tryd.func5
    (witness_row_at (enc := enc) (C := Tryd.checked) false (laidWorld os) #[.agg (csC 0 (.slice none 0 0) 0 ByteArray.empty 0), .agg (csC 0 (.slice none 0 0) 0 ByteArray.empty 0)] rfl (by kernel_rfl) (by kernel_rfl) (by kernel_rfl)
      (OpenSpec.preRow_of_cond 8 hx (by kernel_rfl) (fun k hk => by cases hk) (by kernel_rfl) (laid_met os))) ?_
  intro W base args ds gs before hval hW _ _ _ hL _ _
  exact contract H enc W base args ds gs before hval hW hL

theorem said : Rows.TreeClashSaid :=
  OpenClaim.holds_of_cond 5 Tryd.f5 rfl rfl rfl rfl rfl rfl rfl ⟨rfl, rfl, rfl, rfl, rfl⟩ rfl rfl rfl rfl rfl (by kernel_rfl) Tryd.func5 (by kernel_rfl)
    (of_decide_eq_true (by kernel_rfl)) (by unfold Func.isWrapper; first | (rw [if_pos (by decide +kernel)]; kernel_rfl) | (rw [if_neg (by decide +kernel)]; exact ⟨rfl, rfl⟩))
    (fun os started H enc _ F => by rw [OpenClaim.pre_eq_preRow]; exact lifted os started H enc F)

theorem plain (f : FuncId) (fn : Func) (hf : Tryd.pinned.checked.prog.funcNamed "sealwax/sealwaxlaw07.TreeClash" = some f) (hfn : Tryd.pinned.checked.prog.funcs[f]? = some fn) :
    false = Tryd.pinned.checked.prog.looks [] ∧ ∀ (j : Nat) t, fn.params[j]? = some t → Tryd.pinned.checked.prog.wantsStandIn t = false := by
  obtain rfl : f = 5 := Option.some.inj ((show Tryd.prog.funcNamed "sealwax/sealwaxlaw07.TreeClash" = some 5 by kernel_rfl).symm.trans hf) |>.symm
  obtain rfl : fn = Tryd.f5 := (Option.some.inj (Tryd.func5.symm.trans hfn)).symm
  refine ⟨by kernel_rfl, fun j t ht => ?_⟩
  rw [Tryd.params5] at ht
  have hmem := Array.mem_of_getElem? ht
  exact (show ∀ t ∈ (Tryd.f5.params), Tryd.prog.wantsStandIn t = false from by rw [Tryd.params5]; decide +kernel) t (by rw [Tryd.params5]; exact hmem)

theorem card : Rows.TreeClashCardSaid :=
  Claim7.holds_tied_plain_at .later [] _ _ _ _ said (fun _ h => by cases h) (by kernel_rfl) (fun _ h => by cases h) treeClash_row_tie rfl ⟨rfl, rfl⟩ (by kernel_rfl) rfl plain (by kernel_rfl)

end TreeClash
theorem treeClash_card : Rows.TreeClashCardSaid := TreeClash.card
end Go.Proofs.YtabhdjahdhhgiaaDoor
