/-
  For every depth and every list of texts: a tree of one depth more has the old root, and that of a tree without texts, below its own (law TreeGrows); without conditions.
-/
import Derived.Test.YtabhdjahdhhgiaaDoorLTree
namespace Go.Proofs.YtabhdjahdhhgiaaDoor
open Go.ChangeShapes Go.WideShapes Go.ChangeAt Go.RowKit
open Go.Lib (hid)

theorem and_le (n : Int) (m : Nat) (hm : m < 2 ^ 63) : ∃ j : Nat, j ≤ m ∧ bits .and .i64 n (m : Int) = (j : Int) := by
  refine ⟨(BitVec.ofInt 64 n &&& BitVec.ofInt 64 (m : Int)).toNat, ?_, ?_⟩
  · rw [BitVec.toNat_and]
    refine Nat.le_trans Nat.and_le_right ?_
    rw [BitVec.ofInt_natCast, BitVec.toNat_ofNat]
    exact Nat.mod_le _ _
  · have h : (BitVec.ofInt 64 n &&& BitVec.ofInt 64 (m : Int)).toNat ≤ m := by
      rw [BitVec.toNat_and]
      refine Nat.le_trans Nat.and_le_right ?_
      rw [BitVec.ofInt_natCast, BitVec.toNat_ofNat]
      exact Nat.mod_le _ _
    show IntKind.i64.wrap ((BitVec.ofInt 64 n &&& BitVec.ofInt 64 (m : Int)).toNat : Int) = _
    generalize (BitVec.ofInt 64 n &&& BitVec.ofInt 64 (m : Int)).toNat = j at *
    rw [IntKind.wrap_i64]
    omega
theorem few_each (L : List ByteArray) (n most : Nat) : ∀ l ∈ few L n most, l.length ≤ most := by
  intro l hl
  simp only [few, List.mem_map] at hl
  obtain ⟨s, _, rfl⟩ := hl
  simp; omega
theorem limit_of (d : Nat) (h : d ≤ 16) : Tx.limit (d : Int) = d := by unfold Tx.limit; omega
theorem OwnS.capd {w : World} {base : Nat} {v : Value} {L : List (List Nat)} (h : OwnS w base v L) : ∃ ao cap, v = .slice ao L.length cap ∧ Strs w ao L ∧ L.length ≤ cap ∧ (ao = none → cap = 0) := by
  obtain ⟨ao, cap, hv, hs⟩ := h.strs
  obtain ⟨h1, ⟨hv', h0⟩ | ⟨g, cap', cur, hv', hg, hh, hn, _⟩⟩ := h
  · rw [hv'] at hv
    injection hv with e1 e2 e3
    exact ⟨ao, cap, by rw [hv', ← e1, ← e2, ← e3], hs, by omega, fun _ => e3.symm⟩
  · rw [hv'] at hv
    injection hv with e1 e2 e3
    exact ⟨ao, cap, by rw [hv', e1, e3], hs, by omega, fun hn' => by rw [hn'] at e1; cases e1⟩
/-- While the three roots are compared. -/
structure Gs (w : World) (q : Nat) (DA DB : List Nat) (ao : Option Addr) (F : List (List Nat)) (u : World) : Prop where
  ra : Row u q .u8 27 DA
  rb : Row u (q + 1) .u8 27 DB
  strs : Strs u ao F
  tab : Tabs u
  bel : Below w.heap.size w u
theorem Gs.keep {w : World} {q : Nat} {DA DB : List Nat} {ao : Option Addr} {F : List (List Nat)} {u u' : World} (h : Gs w q DA DB ao F u) (hb : Below u.heap.size u u') : Gs w q DA DB ao F u' :=
  ⟨h.ra.below hb h.ra.lt, h.rb.below hb h.rb.lt, h.strs.below hb, h.tab.below hb (Nat.le_refl _), h.bel.trans (hb.mono h.bel.size)⟩

namespace TreeGrows
set_option maxHeartbeats 4000000 in
set_option maxRecDepth 100000 in
theorem walk (d0 : Int) (ao : Option Addr) (L : List ByteArray) (cap : Nat) (w : World) (hT : Tabs w) (hA : StrsB w ao L) (hL : L.length ≤ maxLen) (hs : ∀ s ∈ L, s.size ≤ maxLen) :
    Calls Tryd.prog 6 #[.int .i64 d0, .slice ao L.length cap] w fun e w' => e = .returned (.bool true) ∧ Below w.heap.size w w' := by
  obtain ⟨d, hd, hand⟩ := and_le d0 3 (by omega)
  rw [show ((3 : Nat) : Int) = 3 from rfl] at hand
  have hp := wrap_pow d (by omega)
  have hp8 : 2 ^ d ≤ 8 := by
    have : 2 ^ d ≤ 2 ^ 3 := Nat.pow_le_pow_right (by decide) hd
    omega
  have HT := hid hT
  have HFW := hid (fun wx hx => few_any ao L cap (2 ^ d) 20 wx hx hL hs (by omega) (by omega))
  have HA := hid hA
  have hfl : (few L (2 ^ d) 20).length ≤ 2 ^ d := by rw [few_length]; omega
  have hfb := few_lt L (2 ^ d) 20
  have hfe : ∀ t ∈ few L (2 ^ d) 20, t.length ≤ 1000000 := fun t ht => by have := few_each L (2 ^ d) 20 t ht; omega
  generalize few L (2 ^ d) 20 = F at *
  have HG := hid (Tx.grows d F hfl)
  have HRA := hid (fun ao cap h1 h2 wx hx hy => root_any (d : Int) ao F cap h1 h2 (by omega) hfb hfe wx hx hy)
  have HRB := hid (fun wx hx => root_any (d : Int) none [] 0 (Nat.le_refl _) (fun _ => rfl) (by simp) (by simp) (by simp) wx hx (fun i hi => absurd hi (by simp)))
  have HRC := hid (fun ao cap h1 h2 wx hx hy => root_any ((d + 1 : Nat) : Int) ao F cap h1 h2 (by omega) hfb hfe wx hx hy)
  rw [limit_of d (by omega)] at HRA HRB
  rw [limit_of (d + 1) (by omega), HG.out] at HRC
  have ga := Tx.sumAt_good d F (by omega) d 0
  have gb := Tx.sumAt_good d [] (by simp) d 0
  rw [show Tx.sumAt d F d 0 = Tx.root d F from rfl] at ga
  rw [show Tx.sumAt d [] d 0 = Tx.root d [] from rfl] at gb
  have HO3 := hid (fun wx hx => of_three [78] (Tx.root d F) (Tx.root d []) (by decide) ga.2 gb.2 (by rw [ga.1, gb.1]; decide) wx hx 9)
  rw [show Sx.digest ([78] ++ (Tx.root d F ++ Tx.root d [])) = Tx.hn (Tx.root d F) (Tx.root d []) from rfl] at HO3
  have HTA := hid (fun wx => text_any (Tx.root d F) ga.1 wx)
  have HTB := hid (fun wx => text_any (Tx.root d []) gb.1 wx)
  have hd3 := Tx.hn_lt (Tx.root d F) (Tx.root d [])
  have hl3 := Tx.hn_length (Tx.root d F) (Tx.root d [])
  have e1 : ((d + 1 : Nat) : Int) = (d : Int) + 1 := by omega
  rw [e1] at HRC
  have sza : (ints .u8 (Tx.root d F)).size = 32 := by rw [ints_size, ga.1]
  have szb : (ints .u8 (Tx.root d [])).size = 32 := by rw [ints_size, gb.1]
  clear e1 HG hfb hfe hfl hT hA hL hs ga gb
  generalize Tx.hn (Tx.root d F) (Tx.root d []) = D3 at *
  generalize Tx.root d F = DA at *
  generalize Tx.root d [] = DB at *
  have he3 := fun wx => eql_sums wx D3 D3 hd3 hd3 hl3 hl3
  have hD3 : (D3 == D3) = true := beq_self_eq_true D3
  rw [hD3] at he3
  clear hD3 hd3 hl3
  generalize 2 ^ d = p at *
  go_enter Tryd.func6, Tryd.ntmps6
  go_wp2_with fail
  refine (tawake_any _ HT.out).mono ?_
  rintro e w1 ⟨rfl, hb1⟩
  have HT1 := hid (HT.out.below hb1 (Nat.le_refl _))
  have HB1 := hid hb1
  clear hb1
  go_wp2_with fail
  refine (HFW.out _ (HA.out.below HB1.out)).mono ?_
  rintro e w2 ⟨v, rfl, hown, hb2⟩
  obtain ⟨ao', cap', rfl, hstr, hc1, hc2⟩ := hown.capd
  have HB2 := hid (HB1.out.next (Nat.le_refl _) hb2)
  have HT2 := hid (HT.out.below HB2.out (Nat.le_refl _))
  have HS2 := hid hstr
  have HC := hid (And.intro hc1 hc2)
  clear hown hb2 hstr hc1 hc2 HB1 HT1 HFW HA
  go_wp2_with fail
  refine (HRA.out _ _ HC.out.1 HC.out.2 _ HT2.out HS2.out).mono ?_
  rintro e w3 ⟨rfl, hb3⟩
  have HB3 := hid (HB2.out.next (Nat.le_refl _) hb3)
  have HT3 := hid (HT.out.below HB3.out (Nat.le_refl _))
  have HS3 := hid (HS2.out.below hb3)
  clear hb3 HB2 HT2 HS2
  go_wp2_with fail
  refine (HRB.out _ HT3.out).mono ?_
  rintro e w4 ⟨rfl, hb4⟩
  have HB4 := hid (HB3.out.next (Nat.le_refl _) hb4)
  have HS4 := hid (HS3.out.below hb4)
  clear hb4 HB3 HT3 HS3 HRA HRB
  go_upto_region 6 with (first
    | (refine wpList_store_row rfl _ _ _ rfl w4.heap.size _ rfl rfl _ _ (heap_alloc2_old _ _ _) (by rw [sza]; exact info27) (by rw [sza]; rfl) (ints_one _ _) ?_)
    | (refine wpList_store_row rfl _ _ _ rfl (w4.heap.size + 1) _ rfl rfl _ _ ((setRow_other _ _ _ _ (by omega)).trans (heap_alloc2_new _ _ _)) (by rw [szb]; exact info27) (by rw [szb]; rfl) (ints_one _ _) ?_))
  generalize hw5 : ((((w4.alloc _).alloc _).setRow _ _).setRow _ _) = w5
  have HC5 := hid (show Gs w w4.heap.size DA DB ao' F w5 from by
    have hb5 : Below w4.heap.size w4 w5 := by
      rw [← hw5]
      exact below_setRow (below_setRow (((Below.refl _ _).alloc (Nat.le_refl _) _).alloc (by simp) _) (Nat.le_refl _) _) (by omega) _
    have hbw := HB4.out.next (Nat.le_refl _) hb5
    refine ⟨?_, ?_, HS4.out.below hb5, HT.out.below hbw (Nat.le_refl _), hbw⟩
    · rw [← hw5]; unfold Row; rw [setRow_other _ _ _ _ (by omega)]; exact setRow_heap _ _ _ _ _ _ (heap_alloc2_old _ _ _)
    · rw [← hw5]; exact setRow_heap _ _ _ _ _ _ ((setRow_other _ _ _ _ (by omega)).trans (heap_alloc2_new _ _ _)))
  clear hw5 HB4 HS4
  generalize w4.heap.size = q at *
  have ia : (Tryd.prog.info? 27).map (·.size) = some (ints .u8 DA).toList.length := by rw [Array.length_toList, sza]; exact info27
  have ib : (Tryd.prog.info? 27).map (·.size) = some (ints .u8 DB).toList.length := by rw [Array.length_toList, szb]; exact info27
  have hw1 : IntKind.i64.wrap ((d : Int) + 1) = (d : Int) + 1 := by simp [IntKind.wrap, IntKind.bits, IntKind.signed]; omega
  refine wp_region_noPanic ?_
  refine wp_region_held_drew (S := Gs w q DA DB ao' F) (by kernel_rfl) (HC5.out.keep ((Below.refl _ _).drew)) (fun hS1 => ?_)
  change wpAnyH _ _ _ _ _ 12 _ _ _
  refine wpAnyH_take (i := 0) (oi := ?oi2) (v := .int .i64 (d : Int)) ?hi2 (by kernel_rfl) (by kernel_rfl) (by kernel_rfl) (fun _ _ _ h => h) ?hy2 hS1 ?rest2
  case hi2 => simp only [List.getElem?_toArray, List.getElem?_cons_zero]; rfl
  case hy2 => exact Or.inl ⟨rfl, fun _ hSw => rfl⟩
  simp only [Act.put, List.setIfInBounds_toArray, List.set_cons_zero, List.set_cons_succ]
  refine wpAnyH_take (i := 1) (oi := ?oi3) (v := .int .i64 ((d : Int) + 1)) ?hi3 (by kernel_rfl) (by kernel_rfl) (by kernel_rfl) (fun _ _ _ h => h) ?hy3 hS1 ?rest3
  case hi3 => simp only [List.getElem?_toArray, List.getElem?_cons_succ, List.getElem?_cons_zero]; rfl
  case hy3 => exact Or.inl ⟨rfl, fun _ hSw => by go_simp⟩
  simp only [Act.put, List.setIfInBounds_toArray, List.set_cons_zero, List.set_cons_succ]
  refine wpAnyH_take (i := 2) (oi := ?oi4) (v := .slice ao' F.length cap') ?hi4 (by kernel_rfl) (by kernel_rfl) (by kernel_rfl) (fun _ _ _ h => h) ?hy4 hS1 ?rest4
  case hi4 => simp only [List.getElem?_toArray, List.getElem?_cons_succ, List.getElem?_cons_zero]; rfl
  case hy4 => exact Or.inl ⟨rfl, fun _ hSw => rfl⟩
  simp only [Act.put, List.setIfInBounds_toArray, List.set_cons_zero, List.set_cons_succ]
  refine wpAnyH_take (i := 4) (oi := ?oi5) (v := .agg (ints .u8 DA).toList.toArray) ?hi5 (by kernel_rfl) (by kernel_rfl) (by kernel_rfl) (fun _ _ _ h => h) ?hy5 hS1 ?rest5
  case hi5 => simp only [List.getElem?_toArray, List.getElem?_cons_succ, List.getElem?_cons_zero]; rfl
  case hy5 => 
    refine yieldsIf_load_mid ?w5 _ ?x5 ?o5 q 0 ?e5 (ints .u8 DA).toList _ ?s5 Tryd.underlying27 rfl ia
    case o5 => rfl
    case w5 => rfl
    case e5 => rfl
    case s5 => intro _ hSw; exact range_row hSw.ra
  simp only [Act.put, List.setIfInBounds_toArray, List.set_cons_zero, List.set_cons_succ, Array.toArray_toList]
  refine wpAnyH_take (i := 6) (oi := ?oi6) (v := .agg (ints .u8 DB).toList.toArray) ?hi6 (by kernel_rfl) (by kernel_rfl) (by kernel_rfl) (fun _ _ _ h => h) ?hy6 hS1 ?rest6
  case hi6 => simp only [List.getElem?_toArray, List.getElem?_cons_succ, List.getElem?_cons_zero]; rfl
  case hy6 => 
    refine yieldsIf_load_mid ?w6 _ ?x6 ?o6 (q + 1) 0 ?e6 (ints .u8 DB).toList _ ?s6 Tryd.underlying27 rfl ib
    case o6 => rfl
    case w6 => rfl
    case e6 => rfl
    case s6 => intro _ hSw; exact range_row hSw.rb
  simp only [Act.put, List.setIfInBounds_toArray, List.set_cons_zero, List.set_cons_succ, Array.toArray_toList]
  refine wpAnyH_ready (rs := [3]) (by kernel_rfl) (by simp) ?_
  refine AllReadyH.cons (o := ?oi7) ?hi7 ?step7 AllReadyH.nil
  case hi7 => simp only [List.getElem?_toArray, List.getElem?_cons_succ, List.getElem?_cons_zero]; rfl
  intro K hK
  go_simp
  refine (HRC.out _ _ HC.out.1 HC.out.2 _ hS1.tab hS1.strs).mono ?_
  rintro e w6 ⟨rfl, hb6⟩
  refine hK.out _ _ (hS1.keep hb6) (fun hS2 => ?_)
  clear hK K
  try simp only [Act.put, List.setIfInBounds_toArray, List.set_cons_zero, List.set_cons_succ]
  refine wpAnyH_ready (rs := [5]) (by kernel_rfl) (by simp) ?_
  refine AllReadyH.cons (o := ?oi8) ?hi8 ?step8 AllReadyH.nil
  case hi8 => simp only [List.getElem?_toArray, List.getElem?_cons_succ, List.getElem?_cons_zero]; rfl
  intro K hK
  go_simp
  refine (HTA.out _).mono ?_
  rintro e w7 ⟨rfl, hb7⟩
  refine hK.out _ _ (hS2.keep hb7) (fun hS3 => ?_)
  clear hK K
  try simp only [Act.put, List.setIfInBounds_toArray, List.set_cons_zero, List.set_cons_succ]
  refine wpAnyH_ready (rs := [7]) (by kernel_rfl) (by simp) ?_
  refine AllReadyH.cons (o := ?oi9) ?hi9 ?step9 AllReadyH.nil
  case hi9 => simp only [List.getElem?_toArray, List.getElem?_cons_succ, List.getElem?_cons_zero]; rfl
  intro K hK
  go_simp
  refine (HTB.out _).mono ?_
  rintro e w8 ⟨rfl, hb8⟩
  refine hK.out _ _ (hS3.keep hb8) (fun hS4 => ?_)
  clear hK K
  try simp only [Act.put, List.setIfInBounds_toArray, List.set_cons_zero, List.set_cons_succ]
  refine wpAnyH_ready (rs := [8]) (by kernel_rfl) (by simp) ?_
  refine AllReadyH.cons (o := ?oib_8) ?hib_8 ?stepb_8 AllReadyH.nil
  case hib_8 => simp only [List.getElem?_toArray, List.getElem?_cons_succ, List.getElem?_cons_zero]; rfl
  intro K hK
  go_simp
  refine hK.out _ _ (hS4.keep ((Below.refl _ _).alloc (Nat.le_refl _) _)) (fun hS5 => ?_)
  clear hK K
  try simp only [Act.put, List.setIfInBounds_toArray, List.set_cons_zero, List.set_cons_succ]
  refine wpAnyH_ready (rs := [9]) (by kernel_rfl) (by simp) ?_
  refine AllReadyH.cons (o := ?oi12) ?hi12 ?step12 AllReadyH.nil
  case hi12 => simp only [List.getElem?_toArray, List.getElem?_cons_succ, List.getElem?_cons_zero]; rfl
  intro K hK
  go_simp
  refine (HO3.out w8 hS4.tab).mono ?_
  rintro e w9 ⟨rfl, hb9⟩
  refine hK.out _ _ (hS4.keep hb9) (fun hS6 => ?_)
  clear hK K
  try simp only [Act.put, List.setIfInBounds_toArray, List.set_cons_zero, List.set_cons_succ]
  refine wpAnyH_take (i := 10) (oi := ?oi13) (v := .bool true) ?hi13 (by kernel_rfl) (by kernel_rfl) (by kernel_rfl) (fun _ _ _ h => h) ?hy13 hS6 ?rest13
  case hi13 => simp only [List.getElem?_toArray, List.getElem?_cons_succ, List.getElem?_cons_zero]; rfl
  case hy13 => exact Or.inl ⟨rfl, fun _ hSw => by have hq := he3; go_simp⟩
  simp only [Act.put, List.setIfInBounds_toArray, List.set_cons_zero, List.set_cons_succ]
  refine wpAnyH_take (i := 11) (oi := ?oi14) (v := .bool true) ?hi14 (by kernel_rfl) (by kernel_rfl) (by kernel_rfl) (fun _ _ _ h => h) ?hy14 hS6 ?rest14
  case hi14 => simp only [List.getElem?_toArray, List.getElem?_cons_succ, List.getElem?_cons_zero]; rfl
  case hy14 => exact Or.inl ⟨rfl, fun _ hSw => rfl⟩
  simp only [Act.put, List.setIfInBounds_toArray, List.set_cons_zero, List.set_cons_succ]
  refine wpAnyH_done (by kernel_rfl) ?_ _
  refine NoPanic.normal ?_
  go_wp2
  go_ret
  exact ⟨rfl, hS6.bel⟩


set_option maxRecDepth 100000 in
theorem contract (H : Type) (enc : TypeId × Value → H) (W : World) (base : Nat) (args : Array Value) (ds gs : List (DataW H)) (before : List MemPlace)
    (hval : ∀ (j : Nat) t v, Tryd.f6.params[j]? = some t → args[j]? = some v → Value.okWide Tryd.prog W .any base t v)
    (hW : DataW.Whole enc Tryd.prog Tryd.f6.params.toList Rows.treeGrowsSpec.vars false W args.toList ds gs before) (hL : laidMetH Tryd.prog Rows.treeGrowsRow.laid W) :
    Calls Tryd.prog 6 args W fun e W' => ∃ v, e = .returned v ∧ Rows.treeGrowsSpec.post enc Tryd.prog Tryd.f6 false true false false W args v W' := by
  have hW' := hW
  obtain ⟨p, q, hA0, hV, rfl, hfz, hnd⟩ := hW
  have hA : DataW.TrodAll enc Tryd.prog W 0 (fun _ => true) true Tryd.f6.params.toList args.toList ds p := hA0
  rw [Tryd.params6] at hA hval
  obtain ⟨v0, vs0, d0, ds0, p0, q0, hargs, rfl, rfl, h0, r0⟩ := trodAll_cons hA
  obtain ⟨v1, vs1, d1, ds1, p1, q1, rfl, rfl, rfl, h1, r1⟩ := trodAll_cons r0
  obtain ⟨rfl, rfl, rfl⟩ := trodAll_nil r1
  obtain rfl : args = #[v0, v1] := by cases args; simp_all
  obtain ⟨n0, rfl, rfl, rfl, wn0⟩ := open_int Tryd.underlying3 (hval 0 3 v0 rfl rfl) h0
  obtain ⟨ao1, L1, cap1, rfl, hL1, hb1⟩ := open_strs (hval 1 22 v1 rfl rfl) h1
  refine (walk n0 ao1 L1 cap1 W (tabs_of hL) hL1 hb1.1 hb1.2).mono fun e W' ⟨he, hb⟩ => ?_
  subst he
  exact ⟨_, rfl, law_post rfl rfl (by rw [Tryd.params6]; decide +kernel) hW' rfl hb⟩

theorem laid_met (os : Os) : laidMet Tryd.prog Rows.treeGrowsRow.laid ((laidWorld os).forCall (fun _ _ => 0) ⟨#[], #[.int .i64 0, .slice none 0 0], []⟩).memory :=
  laidMet_of_run' 8 (by kernel_rfl) (by kernel_rfl)
theorem reads (os : Os) {H : Type} (enc : TypeId × Value → H) : ∃ places, DataW.whole enc Tryd.prog ((laidWorld os).forCall (fun _ _ => 0) ⟨#[], #[.int .i64 0, .slice none 0 0], []⟩).memory Tryd.f6.params.toList Rows.treeGrowsSpec.vars false (#[.int .i64 0, .slice none 0 0] : Array Value).toList 8
    = some ([.lit (.int .i64 0), .nil], [], places) :=
  ⟨[], by kernel_rfl⟩

set_option maxRecDepth 100000 in
theorem lifted (os : Os) (started : os.Started) (H : Type) (enc : TypeId × Value → H) (F : Stop.Interp) :
    ReturnsInHanded {} Tryd.checked os 6 .any ((OpenSpec.ofChange Rows.treeGrowsSpec).preRow enc Tryd.prog Tryd.f6 Rows.treeGrowsRow.domain false Rows.treeGrowsRow.laid) (((OpenSpec.ofChange Rows.treeGrowsSpec).at F).post enc Tryd.prog Tryd.f6 false true false false) := by
  obtain ⟨places, hx⟩ := reads os enc
  refine returnsInHanded_of_row (C := Tryd.checked) (s := OpenSpec.ofChange Rows.treeGrowsSpec) own started (by kernel_rfl) Tryd.func6
    (witness_row_at (enc := enc) (C := Tryd.checked) false (laidWorld os) #[.int .i64 0, .slice none 0 0] rfl (by kernel_rfl) (by kernel_rfl) (by kernel_rfl)
      (OpenSpec.preRow_of_cond 8 hx (by kernel_rfl) (fun k hk => by cases hk) (by kernel_rfl) (laid_met os))) ?_
  intro W base args ds gs before hval hW _ _ _ hL _ _
  exact contract H enc W base args ds gs before hval hW hL

theorem said : Rows.TreeGrowsSaid :=
  OpenClaim.holds_of_cond 6 Tryd.f6 rfl rfl rfl rfl rfl rfl rfl ⟨rfl, rfl, rfl, rfl, rfl⟩ rfl rfl rfl rfl rfl (by kernel_rfl) Tryd.func6 (by kernel_rfl)
    (of_decide_eq_true (by kernel_rfl)) (by unfold Func.isWrapper; first | (rw [if_pos (by decide +kernel)]; kernel_rfl) | (rw [if_neg (by decide +kernel)]; exact ⟨rfl, rfl⟩))
    (fun os started H enc _ F => by rw [OpenClaim.pre_eq_preRow]; exact lifted os started H enc F)

theorem plain (f : FuncId) (fn : Func) (hf : Tryd.pinned.checked.prog.funcNamed "sealwax/sealwaxlaw07.TreeGrows" = some f) (hfn : Tryd.pinned.checked.prog.funcs[f]? = some fn) :
    false = Tryd.pinned.checked.prog.looks [] ∧ ∀ (j : Nat) t, fn.params[j]? = some t → Tryd.pinned.checked.prog.wantsStandIn t = false := by
  obtain rfl : f = 6 := Option.some.inj ((show Tryd.prog.funcNamed "sealwax/sealwaxlaw07.TreeGrows" = some 6 by kernel_rfl).symm.trans hf) |>.symm
  obtain rfl : fn = Tryd.f6 := (Option.some.inj (Tryd.func6.symm.trans hfn)).symm
  refine ⟨by kernel_rfl, fun j t ht => ?_⟩
  rw [Tryd.params6] at ht
  have hmem := Array.mem_of_getElem? ht
  exact (show ∀ t ∈ (Tryd.f6.params), Tryd.prog.wantsStandIn t = false from by rw [Tryd.params6]; decide +kernel) t (by rw [Tryd.params6]; exact hmem)

theorem card : Rows.TreeGrowsCardSaid :=
  Claim7.holds_tied_plain_at .later [] _ _ _ _ said (fun _ h => by cases h) (by kernel_rfl) (fun _ h => by cases h) treeGrows_row_tie rfl ⟨rfl, rfl⟩ (by kernel_rfl) rfl plain (by kernel_rfl)

end TreeGrows
theorem treeGrows_card : Rows.TreeGrowsCardSaid := TreeGrows.card
end Go.Proofs.YtabhdjahdhhgiaaDoor
