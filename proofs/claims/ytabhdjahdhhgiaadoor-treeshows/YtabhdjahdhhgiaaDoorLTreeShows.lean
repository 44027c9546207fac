/-
  For every depth, place and list of texts: the root, and what shows a text, are the document's, and it holds (law TreeShows); without conditions.
-/
import Derived.Test.YtabhdjahdhhgiaaDoorRef7d
namespace Go.Proofs.YtabhdjahdhhgiaaDoor
open Go.ChangeShapes Go.WideShapes Go.ChangeAt Go.RowKit
open Go.Lib (hid)

set_option maxHeartbeats 1000000 in
set_option maxRecDepth 100000 in
theorem same_any (A : List (List Nat)) (hA : A.length ≤ 1000000) (ao bo : Option Addr) (ca cb : Nat) (w : World) (h1 : Strs w ao A) (h2 : Strs w bo A) :
    Calls Tryd.prog 15 #[.slice ao A.length ca, .slice bo A.length cb] w fun e w' => e = .returned (.bool true) ∧ Below w.heap.size w w' := by
  have H1 := hid h1
  have H2 := hid h2
  clear h1 h2
  go_enter Tryd.func15, Tryd.ntmps15
  go_wp2
  go_loopw [5, 13] (fun _ c wr => ∃ k : Nat, k ≤ A.length ∧ c = .int .i64 k ∧ Below w.heap.size w wr)
    (fun _ c _ => A.length - (intOf c).toNat)
  case atStart => exact ⟨0, by omega, rfl, Below.refl _ _⟩
  case round =>
    obtain ⟨k, hk, rfl, hB⟩ := hrel
    by_cases hlt : k < A.length
    · obtain ⟨sa, oa, rfl, hca⟩ := H1.out k hlt
      obtain ⟨sb, ob, rfl, hcb⟩ := H2.out k hlt
      have ha := (hB.cell (block_lt_of_cell hca)).trans hca
      have hb := (hB.cell (block_lt_of_cell hcb)).trans hcb
      have HB := hid hB
      have g1 : (k : Int) < A.length := by omega
      clear hca hcb hB
      generalize str (A.getD k []) = S at *
      go_upto_region 6 with (fail)
      go_region
      go_wp2
      exact ⟨⟨k + 1, by omega, congrArg (Value.int .i64) (by omega), HB.out.drew⟩, by simp only [intOf]; omega⟩
    · obtain rfl : k = A.length := by omega
      have HB := hid hB
      have g1 : ¬ ((A.length : Int) < A.length) := by omega
      clear hB
      go_wp2
      go_ret
      exact ⟨rfl, HB.out⟩
theorem wpList_max_g {P : Program} {w : World} {ops : Array Oper} {rest : List Oper} {o : Oper} {a : Act} {Q : Exit → Act → World → Prop} (hw : Region.wanted o (yielded ops a.tmps) = true) (x y : Operand) (tys : Array TypeId) (ho : o.op = .call { callee := .builtin .max, args := #[x, y], argTypes := tys })
    (p q r : Int) (hx : a.eval x = .int .i64 p) (hy : a.eval y = .int .i64 q) (hr : max p q = r) (h : wpList P ops Q rest (a.put o.dst (.int .i64 r)) w) : wpList P ops Q (o :: rest) a w := by
  subst hr
  refine wpList_step fun K hK => ?_
  rw [if_pos hw]
  unfold Oper.wp execOp
  simp only [ho, resolve, invoke, builtin, Sem.run_bind, Sem.run_pure, Result.andThen_ok, List.map_toArray, List.map_cons, List.map_nil, hx, hy, run_max]
  exact hK _ _ h
/-- While it is shown: the root at q, the sums, the texts. -/
structure Ts (w : World) (q : Nat) (R : List Nat) (v : Value) (S : List (List Nat)) (ao : Option Addr) (F : List (List Nat)) (u : World) : Prop where
  ro : Row u q .u8 27 R
  sums : Sums u v S
  strs : Strs u ao F
  tab : Tabs u
  bel : Below w.heap.size w u
theorem Ts.keep {w : World} {q : Nat} {R : List Nat} {v : Value} {S : List (List Nat)} {ao : Option Addr} {F : List (List Nat)} {u u' : World} (h : Ts w q R v S ao F u) (hb : Below u.heap.size u u') : Ts w q R v S ao F u' :=
  ⟨h.ro.below hb h.ro.lt, h.sums.below hb, h.strs.below hb, h.tab.below hb (Nat.le_refl _), h.bel.trans (hb.mono h.bel.size)⟩

namespace TreeShows
set_option maxHeartbeats 4000000 in
set_option maxRecDepth 100000 in
theorem walk (d0 i : Int) (ao : Option Addr) (L : List ByteArray) (cap : Nat) (w : World) (hT : Tabs w) (hA : StrsB w ao L) (hL : L.length ≤ maxLen) (hs : ∀ s ∈ L, s.size ≤ maxLen) :
    Calls Tryd.prog 3 #[.int .i64 d0, .int .i64 i, .slice ao L.length cap] w fun e w' => e = .returned (.bool true) ∧ Below w.heap.size w w' := by
  have HSM := hid (fun wx => small_any d0 wx)
  obtain ⟨m, hm⟩ : ∃ m, m = min d0 5 := ⟨_, rfl⟩
  rw [← hm] at HSM
  have hm5 : m ≤ 5 := by omega
  have hD5 : Tx.limit m ≤ 5 := by unfold Tx.limit; omega
  have hmax : max 0 m = ((Tx.limit m : Nat) : Int) := by unfold Tx.limit; omega
  clear hm
  have HT := hid hT
  have HFW := hid (fun wx hx => few_any ao L cap 36 20 wx hx hL hs (by omega) (by omega))
  have HA := hid hA
  have hfl : (few L 36 20).length ≤ 36 := by rw [few_length]; omega
  have hfb := few_lt L 36 20
  have hfe0 := few_each L 36 20
  have hfe : ∀ t ∈ few L 36 20, t.length ≤ 1000000 := fun t ht => by have := hfe0 t ht; omega
  generalize few L 36 20 = F at *
  have HRA := hid (fun ao cap h1 h2 wx hx hy => root_any m ao F cap h1 h2 (by omega) hfb hfe wx hx hy)
  have HSA := hid (fun ao cap h1 h2 wx hx hy => show_any m i ao F cap h1 h2 (by omega) hfb hfe wx hx hy)
  have HRR := hid (fun ao cap wx hy => refRoot_any m ao F cap (by omega) hfb hfe wx hy)
  have HRS := hid (fun ao cap wx hy => refShow_any m i ao F cap (by omega) hfb hfe wx hy)
  generalize Tx.limit m = D at *
  have ga := Tx.sumAt_good D F (by omega) D 0
  rw [show Tx.sumAt D F D 0 = Tx.root D F from rfl] at ga
  have sza : (ints .u8 (Tx.root D F)).size = 32 := by rw [ints_size, ga.1]
  have HSG := Tx.showL_good D i F (by omega)
  have hSl := Tx.showL_length D i F
  have HTX := hid (fun wx => text_any (Tx.root D F) ga.1 wx)
  have HTS := hid (fun v wx hx => texts_any (Tx.showL D i F) (fun f hf => (HSG f hf).1) (by omega) v wx hx)
  have HSA2 := hid (fun ao bo ca cb wx hx hy => same_any (Tx.showL D i F) (by omega) ao bo ca cb wx hx hy)
  have HPI := hid (Tx.isPos_iff i D (by omega))
  have hpw := pow_le16 D (by omega)
  have hp := wrap_pow D (by omega)
  have HPOS := hid (fun (n : Nat) (hn : i = (n : Int)) (hlt : n < 2 ^ D) => (show Tx.holds (Tx.root D F) i (F.getD n []) (Tx.showL D i F) = true ∧ Tx.holds (Tx.root D F) (i + ((2 ^ D : Nat) : Int)) (F.getD n []) (Tx.showL D i F) = false from by
    subst hn
    have hpi := Tx.isPos_in D n (by omega) hlt
    have hsh : Tx.showL D (n : Int) F = Tx.shows D n F D := by unfold Tx.showL; rw [if_pos hpi]; rfl
    rw [hsh]
    refine ⟨Tx.holds_shown D n F (by omega) hlt, ?_⟩
    unfold Tx.holds
    rw [Tx.shows_length, show (n : Int) + ((2 ^ D : Nat) : Int) = ((n + 2 ^ D : Nat) : Int) from by omega, Tx.isPos_out D (n + 2 ^ D) (by omega)]
    rfl))
  have HHA := hid (fun (j : Int) (n : Nat) ao cap wx hx hy => holds_any (Tx.root D F) ga.1 ga.2 j (F.getD n []) (fun x hx => hfb x (getD_mem_flatten F n x hx)) (by have := mem_flat_len hfe0 n; omega) (Tx.showL D i F) (fun f hf => (HSG f hf).1) (fun f hf => (HSG f hf).2) (by omega) ao cap wx hx hy)
  have HNS := hid (fun (h : ¬ (0 ≤ i ∧ i < ((2 ^ D : Nat) : Int))) => (show Tx.showL D i F = [] from by unfold Tx.showL; rw [if_neg (fun hh => h (HPI.out.1 hh))]))
  clear ga hfb hfe hfe0 hT hA hL hs HSG
  generalize Tx.root D F = R at *
  generalize Tx.showL D i F = S at *
  generalize 2 ^ D = p at *
  go_enter Tryd.func3, Tryd.ntmps3
  go_wp2_with fail
  refine (tawake_any _ HT.out).mono ?_
  rintro e w1 ⟨rfl, hb1⟩
  have HB1 := hid hb1
  clear hb1
  go_wp2_with fail
  refine (HSM.out _).mono ?_
  rintro e wz ⟨rfl, hwz⟩
  rw [hwz]
  clear hwz wz
  go_wp2_with fail
  refine (HFW.out _ (HA.out.below HB1.out)).mono ?_
  rintro e w2 ⟨v, rfl, hown, hb2⟩
  obtain ⟨ao', cap', rfl, hstr, hc1, hc2⟩ := hown.capd
  have HB2 := hid (HB1.out.next (Nat.le_refl _) hb2)
  have HT2 := hid (HT.out.below HB2.out (Nat.le_refl _))
  have HS2 := hid hstr
  have HC := hid (And.intro hc1 hc2)
  clear hown hb2 hstr hc1 hc2 HB1 HFW HA
  go_wp2_with fail
  refine (HRA.out _ _ HC.out.1 HC.out.2 _ HT2.out HS2.out).mono ?_
  rintro e w3 ⟨rfl, hb3⟩
  have HB3 := hid (HB2.out.next (Nat.le_refl _) hb3)
  have HT3 := hid (HT.out.below HB3.out (Nat.le_refl _))
  have HS3 := hid (HS2.out.below hb3)
  clear hb3 HB2 HT2 HS2 HRA
  go_wp2_with fail
  refine (HSA.out _ _ HC.out.1 HC.out.2 _ HT3.out HS3.out).mono ?_
  rintro e w4 ⟨v4, rfl, ho4, hb4⟩
  have HB4 := hid (HB3.out.next (Nat.le_refl _) hb4)
  have HS4 := hid (HS3.out.below hb4)
  have HO4 := hid ho4
  obtain ⟨ao1, ca1, rfl, hsa⟩ := ho4.sums
  clear hb4 HB3 HT3 HS3 HSA hsa ho4
  go_upto_region 6 with (refine wpList_store_row rfl _ _ _ rfl w4.heap.size _ rfl rfl _ _ (heap_alloc_new _ _) (by rw [sza]; exact info27) (by rw [sza]; rfl) (ints_one _ _) ?_)
  generalize hw5 : (w4.alloc _).setRow _ _ = w5
  have C5 := hid (show Ts w w4.heap.size R (.slice ao1 S.length ca1) S ao' F w5 from by
    have hb5 : Below w4.heap.size w4 w5 := by rw [← hw5]; exact below_setRow ((Below.refl _ _).alloc (Nat.le_refl _) _) (Nat.le_refl _) _
    have hbw := HB4.out.next (Nat.le_refl _) hb5
    refine ⟨?_, HO4.out.sums.below hb5, HS4.out.below hb5, HT.out.below hbw (Nat.le_refl _), hbw⟩
    rw [← hw5]; exact setRow_heap _ _ _ _ _ _ (heap_alloc_new _ _))
  clear hw5 HB4 HS4 HO4
  generalize w4.heap.size = q at *
  have hrow := C5.out.ro
  go_wp2_with (refine wpList_load_row rfl _ _ rfl q rfl _ _ _ _ hrow Tryd.underlying27 rfl (by rw [sza]; exact info27) ?_)
  refine (HTX.out _).mono ?_
  rintro e w6 ⟨rfl, hb6⟩
  have C6 := hid (C5.out.keep hb6)
  clear hb6 C5 hrow HTX
  go_wp2_with fail
  refine (HRR.out _ _ _ C6.out.strs).mono ?_
  rintro e w7 ⟨rfl, hb7⟩
  have C7 := hid (C6.out.keep hb7)
  clear hb7 C6 HRR
  obtain ⟨XR, hXR⟩ : ∃ X, X = str R := ⟨_, rfl⟩
  rw [← hXR]
  clear hXR
  go_wp2_with fail
  refine (HTS.out _ _ C7.out.sums).mono ?_
  rintro e w8 ⟨v8, rfl, ho8, hb8⟩
  obtain ⟨ao8, ca8, rfl, hst8⟩ := ho8.strs
  have C8 := hid (C7.out.keep hb8)
  have HST8 := hid hst8
  clear hb8 C7 HTS ho8 hst8
  go_wp2_with fail
  refine (HRS.out _ _ _ C8.out.strs).mono ?_
  rintro e w9 ⟨v9, rfl, ho9, hb9⟩
  obtain ⟨ao9, ca9, rfl, hst9⟩ := ho9.strs
  have C9 := hid (C8.out.keep hb9)
  have HST9 := hid (And.intro (HST8.out.below hb9) hst9)
  clear hb9 C8 HRS ho9 hst9 HST8
  go_wp2_with fail
  refine (HSA2.out _ _ _ _ _ HST9.out.1 HST9.out.2).mono ?_
  rintro e wa ⟨rfl, hba⟩
  have CA := hid (C9.out.keep hba)
  clear hba C9 HSA2 HST9
  by_cases hpos : 0 ≤ i ∧ i < (p : Int)
  · obtain ⟨n, rfl⟩ : ∃ n : Nat, i = (n : Int) := ⟨i.toNat, by omega⟩
    have hnp : n < p := by omega
    obtain ⟨hh1, hh2⟩ := HPOS.out n rfl hnp
    have HH1 := hid (fun ao cap wx hx hy => HHA.out (n : Int) n ao cap wx hx hy)
    have HH2 := hid (fun ao cap wx hx hy => HHA.out ((n : Int) + (p : Int)) n ao cap wx hx hy)
    rw [hh1] at HH1
    rw [hh2] at HH2
    have g1 : ¬ (n : Int) < 0 := by omega
    have g2 : ¬ (p : Int) ≤ (n : Int) := by omega
    have ia : (Tryd.prog.info? 27).map (·.size) = some (ints .u8 R).toList.length := by rw [Array.length_toList, sza]; exact info27
    clear hh1 hh2 HPOS HHA HNS HPI hpos
    by_cases hnf : n < F.length
    · obtain ⟨sb, so, rfl, hc⟩ := CA.out.strs n hnf
      have g3 : (n : Int) < F.length := by omega
      generalize str (F.getD n []) = X at *
      go_upto_region 13 with (refine wpList_max_g rfl _ _ _ rfl 0 m _ rfl rfl hmax ?_)
      clear hc
      generalize (some ⟨sb, so, none⟩ : Option Addr) = ao' at *
      have hmx2 : (if 0 < m then m else 0) = (D : Int) := by rw [← hmax]; split <;> omega
      have hwn : IntKind.i64.wrap ((n : Int) + (p : Int)) = (n : Int) + (p : Int) := by simp [IntKind.wrap, IntKind.bits, IntKind.signed]; omega
      have hp2 : IntKind.i64.wrap ((2 : Int) ^ D) = (p : Int) := by rw [IntKind.wrap_i64]; simpa only [wrap64] using hp
      clear hmax
      refine wp_region_noPanic ?_
      refine wp_region_held_drew (S := Ts w q R (.slice ao1 S.length ca1) S ao' F) (by kernel_rfl) (CA.out.keep ((Below.refl _ _).drew)) (fun hS1 => ?_)
      change wpAnyH _ _ _ _ _ 18 _ _ _
      refine wpAnyH_take (i := 0) (oi := ?oi2) (v := .agg (ints .u8 R).toList.toArray) ?hi2 (by kernel_rfl) (by kernel_rfl) (by kernel_rfl) (fun _ _ _ h => h) ?hy2 hS1 ?rest2
      case hi2 => simp only [List.getElem?_toArray, List.getElem?_cons_zero]; rfl
      case hy2 => 
        refine yieldsIf_load_mid ?w2 _ ?x2 ?o2 q 0 ?e2 (ints .u8 R).toList _ ?s2 Tryd.underlying27 rfl ia
        case o2 => rfl
        case w2 => rfl
        case e2 => rfl
        case s2 => intro _ hSw; exact range_row hSw.ro
      simp only [Act.put, List.setIfInBounds_toArray, List.set_cons_zero, List.set_cons_succ, Array.toArray_toList]
      refine wpAnyH_take (i := 1) (oi := ?oi3) (v := .int .i64 (n : Int)) ?hi3 (by kernel_rfl) (by kernel_rfl) (by kernel_rfl) (fun _ _ _ h => h) ?hy3 hS1 ?rest3
      case hi3 => simp only [List.getElem?_toArray, List.getElem?_cons_succ, List.getElem?_cons_zero]; rfl
      case hy3 => exact Or.inl ⟨rfl, fun _ hSw => rfl⟩
      simp only [Act.put, List.setIfInBounds_toArray, List.set_cons_zero, List.set_cons_succ]
      refine wpAnyH_take (i := 2) (oi := ?oi4) (v := .string X) ?hi4 (by kernel_rfl) (by kernel_rfl) (by kernel_rfl) (fun _ _ _ h => h) ?hy4 hS1 ?rest4
      case hi4 => simp only [List.getElem?_toArray, List.getElem?_cons_succ, List.getElem?_cons_zero]; rfl
      case hy4 => exact Or.inl ⟨rfl, fun _ hSw => rfl⟩
      simp only [Act.put, List.setIfInBounds_toArray, List.set_cons_zero, List.set_cons_succ]
      refine wpAnyH_take (i := 3) (oi := ?oi5) (v := .slice ao1 S.length ca1) ?hi5 (by kernel_rfl) (by kernel_rfl) (by kernel_rfl) (fun _ _ _ h => h) ?hy5 hS1 ?rest5
      case hi5 => simp only [List.getElem?_toArray, List.getElem?_cons_succ, List.getElem?_cons_zero]; rfl
      case hy5 => exact Or.inl ⟨rfl, fun _ hSw => rfl⟩
      simp only [Act.put, List.setIfInBounds_toArray, List.set_cons_zero, List.set_cons_succ]
      refine wpAnyH_ready (rs := [4]) (by kernel_rfl) (by simp) ?_
      refine AllReadyH.cons (o := ?oi6) ?hi6 ?step6 AllReadyH.nil
      case hi6 => simp only [List.getElem?_toArray, List.getElem?_cons_succ, List.getElem?_cons_zero]; rfl
      intro K hK
      go_simp
      refine (HH1.out _ _ _ hS1.tab hS1.sums).mono ?_
      rintro e wb ⟨rfl, hbb⟩
      refine hK.out _ _ (hS1.keep hbb) (fun hS2 => ?_)
      clear hK K
      try simp only [Act.put, List.setIfInBounds_toArray, List.set_cons_zero, List.set_cons_succ]
      refine wpAnyH_take (i := 5) (oi := ?oi7) (v := .bool true) ?hi7 (by kernel_rfl) (by kernel_rfl) (by kernel_rfl) (fun _ _ _ h => h) ?hy7 hS2 ?rest7
      case hi7 => simp only [List.getElem?_toArray, List.getElem?_cons_succ, List.getElem?_cons_zero]; rfl
      case hy7 => exact Or.inl ⟨rfl, fun _ hSw => rfl⟩
      simp only [Act.put, List.setIfInBounds_toArray, List.set_cons_zero, List.set_cons_succ]
      refine wpAnyH_take (i := 6) (oi := ?oi8) (v := .agg (ints .u8 R).toList.toArray) ?hi8 (by kernel_rfl) (by kernel_rfl) (by kernel_rfl) (fun _ _ _ h => h) ?hy8 hS2 ?rest8
      case hi8 => simp only [List.getElem?_toArray, List.getElem?_cons_succ, List.getElem?_cons_zero]; rfl
      case hy8 => 
        refine yieldsIf_load_mid ?w8 _ ?x8 ?o8 q 0 ?e8 (ints .u8 R).toList _ ?s8 Tryd.underlying27 rfl ia
        case o8 => rfl
        case w8 => rfl
        case e8 => rfl
        case s8 => intro _ hSw; exact range_row hSw.ro
      simp only [Act.put, List.setIfInBounds_toArray, List.set_cons_zero, List.set_cons_succ, Array.toArray_toList]
      refine wpAnyH_take (i := 7) (oi := ?oi9) (v := .int .i64 (n : Int)) ?hi9 (by kernel_rfl) (by kernel_rfl) (by kernel_rfl) (fun _ _ _ h => h) ?hy9 hS2 ?rest9
      case hi9 => simp only [List.getElem?_toArray, List.getElem?_cons_succ, List.getElem?_cons_zero]; rfl
      case hy9 => exact Or.inl ⟨rfl, fun _ hSw => rfl⟩
      simp only [Act.put, List.setIfInBounds_toArray, List.set_cons_zero, List.set_cons_succ]
      refine wpAnyH_take (i := 8) (oi := ?oi10) (v := .int .i64 m) ?hi10 (by kernel_rfl) (by kernel_rfl) (by kernel_rfl) (fun _ _ _ h => h) ?hy10 hS2 ?rest10
      case hi10 => simp only [List.getElem?_toArray, List.getElem?_cons_succ, List.getElem?_cons_zero]; rfl
      case hy10 => exact Or.inl ⟨rfl, fun _ hSw => rfl⟩
      simp only [Act.put, List.setIfInBounds_toArray, List.set_cons_zero, List.set_cons_succ]
      refine wpAnyH_take (i := 9) (oi := ?oi11) (v := .int .i64 (D : Int)) ?hi11 (by kernel_rfl) (by kernel_rfl) (by kernel_rfl) (fun _ _ _ h => h) ?hy11 hS2 ?rest11
      case hi11 => simp only [List.getElem?_toArray, List.getElem?_cons_succ, List.getElem?_cons_zero]; rfl
      case hy11 => exact Or.inl ⟨rfl, fun _ hSw => by go_simp⟩
      simp only [Act.put, List.setIfInBounds_toArray, List.set_cons_zero, List.set_cons_succ]
      refine wpAnyH_take (i := 10) (oi := ?oi12) (v := .int .i64 (p : Int)) ?hi12 (by kernel_rfl) (by kernel_rfl) (by kernel_rfl) (fun _ _ _ h => h) ?hy12 hS2 ?rest12
      case hi12 => simp only [List.getElem?_toArray, List.getElem?_cons_succ, List.getElem?_cons_zero]; rfl
      case hy12 => exact Or.inl ⟨rfl, fun _ hSw => by go_simp⟩
      simp only [Act.put, List.setIfInBounds_toArray, List.set_cons_zero, List.set_cons_succ]
      refine wpAnyH_take (i := 11) (oi := ?oi13) (v := .int .i64 ((n : Int) + (p : Int))) ?hi13 (by kernel_rfl) (by kernel_rfl) (by kernel_rfl) (fun _ _ _ h => h) ?hy13 hS2 ?rest13
      case hi13 => simp only [List.getElem?_toArray, List.getElem?_cons_succ, List.getElem?_cons_zero]; rfl
      case hy13 => exact Or.inl ⟨rfl, fun _ hSw => by go_simp⟩
      simp only [Act.put, List.setIfInBounds_toArray, List.set_cons_zero, List.set_cons_succ]
      refine wpAnyH_take (i := 12) (oi := ?oi14) (v := .string X) ?hi14 (by kernel_rfl) (by kernel_rfl) (by kernel_rfl) (fun _ _ _ h => h) ?hy14 hS2 ?rest14
      case hi14 => simp only [List.getElem?_toArray, List.getElem?_cons_succ, List.getElem?_cons_zero]; rfl
      case hy14 => exact Or.inl ⟨rfl, fun _ hSw => rfl⟩
      simp only [Act.put, List.setIfInBounds_toArray, List.set_cons_zero, List.set_cons_succ]
      refine wpAnyH_take (i := 13) (oi := ?oi15) (v := .slice ao1 S.length ca1) ?hi15 (by kernel_rfl) (by kernel_rfl) (by kernel_rfl) (fun _ _ _ h => h) ?hy15 hS2 ?rest15
      case hi15 => simp only [List.getElem?_toArray, List.getElem?_cons_succ, List.getElem?_cons_zero]; rfl
      case hy15 => exact Or.inl ⟨rfl, fun _ hSw => rfl⟩
      simp only [Act.put, List.setIfInBounds_toArray, List.set_cons_zero, List.set_cons_succ]
      refine wpAnyH_ready (rs := [14]) (by kernel_rfl) (by simp) ?_
      refine AllReadyH.cons (o := ?oi16) ?hi16 ?step16 AllReadyH.nil
      case hi16 => simp only [List.getElem?_toArray, List.getElem?_cons_succ, List.getElem?_cons_zero]; rfl
      intro K hK
      go_simp
      refine (HH2.out _ _ _ hS2.tab hS2.sums).mono ?_
      rintro e wc ⟨rfl, hbc⟩
      refine hK.out _ _ (hS2.keep hbc) (fun hS3 => ?_)
      clear hK K
      try simp only [Act.put, List.setIfInBounds_toArray, List.set_cons_zero, List.set_cons_succ]
      refine wpAnyH_take (i := 15) (oi := ?oi17) (v := .bool true) ?hi17 (by kernel_rfl) (by kernel_rfl) (by kernel_rfl) (fun _ _ _ h => h) ?hy17 hS3 ?rest17
      case hi17 => simp only [List.getElem?_toArray, List.getElem?_cons_succ, List.getElem?_cons_zero]; rfl
      case hy17 => exact Or.inl ⟨rfl, fun _ hSw => by go_simp⟩
      simp only [Act.put, List.setIfInBounds_toArray, List.set_cons_zero, List.set_cons_succ]
      refine wpAnyH_take (i := 16) (oi := ?oi18) (v := .bool true) ?hi18 (by kernel_rfl) (by kernel_rfl) (by kernel_rfl) (fun _ _ _ h => h) ?hy18 hS3 ?rest18
      case hi18 => simp only [List.getElem?_toArray, List.getElem?_cons_succ, List.getElem?_cons_zero]; rfl
      case hy18 => exact Or.inl ⟨rfl, fun _ hSw => by go_simp⟩
      simp only [Act.put, List.setIfInBounds_toArray, List.set_cons_zero, List.set_cons_succ]
      refine wpAnyH_take (i := 17) (oi := ?oi19) (v := .bool true) ?hi19 (by kernel_rfl) (by kernel_rfl) (by kernel_rfl) (fun _ _ _ h => h) ?hy19 hS3 ?rest19
      case hi19 => simp only [List.getElem?_toArray, List.getElem?_cons_succ, List.getElem?_cons_zero]; rfl
      case hy19 => exact Or.inl ⟨rfl, fun _ hSw => rfl⟩
      simp only [Act.put, List.setIfInBounds_toArray, List.set_cons_zero, List.set_cons_succ]
      refine wpAnyH_done (by kernel_rfl) ?_ _
      refine NoPanic.normal ?_
      go_wp2
      go_ret
      exact ⟨rfl, hS3.bel⟩
    · have g3 : ¬ (n : Int) < F.length := by omega
      rw [Tx.getD_out F [] n (by omega)] at HH1 HH2
      go_upto_region 13 with (refine wpList_max_g rfl _ _ _ rfl 0 m _ rfl rfl hmax ?_)
      obtain ⟨X, hX⟩ : ∃ X, X = str ([] : List Nat) := ⟨_, rfl⟩
      rw [← hX] at HH1 HH2
      rw [show (⟨#[]⟩ : ByteArray) = X from hX.symm]
      clear hX
      have hmx2 : (if 0 < m then m else 0) = (D : Int) := by rw [← hmax]; split <;> omega
      have hwn : IntKind.i64.wrap ((n : Int) + (p : Int)) = (n : Int) + (p : Int) := by simp [IntKind.wrap, IntKind.bits, IntKind.signed]; omega
      have hp2 : IntKind.i64.wrap ((2 : Int) ^ D) = (p : Int) := by rw [IntKind.wrap_i64]; simpa only [wrap64] using hp
      clear hmax
      refine wp_region_noPanic ?_
      refine wp_region_held_drew (S := Ts w q R (.slice ao1 S.length ca1) S ao' F) (by kernel_rfl) (CA.out.keep ((Below.refl _ _).drew)) (fun hS1 => ?_)
      change wpAnyH _ _ _ _ _ 18 _ _ _
      refine wpAnyH_take (i := 0) (oi := ?oi22) (v := .agg (ints .u8 R).toList.toArray) ?hi22 (by kernel_rfl) (by kernel_rfl) (by kernel_rfl) (fun _ _ _ h => h) ?hy22 hS1 ?rest22
      case hi22 => simp only [List.getElem?_toArray, List.getElem?_cons_zero]; rfl
      case hy22 => 
        refine yieldsIf_load_mid ?w22 _ ?x22 ?o22 q 0 ?e22 (ints .u8 R).toList _ ?s22 Tryd.underlying27 rfl ia
        case o22 => rfl
        case w22 => rfl
        case e22 => rfl
        case s22 => intro _ hSw; exact range_row hSw.ro
      simp only [Act.put, List.setIfInBounds_toArray, List.set_cons_zero, List.set_cons_succ, Array.toArray_toList]
      refine wpAnyH_take (i := 1) (oi := ?oi23) (v := .int .i64 (n : Int)) ?hi23 (by kernel_rfl) (by kernel_rfl) (by kernel_rfl) (fun _ _ _ h => h) ?hy23 hS1 ?rest23
      case hi23 => simp only [List.getElem?_toArray, List.getElem?_cons_succ, List.getElem?_cons_zero]; rfl
      case hy23 => exact Or.inl ⟨rfl, fun _ hSw => rfl⟩
      simp only [Act.put, List.setIfInBounds_toArray, List.set_cons_zero, List.set_cons_succ]
      refine wpAnyH_take (i := 2) (oi := ?oi24) (v := .string X) ?hi24 (by kernel_rfl) (by kernel_rfl) (by kernel_rfl) (fun _ _ _ h => h) ?hy24 hS1 ?rest24
      case hi24 => simp only [List.getElem?_toArray, List.getElem?_cons_succ, List.getElem?_cons_zero]; rfl
      case hy24 => exact Or.inl ⟨rfl, fun _ hSw => rfl⟩
      simp only [Act.put, List.setIfInBounds_toArray, List.set_cons_zero, List.set_cons_succ]
      refine wpAnyH_take (i := 3) (oi := ?oi25) (v := .slice ao1 S.length ca1) ?hi25 (by kernel_rfl) (by kernel_rfl) (by kernel_rfl) (fun _ _ _ h => h) ?hy25 hS1 ?rest25
      case hi25 => simp only [List.getElem?_toArray, List.getElem?_cons_succ, List.getElem?_cons_zero]; rfl
      case hy25 => exact Or.inl ⟨rfl, fun _ hSw => rfl⟩
      simp only [Act.put, List.setIfInBounds_toArray, List.set_cons_zero, List.set_cons_succ]
      refine wpAnyH_ready (rs := [4]) (by kernel_rfl) (by simp) ?_
      refine AllReadyH.cons (o := ?oi26) ?hi26 ?step26 AllReadyH.nil
      case hi26 => simp only [List.getElem?_toArray, List.getElem?_cons_succ, List.getElem?_cons_zero]; rfl
      intro K hK
      go_simp
      refine (HH1.out _ _ _ hS1.tab hS1.sums).mono ?_
      rintro e wb ⟨rfl, hbb⟩
      refine hK.out _ _ (hS1.keep hbb) (fun hS2 => ?_)
      clear hK K
      try simp only [Act.put, List.setIfInBounds_toArray, List.set_cons_zero, List.set_cons_succ]
      refine wpAnyH_take (i := 5) (oi := ?oi27) (v := .bool true) ?hi27 (by kernel_rfl) (by kernel_rfl) (by kernel_rfl) (fun _ _ _ h => h) ?hy27 hS2 ?rest27
      case hi27 => simp only [List.getElem?_toArray, List.getElem?_cons_succ, List.getElem?_cons_zero]; rfl
      case hy27 => exact Or.inl ⟨rfl, fun _ hSw => rfl⟩
      simp only [Act.put, List.setIfInBounds_toArray, List.set_cons_zero, List.set_cons_succ]
      refine wpAnyH_take (i := 6) (oi := ?oi28) (v := .agg (ints .u8 R).toList.toArray) ?hi28 (by kernel_rfl) (by kernel_rfl) (by kernel_rfl) (fun _ _ _ h => h) ?hy28 hS2 ?rest28
      case hi28 => simp only [List.getElem?_toArray, List.getElem?_cons_succ, List.getElem?_cons_zero]; rfl
      case hy28 => 
        refine yieldsIf_load_mid ?w28 _ ?x28 ?o28 q 0 ?e28 (ints .u8 R).toList _ ?s28 Tryd.underlying27 rfl ia
        case o28 => rfl
        case w28 => rfl
        case e28 => rfl
        case s28 => intro _ hSw; exact range_row hSw.ro
      simp only [Act.put, List.setIfInBounds_toArray, List.set_cons_zero, List.set_cons_succ, Array.toArray_toList]
      refine wpAnyH_take (i := 7) (oi := ?oi29) (v := .int .i64 (n : Int)) ?hi29 (by kernel_rfl) (by kernel_rfl) (by kernel_rfl) (fun _ _ _ h => h) ?hy29 hS2 ?rest29
      case hi29 => simp only [List.getElem?_toArray, List.getElem?_cons_succ, List.getElem?_cons_zero]; rfl
      case hy29 => exact Or.inl ⟨rfl, fun _ hSw => rfl⟩
      simp only [Act.put, List.setIfInBounds_toArray, List.set_cons_zero, List.set_cons_succ]
      refine wpAnyH_take (i := 8) (oi := ?oi30) (v := .int .i64 m) ?hi30 (by kernel_rfl) (by kernel_rfl) (by kernel_rfl) (fun _ _ _ h => h) ?hy30 hS2 ?rest30
      case hi30 => simp only [List.getElem?_toArray, List.getElem?_cons_succ, List.getElem?_cons_zero]; rfl
      case hy30 => exact Or.inl ⟨rfl, fun _ hSw => rfl⟩
      simp only [Act.put, List.setIfInBounds_toArray, List.set_cons_zero, List.set_cons_succ]
      refine wpAnyH_take (i := 9) (oi := ?oi31) (v := .int .i64 (D : Int)) ?hi31 (by kernel_rfl) (by kernel_rfl) (by kernel_rfl) (fun _ _ _ h => h) ?hy31 hS2 ?rest31
      case hi31 => simp only [List.getElem?_toArray, List.getElem?_cons_succ, List.getElem?_cons_zero]; rfl
      case hy31 => exact Or.inl ⟨rfl, fun _ hSw => by go_simp⟩
      simp only [Act.put, List.setIfInBounds_toArray, List.set_cons_zero, List.set_cons_succ]
      refine wpAnyH_take (i := 10) (oi := ?oi32) (v := .int .i64 (p : Int)) ?hi32 (by kernel_rfl) (by kernel_rfl) (by kernel_rfl) (fun _ _ _ h => h) ?hy32 hS2 ?rest32
      case hi32 => simp only [List.getElem?_toArray, List.getElem?_cons_succ, List.getElem?_cons_zero]; rfl
      case hy32 => exact Or.inl ⟨rfl, fun _ hSw => by go_simp⟩
      simp only [Act.put, List.setIfInBounds_toArray, List.set_cons_zero, List.set_cons_succ]
      refine wpAnyH_take (i := 11) (oi := ?oi33) (v := .int .i64 ((n : Int) + (p : Int))) ?hi33 (by kernel_rfl) (by kernel_rfl) (by kernel_rfl) (fun _ _ _ h => h) ?hy33 hS2 ?rest33
      case hi33 => simp only [List.getElem?_toArray, List.getElem?_cons_succ, List.getElem?_cons_zero]; rfl
      case hy33 => exact Or.inl ⟨rfl, fun _ hSw => by go_simp⟩
      simp only [Act.put, List.setIfInBounds_toArray, List.set_cons_zero, List.set_cons_succ]
      refine wpAnyH_take (i := 12) (oi := ?oi34) (v := .string X) ?hi34 (by kernel_rfl) (by kernel_rfl) (by kernel_rfl) (fun _ _ _ h => h) ?hy34 hS2 ?rest34
      case hi34 => simp only [List.getElem?_toArray, List.getElem?_cons_succ, List.getElem?_cons_zero]; rfl
      case hy34 => exact Or.inl ⟨rfl, fun _ hSw => rfl⟩
      simp only [Act.put, List.setIfInBounds_toArray, List.set_cons_zero, List.set_cons_succ]
      refine wpAnyH_take (i := 13) (oi := ?oi35) (v := .slice ao1 S.length ca1) ?hi35 (by kernel_rfl) (by kernel_rfl) (by kernel_rfl) (fun _ _ _ h => h) ?hy35 hS2 ?rest35
      case hi35 => simp only [List.getElem?_toArray, List.getElem?_cons_succ, List.getElem?_cons_zero]; rfl
      case hy35 => exact Or.inl ⟨rfl, fun _ hSw => rfl⟩
      simp only [Act.put, List.setIfInBounds_toArray, List.set_cons_zero, List.set_cons_succ]
      refine wpAnyH_ready (rs := [14]) (by kernel_rfl) (by simp) ?_
      refine AllReadyH.cons (o := ?oi36) ?hi36 ?step36 AllReadyH.nil
      case hi36 => simp only [List.getElem?_toArray, List.getElem?_cons_succ, List.getElem?_cons_zero]; rfl
      intro K hK
      go_simp
      refine (HH2.out _ _ _ hS2.tab hS2.sums).mono ?_
      rintro e wc ⟨rfl, hbc⟩
      refine hK.out _ _ (hS2.keep hbc) (fun hS3 => ?_)
      clear hK K
      try simp only [Act.put, List.setIfInBounds_toArray, List.set_cons_zero, List.set_cons_succ]
      refine wpAnyH_take (i := 15) (oi := ?oi37) (v := .bool true) ?hi37 (by kernel_rfl) (by kernel_rfl) (by kernel_rfl) (fun _ _ _ h => h) ?hy37 hS3 ?rest37
      case hi37 => simp only [List.getElem?_toArray, List.getElem?_cons_succ, List.getElem?_cons_zero]; rfl
      case hy37 => exact Or.inl ⟨rfl, fun _ hSw => by go_simp⟩
      simp only [Act.put, List.setIfInBounds_toArray, List.set_cons_zero, List.set_cons_succ]
      refine wpAnyH_take (i := 16) (oi := ?oi38) (v := .bool true) ?hi38 (by kernel_rfl) (by kernel_rfl) (by kernel_rfl) (fun _ _ _ h => h) ?hy38 hS3 ?rest38
      case hi38 => simp only [List.getElem?_toArray, List.getElem?_cons_succ, List.getElem?_cons_zero]; rfl
      case hy38 => exact Or.inl ⟨rfl, fun _ hSw => by go_simp⟩
      simp only [Act.put, List.setIfInBounds_toArray, List.set_cons_zero, List.set_cons_succ]
      refine wpAnyH_take (i := 17) (oi := ?oi39) (v := .bool true) ?hi39 (by kernel_rfl) (by kernel_rfl) (by kernel_rfl) (fun _ _ _ h => h) ?hy39 hS3 ?rest39
      case hi39 => simp only [List.getElem?_toArray, List.getElem?_cons_succ, List.getElem?_cons_zero]; rfl
      case hy39 => exact Or.inl ⟨rfl, fun _ hSw => rfl⟩
      simp only [Act.put, List.setIfInBounds_toArray, List.set_cons_zero, List.set_cons_succ]
      refine wpAnyH_done (by kernel_rfl) ?_ _
      refine NoPanic.normal ?_
      go_wp2
      go_ret
      exact ⟨rfl, hS3.bel⟩
  · have hS0 := HNS.out hpos
    subst hS0
    rw [show ([] : List (List Nat)).length = 0 from rfl]
    by_cases hneg : i < 0
    · go_wp2
      go_ret
      exact ⟨rfl, CA.out.bel⟩
    · obtain ⟨n, rfl⟩ : ∃ n : Nat, i = (n : Int) := ⟨i.toNat, by omega⟩
      have g2 : (p : Int) ≤ (n : Int) := by omega
      have g1 : ¬ (n : Int) < 0 := by omega
      clear hpos HPOS HHA HNS HPI
      go_wp2_with (refine wpList_max_g rfl _ _ _ rfl 0 m _ rfl rfl hmax ?_)
      go_ret
      exact ⟨rfl, CA.out.bel⟩


set_option maxRecDepth 100000 in
theorem contract (H : Type) (enc : TypeId × Value → H) (W : World) (base : Nat) (args : Array Value) (ds gs : List (DataW H)) (before : List MemPlace)
    (hval : ∀ (j : Nat) t v, Tryd.f3.params[j]? = some t → args[j]? = some v → Value.okWide Tryd.prog W .any base t v)
    (hW : DataW.Whole enc Tryd.prog Tryd.f3.params.toList Rows.treeShowsSpec.vars false W args.toList ds gs before) (hL : laidMetH Tryd.prog Rows.treeShowsRow.laid W) :
    Calls Tryd.prog 3 args W fun e W' => ∃ v, e = .returned v ∧ Rows.treeShowsSpec.post enc Tryd.prog Tryd.f3 false true false false W args v W' := by
  have hW' := hW
  obtain ⟨p, q, hA0, hV, rfl, hfz, hnd⟩ := hW
  have hA : DataW.TrodAll enc Tryd.prog W 0 (fun _ => true) true Tryd.f3.params.toList args.toList ds p := hA0
  rw [Tryd.params3] at hA hval
  obtain ⟨v0, vs0, d0, ds0, p0, q0, hargs, rfl, rfl, h0, r0⟩ := trodAll_cons hA
  obtain ⟨v1, vs1, d1, ds1, p1, q1, rfl, rfl, rfl, h1, r1⟩ := trodAll_cons r0
  obtain ⟨v2, vs2, d2, ds2, p2, q2, rfl, rfl, rfl, h2, r2⟩ := trodAll_cons r1
  obtain ⟨rfl, rfl, rfl⟩ := trodAll_nil r2
  obtain rfl : args = #[v0, v1, v2] := by cases args; simp_all
  obtain ⟨n0, rfl, rfl, rfl, wn0⟩ := open_int Tryd.underlying3 (hval 0 3 v0 rfl rfl) h0
  obtain ⟨n1, rfl, rfl, rfl, wn1⟩ := open_int Tryd.underlying3 (hval 1 3 v1 rfl rfl) h1
  obtain ⟨ao2, L2, cap2, rfl, hL2, hb2⟩ := open_strs (hval 2 22 v2 rfl rfl) h2
  refine (walk n0 n1 ao2 L2 cap2 W (tabs_of hL) hL2 hb2.1 hb2.2).mono fun e W' ⟨he, hb⟩ => ?_
  subst he
  exact ⟨_, rfl, law_post rfl rfl (by rw [Tryd.params3]; decide +kernel) hW' rfl hb⟩

theorem laid_met (os : Os) : laidMet Tryd.prog Rows.treeShowsRow.laid ((laidWorld os).forCall (fun _ _ => 0) ⟨#[], #[.int .i64 0, .int .i64 0, .slice none 0 0], []⟩).memory :=
  laidMet_of_run' 8 (by kernel_rfl) (by kernel_rfl)
theorem reads (os : Os) {H : Type} (enc : TypeId × Value → H) : ∃ places, DataW.whole enc Tryd.prog ((laidWorld os).forCall (fun _ _ => 0) ⟨#[], #[.int .i64 0, .int .i64 0, .slice none 0 0], []⟩).memory Tryd.f3.params.toList Rows.treeShowsSpec.vars false (#[.int .i64 0, .int .i64 0, .slice none 0 0] : Array Value).toList 8
    = some ([.lit (.int .i64 0), .lit (.int .i64 0), .nil], [], places) :=
  ⟨[], by kernel_rfl⟩

set_option maxRecDepth 100000 in
theorem lifted (os : Os) (started : os.Started) (H : Type) (enc : TypeId × Value → H) (F : Stop.Interp) :
    ReturnsInHanded {} Tryd.checked os 3 .any ((OpenSpec.ofChange Rows.treeShowsSpec).preRow enc Tryd.prog Tryd.f3 Rows.treeShowsRow.domain false Rows.treeShowsRow.laid) (((OpenSpec.ofChange Rows.treeShowsSpec).at F).post enc Tryd.prog Tryd.f3 false true false false) := by
  obtain ⟨places, hx⟩ := reads os enc
  refine returnsInHanded_of_row (C := Tryd.checked) (s := OpenSpec.ofChange Rows.treeShowsSpec) own started (by kernel_rfl) Tryd.func3
    (witness_row_at (enc := enc) (C := Tryd.checked) false (laidWorld os) #[.int .i64 0, .int .i64 0, .slice none 0 0] rfl (by kernel_rfl) (by kernel_rfl) (by kernel_rfl)
      (OpenSpec.preRow_of_cond 8 hx (by kernel_rfl) (fun k hk => by cases hk) (by kernel_rfl) (laid_met os))) ?_
  intro W base args ds gs before hval hW _ _ _ hL _ _
  exact contract H enc W base args ds gs before hval hW hL

theorem said : Rows.TreeShowsSaid :=
  OpenClaim.holds_of_cond 3 Tryd.f3 rfl rfl rfl rfl rfl rfl rfl ⟨rfl, rfl, rfl, rfl, rfl⟩ rfl rfl rfl rfl rfl (by kernel_rfl) Tryd.func3 (by kernel_rfl)
    (of_decide_eq_true (by kernel_rfl)) (by unfold Func.isWrapper; first | (rw [if_pos (by decide +kernel)]; kernel_rfl) | (rw [if_neg (by decide +kernel)]; exact ⟨rfl, rfl⟩))
    (fun os started H enc _ F => by rw [OpenClaim.pre_eq_preRow]; exact lifted os started H enc F)

theorem plain (f : FuncId) (fn : Func) (hf : Tryd.pinned.checked.prog.funcNamed "sealwax/sealwaxlaw07.TreeShows" = some f) (hfn : Tryd.pinned.checked.prog.funcs[f]? = some fn) :
    false = Tryd.pinned.checked.prog.looks [] ∧ ∀ (j : Nat) t, fn.params[j]? = some t → Tryd.pinned.checked.prog.wantsStandIn t = false := by
  obtain rfl : f = 3 := Option.some.inj ((show Tryd.prog.funcNamed "sealwax/sealwaxlaw07.TreeShows" = some 3 by kernel_rfl).symm.trans hf) |>.symm
  obtain rfl : fn = Tryd.f3 := (Option.some.inj (Tryd.func3.symm.trans hfn)).symm
  refine ⟨by kernel_rfl, fun j t ht => ?_⟩
  rw [Tryd.params3] at ht
  have hmem := Array.mem_of_getElem? ht
  exact (show ∀ t ∈ (Tryd.f3.params), Tryd.prog.wantsStandIn t = false from by rw [Tryd.params3]; decide +kernel) t (by rw [Tryd.params3]; exact hmem)

theorem card : Rows.TreeShowsCardSaid :=
  Claim7.holds_tied_plain_at .later [] _ _ _ _ said (fun _ h => by cases h) (by kernel_rfl) (fun _ h => by cases h) treeShows_row_tie rfl ⟨rfl, rfl⟩ (by kernel_rfl) rfl plain (by kernel_rfl)


end TreeShows
theorem treeShows_card : Rows.TreeShowsCardSaid := TreeShows.card
end Go.Proofs.YtabhdjahdhhgiaaDoor
