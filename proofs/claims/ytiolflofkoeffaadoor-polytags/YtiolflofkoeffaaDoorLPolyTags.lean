/-
  The tag of any texts is the document's (law PolyTags); for every input.
-/
import Derived.Test.YtiolflofkoeffaaDoorLPx
import Derived.Test.YtiolflofkoeffaaDoorRef4f
namespace Go.Proofs.YtiolflofkoeffaaDoor
open Go.ChangeShapes Go.WideShapes Go.ChangeAt Go.RowKit
open Go.Lib (hid)

namespace PolyTags
/-- A world for the witnesses: the settled one, the table holding what its initialiser lays. -/
noncomputable def laidWorld (os : Os) : World :=
  { World.holding Tryd.prog os ⟨#[], #[], []⟩ with heap := (World.holding Tryd.prog os ⟨#[], #[], []⟩).heap.modify 1 (relaid (ints .u8 Px.kept)) }
def S (w : World) (ao : Option Addr) (F : List (List Nat)) (key : List Nat) (u : World) : Prop := Row u w.heap.size .u8 22 key ∧ Strs u ao F ∧ Below w.heap.size w u ∧ TabK u
theorem S.keep {w : World} {ao : Option Addr} {F : List (List Nat)} {key : List Nat} {u u' : World} (h : S w ao F key u) (hb : Below u.heap.size u u') : S w ao F key u' :=
  ⟨h.1.below hb h.1.lt, h.2.1.below hb, h.2.2.1.trans (hb.mono h.2.2.1.size), h.2.2.2.below hb (Nat.le_refl _)⟩

set_option maxHeartbeats 4000000 in
set_option maxRecDepth 100000 in
theorem walk (key : List Nat) (hkl : key.length = 32) (hkb : ∀ x ∈ key, x < 256) (ao : Option Addr) (L : List ByteArray) (cap : Nat) (w : World) (hT : TabK w) (hA : StrsB w ao L) (hL : L.length ≤ maxLen) (hss : ∀ s ∈ L, s.size ≤ maxLen) :
    Calls Tryd.prog 4 #[.agg (ints .u8 key), .slice ao L.length cap] w fun e w' => e = .returned (.bool true) ∧ Below w.heap.size w w' := by
  have HT := hid hT
  have HKB := hid hkb
  have HA := hid hA
  have HLL := hid hL
  have HSS := hid hss
  clear hT hkb hA hL hss
  have hs1 : (ints .u8 key).size = 32 := by rw [ints_size, hkl]
  go_enter Tryd.func4, Tryd.ntmps4
  go_upto_region 1 with (fail)
  generalize hw0 : w.alloc _ = w0
  have HA0 := hid (show Row w0 w.heap.size .u8 22 key from by rw [← hw0]; unfold Row; rw [heap_alloc_new])
  have HW0 := hid (show Below w.heap.size w w0 from by rw [← hw0]; exact (Below.refl _ _).alloc (Nat.le_refl _) _)
  clear hw0
  go_wp2_with fail
  refine (awake4_any _ (HT.out.below HW0.out (Nat.le_refl _))).mono ?_
  rintro e w1 ⟨rfl, hb1⟩
  have HA1 := hid (HA0.out.below hb1 HA0.out.lt)
  have HW1 := hid (HW0.out.trans (hb1.mono HW0.out.size))
  clear hb1 HA0 HW0
  go_wp2_with fail
  refine (few_any ao L cap 5 60 _ (HA.out.below HW1.out) HLL.out HSS.out (by omega) (by omega)).mono ?_
  rintro e w2 ⟨v, rfl, hown, hb2⟩
  obtain ⟨ao', cap', rfl, hstr⟩ := hown.strs
  have hfl := few_flatten_le L 5 60
  have hflt := few_lt L 5 60
  have hfn : (few L 5 60).length ≤ 5 := by rw [few_length]; omega
  generalize few L 5 60 = F at *
  have HS2 := hid (show S w ao' F key w2 from ⟨HA1.out.below hb2 HA1.out.lt, hstr, HW1.out.trans (hb2.mono HW1.out.size), HT.out.below (HW1.out.trans (hb2.mono HW1.out.size)) (Nat.le_refl _)⟩)
  have HFLT := hid hflt
  have HSTR := hid hstr
  clear hflt hstr hown hb2 HA HLL HSS HA1 HW1
  go_upto_region 6 with (fail)
  go_loopw [5, 7, 14] (fun al _ i wr => w2 = wr ∧ ∃ k : Nat, k ≤ F.length ∧ i = .int .i64 k ∧ al = .string (str (F.take k).flatten))
    (fun _ _ i _ => F.length - (intOf i).toNat)
  case atStart => exact ⟨rfl, 0, Nat.zero_le _, rfl, rfl⟩
  case round =>
    obtain ⟨hw, k, hk, rfl, rfl⟩ := hrel
    subst hw
    by_cases hlt : k < F.length
    · obtain ⟨sb, so, rfl, hc⟩ := HSTR.out k hlt
      have hfs := flatten_take_succ F k hlt
      have hle := flatten_take_le F (k + 1)
      rw [hfs] at hle
      simp only [List.length_append] at hle
      have z1 : (str (F.take k).flatten).size ≤ 1000 := by rw [str_size]; omega
      have z2 : (str (F.getD k [])).size ≤ 1000 := by rw [str_size]; omega
      have HAP := hid (str_append (F.take k).flatten (F.getD k []))
      rw [← hfs] at HAP
      clear hfs hle
      generalize str (F.getD k []) = X at *
      generalize str (F.take k).flatten = Y at *
      go_wp2_with fail
      go_roundw
      case rel =>
        first
          | exact ⟨by trivial, k + 1, by omega, by go_num, by rw [HAP.out]⟩
          | ((repeat apply Exists.intro); refine ⟨?_, rfl⟩; exact ⟨by trivial, k + 1, by omega, by go_num, by rw [HAP.out]⟩)
      case measure => simp [intOf]; omega
    · obtain rfl : k = F.length := by omega
      rw [List.take_length]
      have HOF := hid (fun (u : World) (hu : TabK u) (hS : Strs u ao' F) => pof_any key HKB.out hkl ao' F cap' (by omega) HFLT.out u hu hS)
      have HO1 := hid (fun (u : World) (hu : TabK u) (ad : Option Addr) (hS : Strs u ad [F.flatten]) => pof_any key HKB.out hkl ad [F.flatten] 1 (by simp) (by simpa using HFLT.out) u hu hS)
      rw [show [F.flatten].flatten = F.flatten from by simp] at HO1
      have HRF := hid (fun wx => rof_any key F.flatten hkl HKB.out (by omega) HFLT.out wx)
      have hdl := Px.of_length key F.flatten
      have HDB := hid (Px.of_lt key F.flatten)
      have HTX := hid (fun wx => ttext_any (Px.of key F.flatten) hdl wx)
      have HEQ := hid (fun wx => pequal_any (Px.of key F.flatten) (Px.of key F.flatten) hdl hdl HDB.out HDB.out wx)
      rw [beq_self_eq_true] at HEQ
      have HLT := hid (fun (u : World) => ltext4_any key hkl u)
      have HST1 := hid (fun (u : World) => strs_one u F.flatten 9)
      clear HSTR hfl
      generalize Px.of key F.flatten = D at *
      generalize F.flatten = T at *
      generalize str T = ST at *
      generalize str D = SD at *
      generalize str key = SK at *
      have i22 : (Tryd.prog.info? 22).map (·.size) = some (ints .u8 key).toList.length := by rw [ints_llen, hkl]; exact info22
      go_upto_region 10 with (fail)
      refine wp_region_noPanic ?_
      refine wp_region_held_drew (S := S w ao' F key) (by kernel_rfl) (HS2.out.keep ((Below.refl _ _).drew)) (fun hS1 => ?_)
      change wpAnyH _ _ _ _ _ 20 _ _ _
      refine wpAnyH_take (i := 0) (oi := ?oi2) (v := .agg (ints .u8 key).toList.toArray) ?hi2 (by kernel_rfl) (by kernel_rfl) (by kernel_rfl) (fun _ _ _ h => h) ?hy2 hS1 ?rest2
      case hi2 => simp only [List.getElem?_toArray, List.getElem?_cons_zero]; rfl
      case hy2 => 
        refine yieldsIf_load_mid ?w2 _ ?x2 ?o2 w.heap.size 0 ?e2 (ints .u8 key).toList _ ?s2 Tryd.underlying22 rfl i22
        case o2 => rfl
        case w2 => rfl
        case e2 => rfl
        case s2 => intro _ hSw; exact row_range0 hSw.1
      simp only [Act.put, List.setIfInBounds_toArray, List.set_cons_zero, List.set_cons_succ, Array.toArray_toList]
      refine wpAnyH_take (i := 1) (oi := ?oi3) (v := .slice ao' F.length cap') ?hi3 (by kernel_rfl) (by kernel_rfl) (by kernel_rfl) (fun _ _ _ h => h) ?hy3 hS1 ?rest3
      case hi3 => simp only [List.getElem?_toArray, List.getElem?_cons_succ, List.getElem?_cons_zero]; rfl
      case hy3 => exact Or.inl ⟨rfl, fun _ hSw => rfl⟩
      simp only [Act.put, List.setIfInBounds_toArray, List.set_cons_zero, List.set_cons_succ]
      refine wpAnyH_take (i := 4) (oi := ?oi4) (v := .agg (ints .u8 key).toList.toArray) ?hi4 (by kernel_rfl) (by kernel_rfl) (by kernel_rfl) (fun _ _ _ h => h) ?hy4 hS1 ?rest4
      case hi4 => simp only [List.getElem?_toArray, List.getElem?_cons_succ, List.getElem?_cons_zero]; rfl
      case hy4 => 
        refine yieldsIf_load_mid ?w4 _ ?x4 ?o4 w.heap.size 0 ?e4 (ints .u8 key).toList _ ?s4 Tryd.underlying22 rfl i22
        case o4 => rfl
        case w4 => rfl
        case e4 => rfl
        case s4 => intro _ hSw; exact row_range0 hSw.1
      simp only [Act.put, List.setIfInBounds_toArray, List.set_cons_zero, List.set_cons_succ, Array.toArray_toList]
      refine wpAnyH_take (i := 6) (oi := ?oi5) (v := .string ST) ?hi5 (by kernel_rfl) (by kernel_rfl) (by kernel_rfl) (fun _ _ _ h => h) ?hy5 hS1 ?rest5
      case hi5 => simp only [List.getElem?_toArray, List.getElem?_cons_succ, List.getElem?_cons_zero]; rfl
      case hy5 => exact Or.inl ⟨rfl, fun _ hSw => rfl⟩
      simp only [Act.put, List.setIfInBounds_toArray, List.set_cons_zero, List.set_cons_succ]
      refine wpAnyH_ready (rs := [2]) (by kernel_rfl) (by simp) ?_
      refine AllReadyH.cons (o := ?oi6) ?hi6 ?step6 AllReadyH.nil
      case hi6 => simp only [List.getElem?_toArray, List.getElem?_cons_succ, List.getElem?_cons_zero]; rfl
      intro K hK
      go_simp
      refine (HOF.out _ hS1.2.2.2 hS1.2.1).mono ?_
      rintro e w3 ⟨rfl, hb3⟩
      refine hK.out _ _ (hS1.keep hb3) (fun hS3 => ?_)
      clear hK K
      try simp only [Act.put, List.setIfInBounds_toArray, List.set_cons_zero, List.set_cons_succ]
      refine wpAnyH_ready (rs := [3]) (by kernel_rfl) (by simp) ?_
      refine AllReadyH.cons (o := ?oi7) ?hi7 ?step7 AllReadyH.nil
      case hi7 => simp only [List.getElem?_toArray, List.getElem?_cons_succ, List.getElem?_cons_zero]; rfl
      intro K hK
      go_simp
      refine (HTX.out _).mono ?_
      rintro e w4 ⟨rfl, hb4⟩
      refine hK.out _ _ (hS3.keep hb4) (fun hS4 => ?_)
      clear hK K
      try simp only [Act.put, List.setIfInBounds_toArray, List.set_cons_zero, List.set_cons_succ]
      refine wpAnyH_ready (rs := [5]) (by kernel_rfl) (by simp) ?_
      refine AllReadyH.cons (o := ?oi8) ?hi8 ?step8 AllReadyH.nil
      case hi8 => simp only [List.getElem?_toArray, List.getElem?_cons_succ, List.getElem?_cons_zero]; rfl
      intro K hK
      go_simp
      refine (HLT.out _).mono ?_
      rintro e w5 ⟨rfl, hb5⟩
      refine hK.out _ _ (hS4.keep hb5) (fun hS5 => ?_)
      clear hK K
      try simp only [Act.put, List.setIfInBounds_toArray, List.set_cons_zero, List.set_cons_succ]
      refine wpAnyH_ready (rs := [7]) (by kernel_rfl) (by simp) ?_
      refine AllReadyH.cons (o := ?oi9) ?hi9 ?step9 AllReadyH.nil
      case hi9 => simp only [List.getElem?_toArray, List.getElem?_cons_succ, List.getElem?_cons_zero]; rfl
      intro K hK
      go_simp
      refine (HRF.out _).mono ?_
      rintro e w6 ⟨rfl, hb6⟩
      refine hK.out _ _ (hS5.keep hb6) (fun hS6 => ?_)
      clear hK K
      try simp only [Act.put, List.setIfInBounds_toArray, List.set_cons_zero, List.set_cons_succ]
      refine wpAnyH_take (i := 8) (oi := ?oi10) (v := .bool true) ?hi10 (by kernel_rfl) (by kernel_rfl) (by kernel_rfl) (fun _ _ _ h => h) ?hy10 hS6 ?rest10
      case hi10 => simp only [List.getElem?_toArray, List.getElem?_cons_succ, List.getElem?_cons_zero]; rfl
      case hy10 => exact Or.inl ⟨rfl, fun _ hSw => by go_simp⟩
      simp only [Act.put, List.setIfInBounds_toArray, List.set_cons_zero, List.set_cons_succ]
      refine wpAnyH_take (i := 9) (oi := ?oi11) (v := .bool true) ?hi11 (by kernel_rfl) (by kernel_rfl) (by kernel_rfl) (fun _ _ _ h => h) ?hy11 hS6 ?rest11
      case hi11 => simp only [List.getElem?_toArray, List.getElem?_cons_succ, List.getElem?_cons_zero]; rfl
      case hy11 => exact Or.inl ⟨rfl, fun _ hSw => rfl⟩
      simp only [Act.put, List.setIfInBounds_toArray, List.set_cons_zero, List.set_cons_succ]
      refine wpAnyH_take (i := 10) (oi := ?oi12) (v := .agg (ints .u8 key).toList.toArray) ?hi12 (by kernel_rfl) (by kernel_rfl) (by kernel_rfl) (fun _ _ _ h => h) ?hy12 hS6 ?rest12
      case hi12 => simp only [List.getElem?_toArray, List.getElem?_cons_succ, List.getElem?_cons_zero]; rfl
      case hy12 => 
        refine yieldsIf_load_mid ?w12 _ ?x12 ?o12 w.heap.size 0 ?e12 (ints .u8 key).toList _ ?s12 Tryd.underlying22 rfl i22
        case o12 => rfl
        case w12 => rfl
        case e12 => rfl
        case s12 => intro _ hSw; exact row_range0 hSw.1
      simp only [Act.put, List.setIfInBounds_toArray, List.set_cons_zero, List.set_cons_succ, Array.toArray_toList]
      refine wpAnyH_take (i := 11) (oi := ?oi13) (v := .slice ao' F.length cap') ?hi13 (by kernel_rfl) (by kernel_rfl) (by kernel_rfl) (fun _ _ _ h => h) ?hy13 hS6 ?rest13
      case hi13 => simp only [List.getElem?_toArray, List.getElem?_cons_succ, List.getElem?_cons_zero]; rfl
      case hy13 => exact Or.inl ⟨rfl, fun _ hSw => rfl⟩
      simp only [Act.put, List.setIfInBounds_toArray, List.set_cons_zero, List.set_cons_succ]
      refine wpAnyH_take (i := 13) (oi := ?oi14) (v := .agg (ints .u8 key).toList.toArray) ?hi14 (by kernel_rfl) (by kernel_rfl) (by kernel_rfl) (fun _ _ _ h => h) ?hy14 hS6 ?rest14
      case hi14 => simp only [List.getElem?_toArray, List.getElem?_cons_succ, List.getElem?_cons_zero]; rfl
      case hy14 => 
        refine yieldsIf_load_mid ?w14 _ ?x14 ?o14 w.heap.size 0 ?e14 (ints .u8 key).toList _ ?s14 Tryd.underlying22 rfl i22
        case o14 => rfl
        case w14 => rfl
        case e14 => rfl
        case s14 => intro _ hSw; exact row_range0 hSw.1
      simp only [Act.put, List.setIfInBounds_toArray, List.set_cons_zero, List.set_cons_succ, Array.toArray_toList]
      refine wpAnyH_take (i := 14) (oi := ?oi15) (v := .string ST) ?hi15 (by kernel_rfl) (by kernel_rfl) (by kernel_rfl) (fun _ _ _ h => h) ?hy15 hS6 ?rest15
      case hi15 => simp only [List.getElem?_toArray, List.getElem?_cons_succ, List.getElem?_cons_zero]; rfl
      case hy15 => exact Or.inl ⟨rfl, fun _ hSw => rfl⟩
      simp only [Act.put, List.setIfInBounds_toArray, List.set_cons_zero, List.set_cons_succ]
      refine wpAnyH_ready (rs := [12, 15]) (by kernel_rfl) (by simp) ?_
      refine AllReadyH.cons (o := ?oia_12) ?hia_12 ?stepa_12 (AllReadyH.cons (o := ?oia_15) ?hia_15 ?stepa_15 AllReadyH.nil)
      case hia_12 => simp only [List.getElem?_toArray, List.getElem?_cons_succ, List.getElem?_cons_zero]; rfl
      case hia_15 => simp only [List.getElem?_toArray, List.getElem?_cons_succ, List.getElem?_cons_zero]; rfl
      case stepa_12 =>
        intro K hK
        go_simp
        refine (HOF.out _ hS6.2.2.2 hS6.2.1).mono ?_
        rintro e w7 ⟨rfl, hb7⟩
        refine hK.out _ _ (hS6.keep hb7) (fun hS7 => ?_)
        clear hK K
        try simp only [Act.put, List.setIfInBounds_toArray, List.set_cons_zero, List.set_cons_succ]
        refine wpAnyH_ready (rs := [15]) (by kernel_rfl) (by simp) ?_
        refine AllReadyH.cons (o := ?oib_15) ?hib_15 ?stepb_15 AllReadyH.nil
        case hib_15 => simp only [List.getElem?_toArray, List.getElem?_cons_succ, List.getElem?_cons_zero]; rfl
        intro K hK
        go_simp
        refine hK.out _ _ (hS7.keep ((Below.refl _ _).alloc (Nat.le_refl _) _)) (fun hS8 => ?_)
        clear hK K
        try simp only [Act.put, List.setIfInBounds_toArray, List.set_cons_zero, List.set_cons_succ]
        refine wpAnyH_ready (rs := [16]) (by kernel_rfl) (by simp) ?_
        refine AllReadyH.cons (o := ?oi20) ?hi20 ?step20 AllReadyH.nil
        case hi20 => simp only [List.getElem?_toArray, List.getElem?_cons_succ, List.getElem?_cons_zero]; rfl
        intro K hK
        go_simp
        refine (HO1.out _ hS8.2.2.2 (some ⟨w7.heap.size, 0, none⟩) (HST1.out _)).mono ?_
        rintro e w9 ⟨rfl, hb9⟩
        refine hK.out _ _ (hS8.keep hb9) (fun hS9 => ?_)
        clear hK K
        try simp only [Act.put, List.setIfInBounds_toArray, List.set_cons_zero, List.set_cons_succ]
        refine wpAnyH_ready (rs := [17]) (by kernel_rfl) (by simp) ?_
        refine AllReadyH.cons (o := ?oi21) ?hi21 ?step21 AllReadyH.nil
        case hi21 => simp only [List.getElem?_toArray, List.getElem?_cons_succ, List.getElem?_cons_zero]; rfl
        intro K hK
        go_simp
        refine (HEQ.out _).mono ?_
        rintro e w10 ⟨rfl, hb10⟩
        refine hK.out _ _ (hS9.keep hb10) (fun hS10 => ?_)
        clear hK K
        try simp only [Act.put, List.setIfInBounds_toArray, List.set_cons_zero, List.set_cons_succ]
        refine wpAnyH_take (i := 18) (oi := ?oi22) (v := .bool true) ?hi22 (by kernel_rfl) (by kernel_rfl) (by kernel_rfl) (fun _ _ _ h => h) ?hy22 hS10 ?rest22
        case hi22 => simp only [List.getElem?_toArray, List.getElem?_cons_succ, List.getElem?_cons_zero]; rfl
        case hy22 => exact Or.inl ⟨rfl, fun _ hSw => rfl⟩
        simp only [Act.put, List.setIfInBounds_toArray, List.set_cons_zero, List.set_cons_succ]
        refine wpAnyH_take (i := 19) (oi := ?oi23) (v := .bool true) ?hi23 (by kernel_rfl) (by kernel_rfl) (by kernel_rfl) (fun _ _ _ h => h) ?hy23 hS10 ?rest23
        case hi23 => simp only [List.getElem?_toArray, List.getElem?_cons_succ, List.getElem?_cons_zero]; rfl
        case hy23 => exact Or.inl ⟨rfl, fun _ hSw => rfl⟩
        simp only [Act.put, List.setIfInBounds_toArray, List.set_cons_zero, List.set_cons_succ]
        refine wpAnyH_done (by kernel_rfl) ?_ _
        refine NoPanic.normal ?_
        go_wp2
        go_ret
        exact ⟨rfl, hS10.2.2.1⟩
      case stepa_15 =>
        intro K hK
        go_simp
        refine hK.out _ _ (hS6.keep ((Below.refl _ _).alloc (Nat.le_refl _) _)) (fun hS7 => ?_)
        clear hK K
        try simp only [Act.put, List.setIfInBounds_toArray, List.set_cons_zero, List.set_cons_succ]
        refine wpAnyH_ready (rs := [12]) (by kernel_rfl) (by simp) ?_
        refine AllReadyH.cons (o := ?oic_12) ?hic_12 ?stepc_12 AllReadyH.nil
        case hic_12 => simp only [List.getElem?_toArray, List.getElem?_cons_succ, List.getElem?_cons_zero]; rfl
        intro K hK
        go_simp
        refine (HOF.out _ hS7.2.2.2 hS7.2.1).mono ?_
        rintro e w7 ⟨rfl, hb7⟩
        refine hK.out _ _ (hS7.keep hb7) (fun hS8 => ?_)
        clear hK K
        try simp only [Act.put, List.setIfInBounds_toArray, List.set_cons_zero, List.set_cons_succ]
        refine wpAnyH_ready (rs := [16]) (by kernel_rfl) (by simp) ?_
        refine AllReadyH.cons (o := ?oi28) ?hi28 ?step28 AllReadyH.nil
        case hi28 => simp only [List.getElem?_toArray, List.getElem?_cons_succ, List.getElem?_cons_zero]; rfl
        intro K hK
        go_simp
        refine (HO1.out _ hS8.2.2.2 (some ⟨w6.heap.size, 0, none⟩) ((HST1.out w6).below hb7)).mono ?_
        rintro e w9 ⟨rfl, hb9⟩
        refine hK.out _ _ (hS8.keep hb9) (fun hS9 => ?_)
        clear hK K
        try simp only [Act.put, List.setIfInBounds_toArray, List.set_cons_zero, List.set_cons_succ]
        refine wpAnyH_ready (rs := [17]) (by kernel_rfl) (by simp) ?_
        refine AllReadyH.cons (o := ?oi29) ?hi29 ?step29 AllReadyH.nil
        case hi29 => simp only [List.getElem?_toArray, List.getElem?_cons_succ, List.getElem?_cons_zero]; rfl
        intro K hK
        go_simp
        refine (HEQ.out _).mono ?_
        rintro e w10 ⟨rfl, hb10⟩
        refine hK.out _ _ (hS9.keep hb10) (fun hS10 => ?_)
        clear hK K
        try simp only [Act.put, List.setIfInBounds_toArray, List.set_cons_zero, List.set_cons_succ]
        refine wpAnyH_take (i := 18) (oi := ?oi30) (v := .bool true) ?hi30 (by kernel_rfl) (by kernel_rfl) (by kernel_rfl) (fun _ _ _ h => h) ?hy30 hS10 ?rest30
        case hi30 => simp only [List.getElem?_toArray, List.getElem?_cons_succ, List.getElem?_cons_zero]; rfl
        case hy30 => exact Or.inl ⟨rfl, fun _ hSw => rfl⟩
        simp only [Act.put, List.setIfInBounds_toArray, List.set_cons_zero, List.set_cons_succ]
        refine wpAnyH_take (i := 19) (oi := ?oi31) (v := .bool true) ?hi31 (by kernel_rfl) (by kernel_rfl) (by kernel_rfl) (fun _ _ _ h => h) ?hy31 hS10 ?rest31
        case hi31 => simp only [List.getElem?_toArray, List.getElem?_cons_succ, List.getElem?_cons_zero]; rfl
        case hy31 => exact Or.inl ⟨rfl, fun _ hSw => rfl⟩
        simp only [Act.put, List.setIfInBounds_toArray, List.set_cons_zero, List.set_cons_succ]
        refine wpAnyH_done (by kernel_rfl) ?_ _
        refine NoPanic.normal ?_
        go_wp2
        go_ret
        exact ⟨rfl, hS10.2.2.1⟩


set_option maxRecDepth 100000 in
theorem contract (H : Type) (enc : TypeId × Value → H) (W : World) (base : Nat) (args : Array Value) (ds gs : List (DataW H)) (before : List MemPlace)
    (hval : ∀ (j : Nat) t v, Tryd.f4.params[j]? = some t → args[j]? = some v → Value.okWide Tryd.prog W .any base t v)
    (hW : DataW.Whole enc Tryd.prog Tryd.f4.params.toList Rows.polyTagsSpec.vars false W args.toList ds gs before) (hL : laidMetH Tryd.prog Rows.polyTagsRow.laid W) :
    Calls Tryd.prog 4 args W fun e W' => ∃ v, e = .returned v ∧ Rows.polyTagsSpec.post enc Tryd.prog Tryd.f4 false true false false W args v W' := by
  have hW' := hW
  obtain ⟨p, q, hA0, hV, rfl, hfz, hnd⟩ := hW
  have hA : DataW.TrodAll enc Tryd.prog W 0 (fun _ => true) true Tryd.f4.params.toList args.toList ds p := hA0
  rw [Tryd.params4] at hA hval
  obtain ⟨v0, vs0, d0, ds0, p0, q0, hargs, rfl, rfl, h0, r0⟩ := trodAll_cons hA
  obtain ⟨v1, vs1, d1, ds1, p1, q1, rfl, rfl, rfl, h1, r1⟩ := trodAll_cons r0
  obtain ⟨rfl, rfl, rfl⟩ := trodAll_nil r1
  obtain rfl : args = #[v0, v1] := by cases args; simp_all
  obtain ⟨xs0, rfl, hl0, hx0⟩ := open_k32 (hval 0 22 v0 rfl rfl) h0
  obtain ⟨ao1, L1, cap1, rfl, hL1, hb1⟩ := open_strs (hval 1 34 v1 rfl rfl) h1
  refine (walk xs0 hl0 hx0 ao1 L1 cap1 W (tabk_of hL) hL1 hb1.1 hb1.2).mono fun e W' ⟨he, hb⟩ => ?_
  subst he
  exact ⟨_, rfl, law_post rfl rfl (by rw [Tryd.params4]; decide +kernel) hW' rfl hb⟩

theorem laid_met (os : Os) : laidMet Tryd.prog Rows.polyTagsRow.laid ((laidWorld os).forCall (fun _ _ => 0) ⟨#[], #[.agg (ints .u8 (List.replicate 32 0)), .slice none 0 0], []⟩).memory :=
  laidMet_of_run' 8 (by kernel_rfl) (by kernel_rfl)
theorem reads (os : Os) {H : Type} (enc : TypeId × Value → H) : ∃ places, DataW.whole enc Tryd.prog ((laidWorld os).forCall (fun _ _ => 0) ⟨#[], #[.agg (ints .u8 (List.replicate 32 0)), .slice none 0 0], []⟩).memory Tryd.f4.params.toList Rows.polyTagsSpec.vars false (#[.agg (ints .u8 (List.replicate 32 0)), .slice none 0 0] : Array Value).toList 8
    = some ([.agg (List.replicate 32 (.lit (.int .u8 0))), .nil], [], places) :=
  ⟨[], by kernel_rfl⟩

set_option maxRecDepth 100000 in
theorem lifted (os : Os) (started : os.Started) (H : Type) (enc : TypeId × Value → H) (F : Stop.Interp) :
    ReturnsInHanded {} Tryd.checked os 4 .any ((OpenSpec.ofChange Rows.polyTagsSpec).preRow enc Tryd.prog Tryd.f4 Rows.polyTagsRow.domain false Rows.polyTagsRow.laid) (((OpenSpec.ofChange Rows.polyTagsSpec).at F).post enc Tryd.prog Tryd.f4 false true false false) := by
  obtain ⟨places, hx⟩ := reads os enc
  refine returnsInHanded_of_row (C := Tryd.checked) (s := OpenSpec.ofChange Rows.polyTagsSpec) own started (by kernel_rfl) Tryd.func4
    (witness_row_at (enc := enc) (C := Tryd.checked) false (laidWorld os) #[.agg (ints .u8 (List.replicate 32 0)), .slice none 0 0] rfl (by kernel_rfl) (by kernel_rfl) (by kernel_rfl)
      (OpenSpec.preRow_of_cond 8 hx (by kernel_rfl) (fun k hk => by cases hk) (by kernel_rfl) (laid_met os))) ?_
  intro W base args ds gs before hval hW _ _ _ hL _ _
  exact contract H enc W base args ds gs before hval hW hL

theorem said : Rows.PolyTagsSaid :=
  OpenClaim.holds_of_cond 4 Tryd.f4 rfl rfl rfl rfl rfl rfl rfl ⟨rfl, rfl, rfl, rfl, rfl⟩ rfl rfl rfl rfl rfl (by kernel_rfl) Tryd.func4 (by kernel_rfl)
    (of_decide_eq_true (by kernel_rfl)) (by unfold Func.isWrapper; first | (rw [if_pos (by decide +kernel)]; kernel_rfl) | (rw [if_neg (by decide +kernel)]; exact ⟨rfl, rfl⟩))
    (fun os started H enc _ F => by rw [OpenClaim.pre_eq_preRow]; exact lifted os started H enc F)

theorem plain (f : FuncId) (fn : Func) (hf : Tryd.pinned.checked.prog.funcNamed "sealwax/sealwaxlaw04.PolyTags" = some f) (hfn : Tryd.pinned.checked.prog.funcs[f]? = some fn) :
    false = Tryd.pinned.checked.prog.looks [] ∧ ∀ (j : Nat) t, fn.params[j]? = some t → Tryd.pinned.checked.prog.wantsStandIn t = false := by
  obtain rfl : f = 4 := Option.some.inj ((show Tryd.prog.funcNamed "sealwax/sealwaxlaw04.PolyTags" = some 4 by kernel_rfl).symm.trans hf) |>.symm
  obtain rfl : fn = Tryd.f4 := (Option.some.inj (Tryd.func4.symm.trans hfn)).symm
  refine ⟨by kernel_rfl, fun j t ht => ?_⟩
  rw [Tryd.params4] at ht
  have hmem := Array.mem_of_getElem? ht
  exact (show ∀ t ∈ (Tryd.f4.params), Tryd.prog.wantsStandIn t = false from by rw [Tryd.params4]; decide +kernel) t (by rw [Tryd.params4]; exact hmem)

theorem card : Rows.PolyTagsCardSaid :=
  Claim7.holds_tied_plain_at .later [] _ _ _ _ said (fun _ h => by cases h) (by kernel_rfl) (fun _ h => by cases h) polyTags_row_tie rfl ⟨rfl, rfl⟩ (by kernel_rfl) rfl plain (by kernel_rfl)

end PolyTags
theorem polyTags_card : Rows.PolyTagsCardSaid := PolyTags.card
end Go.Proofs.YtiolflofkoeffaaDoor
