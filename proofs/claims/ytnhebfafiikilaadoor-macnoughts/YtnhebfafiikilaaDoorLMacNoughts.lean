/-
  Noughts behind a key of fewer than 64 bytes change nothing; a key of more than 64 is its sum (law MacNoughts); for every input.
-/
import Derived.Test.YtnhebfafiikilaaDoorLMacEqual
namespace Go.Proofs.YtnhebfafiikilaaDoor
open Go.ChangeShapes Go.WideShapes Go.ChangeAt Go.RowKit
open Go.Lib (hid)

theorem padK_zeros (k : List Nat) (j : Nat) (h : k.length + j ≤ 64) : padK (k ++ List.replicate j 0) = padK k := by
  unfold padK
  rw [List.take_of_length_le (by simp; omega), List.take_of_length_le (by omega), List.append_assoc, List.length_append, List.length_replicate, List.replicate_append_replicate]
  congr 2
  omega
theorem hmac_zeros (k t : List Nat) (j : Nat) (h : k.length + j ≤ 64) : Sx.hmac (k ++ List.replicate j 0) t = Sx.hmac k t := by
  have e1 : Sx.shortK (k ++ List.replicate j 0) = k ++ List.replicate j 0 := by unfold Sx.shortK; rw [if_neg (by simp; omega)]
  have e2 : Sx.shortK k = k := by unfold Sx.shortK; rw [if_neg (by omega)]
  have e3 : ∀ m, Sx.maskK (k ++ List.replicate j 0) m = Sx.maskK k m := fun m => by
    show (padK _).map _ = (padK _).map _
    rw [padK_zeros k j h]
  unfold Sx.hmac
  rw [e1, e2, e3, e3]
theorem hmac_long (k t : List Nat) (h : 64 < k.length) : Sx.hmac (Sx.digest k) t = Sx.hmac k t := by
  have e1 : Sx.shortK k = Sx.digest k := by unfold Sx.shortK; rw [if_pos h]
  have e2 : Sx.shortK (Sx.digest k) = Sx.digest k := by unfold Sx.shortK; rw [if_neg (by rw [digest_length]; omega)]
  unfold Sx.hmac
  rw [e1, e2]

/-- n & m for a number m that isn't negative. -/
theorem and_le (n : Int) (m : Nat) (hm : m < 2 ^ 63) : ∃ j : Nat, j ≤ m ∧ bits .and .i64 n (m : Int) = (j : Int) := by
  refine ⟨(BitVec.ofInt 64 n &&& BitVec.ofInt 64 (m : Int)).toNat, ?_, ?_⟩
  · rw [BitVec.toNat_and]
    refine Nat.le_trans Nat.and_le_right ?_
    rw [BitVec.ofInt_natCast, BitVec.toNat_ofNat]
    exact Nat.mod_le _ _
  · have h : (BitVec.ofInt 64 n &&& BitVec.ofInt 64 (m : Int)).toNat ≤ m := by
      rw [BitVec.toNat_and]
      refine Nat.le_trans Nat.and_le_right ?_
      rw [BitVec.ofInt_natCast, BitVec.toNat_ofNat]
      exact Nat.mod_le _ _
    show IntKind.i64.wrap ((BitVec.ofInt 64 n &&& BitVec.ofInt 64 (m : Int)).toNat : Int) = _
    generalize (BitVec.ofInt 64 n &&& BitVec.ofInt 64 (m : Int)).toNat = j at *
    rw [IntKind.wrap_i64]
    omega

namespace MacNoughts
theorem keep {b B : Nat} {l : List Value} {u w w' : World} (h : w.rangeAt b 0 l ∧ Below B u w ∧ Tabs w ∧ b < w.heap.size ∧ B ≤ w.heap.size) (hb : Below w.heap.size w w') :
    w'.rangeAt b 0 l ∧ Below B u w' ∧ Tabs w' ∧ b < w'.heap.size ∧ B ≤ w'.heap.size := by
  obtain ⟨h1, h3, h4, h5, h7⟩ := h
  have := hb.size
  exact ⟨rangeAt_below h1 hb h5, h3.trans (hb.mono (by omega)), h4.below hb (Nat.le_refl _), by omega, by omega⟩

set_option maxHeartbeats 2000000 in
theorem walk (key text : ByteArray) (n : Int) (hkm : key.size ≤ maxLen) (htm : text.size ≤ maxLen) (w : World) (hT : Tabs w) :
    Calls Tryd.prog 12 #[.string key, .string text, .int .i64 n] w fun e w' => e = .returned (.bool true) ∧ Below w.heap.size w w' := by
  have HT := hid hT
  clear hT
  go_enter Tryd.func12, Tryd.ntmps12
  go_wp2_with fail
  refine (awake2_any _ HT.out).mono ?_
  rintro e w1 ⟨rfl, hb1⟩
  go_wp2_with fail
  refine (cut_any key 150 _ hkm (by omega)).mono ?_
  rintro e w2 ⟨rfl, rfl⟩
  go_wp2_with fail
  refine (cut_any text 80 _ htm (by omega)).mono ?_
  rintro e w2 ⟨rfl, rfl⟩
  have HK := hid (show ∀ x ∈ (nums key).take 150, x < 256 from fun x hx => nums_lt key x (List.mem_of_mem_take hx))
  have HX := hid (show ∀ x ∈ (nums text).take 80, x < 256 from fun x hx => nums_lt text x (List.mem_of_mem_take hx))
  have hkl : ((nums key).take 150).length ≤ 150 := by simp; omega
  have hxl : ((nums text).take 80).length ≤ 80 := by simp; omega
  generalize (nums key).take 150 = k at *
  generalize (nums text).take 80 = x at *
  have HM1 := hid (mac_one k x HK.out (by omega) HX.out (by omega) w1 (HT.out.below hb1 (Nat.le_refl _)) 9)
  have HML := hid (hmac_length k x)
  have HMT := hid (hmac_lt k x)
  have hz := str_size k
  have HB1 := hid hb1
  clear hb1 hkm htm
  go_wp2_with fail
  refine HM1.out.mono ?_
  rintro e w2 ⟨rfl, hb2⟩
  have HB2 := hid (HB1.out.next (Nat.le_refl _) (((Below.refl _ _).alloc (Nat.le_refl _) _).next (Nat.le_refl _) hb2))
  obtain ⟨D, hD⟩ : ∃ D, D = Sx.hmac k x := ⟨_, rfl⟩
  rw [← hD] at HML HMT ⊢
  have HD := hid hD
  clear hD hb2 HM1
  go_upto_region 5 with (refine wpList_store_row rfl _ _ _ rfl _ _ rfl rfl _ _ (heap_alloc_new _ _) (by rw [ints_size, HML.out]; exact info26) (by rw [ints_size, HML.out]; rfl) (ints_one _ _) ?_)
  rw [World.setRow_alloc_new]
  have rd : Row (w2.alloc (.cells (ints .u8 D) 26)) w2.heap.size .u8 26 D := heap_alloc_new _ _
  have hb3 : Below w2.heap.size w2 (w2.alloc (.cells (ints .u8 D) 26)) := (Below.refl _ _).alloc (Nat.le_refl _) _
  generalize w2.alloc _ = w3 at *
  have HB3 := hid (HB2.out.next (Nat.le_refl _) hb3)
  have HS3 := hid (show w3.rangeAt w2.heap.size 0 (ints .u8 D).toList ∧ Below w.heap.size w w3 ∧ Tabs w3 ∧ w2.heap.size < w3.heap.size ∧ w.heap.size ≤ w3.heap.size from ⟨rd.range, HB3.out, HT.out.below HB3.out (Nat.le_refl _), rd.lt, HB3.out.size⟩)
  generalize w2.heap.size = bD at *
  clear rd hb3 HB2
  have hu26 := Tryd.underlying26
  have hi1 : (Tryd.prog.info? 26).map (·.size) = some (ints .u8 D).toList.length := by rw [ints_llen, HML.out]; exact info26
  by_cases hlong : 64 < k.length
  · have t1 : (64 : Int) < ((str k).size : Int) := by omega
    have HDK := hid (digest_length k)
    have HDT := hid (digest_lt k)
    have hDe : D = Sx.hmac (Sx.digest k) x := by rw [hmac_long k x hlong]; exact HD.out
    have HDE := hid hDe
    have heq := fun wx => eql_sums wx D D HMT.out HMT.out HML.out HML.out
    have hDD : (D == D) = true := beq_self_eq_true D
    rw [hDD] at heq
    clear hDD hz hDe
    obtain ⟨S, hS⟩ : ∃ S, S = str k := ⟨_, rfl⟩
    obtain ⟨X, hX⟩ : ∃ X, X = str x := ⟨_, rfl⟩
    have HO := hid (fun wx hx hA => of_any [k] (some ⟨wx.heap.size, 0, none⟩) 1 (by simpa using HK.out) wx hx hA (by simp; omega) (by simp))
    have HM := hid (fun wx ao hx hA => mac_any (Sx.digest k) HDT.out (by rw [HDK.out]; omega) [x] ao 1 (by simpa using HX.out) wx hx hA (by simp; omega) (by simp))
    clear HO
    have HO := hid (fun wx ao hx hA => of_any [k] ao 1 (by simpa using HK.out) wx hx hA (by simp; omega) (by simp))
    simp only [List.flatten_cons, List.flatten_nil, List.append_nil, List.length_cons, List.length_nil, Nat.zero_add] at HO HM
    rw [← HDE.out] at HM
    rw [← hS] at t1 ⊢
    rw [← hX]
    have HSS := hid hS
    have HXX := hid hX
    clear hS hX
    go_upto_region 6 with (fail)
    refine wp_region_noPanic ?_
    refine wp_region_held_drew (S := fun w' => w'.rangeAt bD 0 (ints .u8 D).toList ∧ Below w.heap.size w w' ∧ Tabs w' ∧ bD < w'.heap.size ∧ w.heap.size ≤ w'.heap.size) (by kernel_rfl) (keep HS3.out ((Below.refl _ _).drew)) (fun hS1 => ?_)
    change wpAnyH _ _ _ _ _ 10 _ _ _
    refine wpAnyH_take (i := 0) (oi := ?oi2) (v := .agg (ints .u8 D).toList.toArray) ?hi2 (by kernel_rfl) (by kernel_rfl) (by kernel_rfl) (fun _ _ _ h => h) ?hy2 hS1 ?rest2
    case hi2 => simp only [List.getElem?_toArray, List.getElem?_cons_zero]; rfl
    case hy2 => 
      refine yieldsIf_load_mid ?w2 _ ?x2 ?o2 bD 0 ?e2 (ints .u8 D).toList _ ?s2 hu26 rfl hi1
      case o2 => rfl
      case w2 => rfl
      case e2 => rfl
      case s2 => intro _ hSw; exact hSw.1
    simp only [Act.put, List.setIfInBounds_toArray, List.set_cons_zero, List.set_cons_succ, Array.toArray_toList]
    refine wpAnyH_take (i := 1) (oi := ?oi3) (v := .string S) ?hi3 (by kernel_rfl) (by kernel_rfl) (by kernel_rfl) (fun _ _ _ h => h) ?hy3 hS1 ?rest3
    case hi3 => simp only [List.getElem?_toArray, List.getElem?_cons_succ, List.getElem?_cons_zero]; rfl
    case hy3 => exact Or.inl ⟨rfl, fun _ hSw => rfl⟩
    simp only [Act.put, List.setIfInBounds_toArray, List.set_cons_zero, List.set_cons_succ]
    refine wpAnyH_take (i := 5) (oi := ?oi4) (v := .string X) ?hi4 (by kernel_rfl) (by kernel_rfl) (by kernel_rfl) (fun _ _ _ h => h) ?hy4 hS1 ?rest4
    case hi4 => simp only [List.getElem?_toArray, List.getElem?_cons_succ, List.getElem?_cons_zero]; rfl
    case hy4 => exact Or.inl ⟨rfl, fun _ hSw => rfl⟩
    simp only [Act.put, List.setIfInBounds_toArray, List.set_cons_zero, List.set_cons_succ]
    refine wpAnyH_ready (rs := [2, 6]) (by kernel_rfl) (by simp) ?_
    refine AllReadyH.cons (o := ?oia_2) ?hia_2 ?stepa_2 (AllReadyH.cons (o := ?oia_6) ?hia_6 ?stepa_6 AllReadyH.nil)
    case hia_2 => simp only [List.getElem?_toArray, List.getElem?_cons_succ, List.getElem?_cons_zero]; rfl
    case hia_6 => simp only [List.getElem?_toArray, List.getElem?_cons_succ, List.getElem?_cons_zero]; rfl
    case stepa_2 =>
      intro K hK
      go_simp
      refine hK.out _ _ (keep hS1 ((Below.refl _ _).alloc (Nat.le_refl _) _)) (fun hS2 => ?_)
      clear hK K
      try simp only [Act.put, List.setIfInBounds_toArray, List.set_cons_zero, List.set_cons_succ]
      have hx2 := strs_one w3.drew k 9
      rw [← HSS.out] at hx2
      refine wpAnyH_ready (rs := [3, 6]) (by kernel_rfl) (by simp) ?_
      refine AllReadyH.cons (o := ?oib_3) ?hib_3 ?stepb_3 (AllReadyH.cons (o := ?oib_6) ?hib_6 ?stepb_6 AllReadyH.nil)
      case hib_3 => simp only [List.getElem?_toArray, List.getElem?_cons_succ, List.getElem?_cons_zero]; rfl
      case hib_6 => simp only [List.getElem?_toArray, List.getElem?_cons_succ, List.getElem?_cons_zero]; rfl
      case stepb_3 =>
        intro K hK
        go_simp
        refine (HO.out _ _ hS2.2.2.1 hx2).mono ?_
        rintro e w4 ⟨rfl, hb4⟩
        refine hK.out _ _ (keep hS2 hb4) (fun hS3 => ?_)
        clear hK K
        try simp only [Act.put, List.setIfInBounds_toArray, List.set_cons_zero, List.set_cons_succ]
        refine wpAnyH_ready (rs := [4, 6]) (by kernel_rfl) (by simp) ?_
        refine AllReadyH.cons (o := ?oic_4) ?hic_4 ?stepc_4 (AllReadyH.cons (o := ?oic_6) ?hic_6 ?stepc_6 AllReadyH.nil)
        case hic_4 => simp only [List.getElem?_toArray, List.getElem?_cons_succ, List.getElem?_cons_zero]; rfl
        case hic_6 => simp only [List.getElem?_toArray, List.getElem?_cons_succ, List.getElem?_cons_zero]; rfl
        case stepc_4 =>
          intro K hK
          go_simp
          refine (text_any (Sx.digest k) HDK.out _).mono ?_
          rintro e w5 ⟨rfl, hb5⟩
          refine hK.out _ _ (keep hS3 hb5) (fun hS4 => ?_)
          clear hK K
          try simp only [Act.put, List.setIfInBounds_toArray, List.set_cons_zero, List.set_cons_succ]
          refine wpAnyH_ready (rs := [6]) (by kernel_rfl) (by simp) ?_
          refine AllReadyH.cons (o := ?oid_6) ?hid_6 ?stepd_6 AllReadyH.nil
          case hid_6 => simp only [List.getElem?_toArray, List.getElem?_cons_succ, List.getElem?_cons_zero]; rfl
          intro K hK
          go_simp
          refine hK.out _ _ (keep hS4 ((Below.refl _ _).alloc (Nat.le_refl _) _)) (fun hSe => ?_)
          clear hK K
          try simp only [Act.put, List.setIfInBounds_toArray, List.set_cons_zero, List.set_cons_succ]
          have hx6 := strs_one w5 x 9
          rw [← HXX.out] at hx6
          refine wpAnyH_ready (rs := [7]) (by kernel_rfl) (by simp) ?_
          refine AllReadyH.cons (o := ?oi13) ?hi13 ?step13 AllReadyH.nil
          case hi13 => simp only [List.getElem?_toArray, List.getElem?_cons_succ, List.getElem?_cons_zero]; rfl
          intro K hK
          go_simp
          refine (HM.out _ _ hSe.2.2.1 hx6).mono ?_
          rintro e wf ⟨rfl, hbf⟩
          refine hK.out _ _ (keep hSe hbf) (fun hSf => ?_)
          clear hK K
          try simp only [Act.put, List.setIfInBounds_toArray, List.set_cons_zero, List.set_cons_succ]
          refine wpAnyH_take (i := 8) (oi := ?oi14) (v := .bool true) ?hi14 (by kernel_rfl) (by kernel_rfl) (by kernel_rfl) (fun _ _ _ h => h) ?hy14 hSf ?rest14
          case hi14 => simp only [List.getElem?_toArray, List.getElem?_cons_succ, List.getElem?_cons_zero]; rfl
          case hy14 => exact Or.inl ⟨rfl, fun _ hSw => by go_simp⟩
          simp only [Act.put, List.setIfInBounds_toArray, List.set_cons_zero, List.set_cons_succ]
          refine wpAnyH_take (i := 9) (oi := ?oi15) (v := .bool true) ?hi15 (by kernel_rfl) (by kernel_rfl) (by kernel_rfl) (fun _ _ _ h => h) ?hy15 hSf ?rest15
          case hi15 => simp only [List.getElem?_toArray, List.getElem?_cons_succ, List.getElem?_cons_zero]; rfl
          case hy15 => exact Or.inl ⟨rfl, fun _ hSw => rfl⟩
          simp only [Act.put, List.setIfInBounds_toArray, List.set_cons_zero, List.set_cons_succ]
          refine wpAnyH_done (by kernel_rfl) ?_ _
          refine NoPanic.normal ?_
          go_wp2
          go_ret
          exact ⟨rfl, hSf.2.1⟩
        case stepc_6 =>
          intro K hK
          go_simp
          refine hK.out _ _ (keep hS3 ((Below.refl _ _).alloc (Nat.le_refl _) _)) (fun hS4 => ?_)
          clear hK K
          try simp only [Act.put, List.setIfInBounds_toArray, List.set_cons_zero, List.set_cons_succ]
          have hx60 := strs_one w4 x 9
          rw [← HXX.out] at hx60
          refine wpAnyH_ready (rs := [4]) (by kernel_rfl) (by simp) ?_
          refine AllReadyH.cons (o := ?oid2_4) ?hid2_4 ?stepd2_4 AllReadyH.nil
          case hid2_4 => simp only [List.getElem?_toArray, List.getElem?_cons_succ, List.getElem?_cons_zero]; rfl
          intro K hK
          go_simp
          refine (text_any (Sx.digest k) HDK.out _).mono ?_
          rintro e w5 ⟨rfl, hb5⟩
          refine hK.out _ _ (keep hS4 hb5) (fun hSe => ?_)
          clear hK K
          try simp only [Act.put, List.setIfInBounds_toArray, List.set_cons_zero, List.set_cons_succ]
          have hx6 := hx60.below hb5
          refine wpAnyH_ready (rs := [7]) (by kernel_rfl) (by simp) ?_
          refine AllReadyH.cons (o := ?oi20) ?hi20 ?step20 AllReadyH.nil
          case hi20 => simp only [List.getElem?_toArray, List.getElem?_cons_succ, List.getElem?_cons_zero]; rfl
          intro K hK
          go_simp
          refine (HM.out _ _ hSe.2.2.1 hx6).mono ?_
          rintro e wf ⟨rfl, hbf⟩
          refine hK.out _ _ (keep hSe hbf) (fun hSf => ?_)
          clear hK K
          try simp only [Act.put, List.setIfInBounds_toArray, List.set_cons_zero, List.set_cons_succ]
          refine wpAnyH_take (i := 8) (oi := ?oi21) (v := .bool true) ?hi21 (by kernel_rfl) (by kernel_rfl) (by kernel_rfl) (fun _ _ _ h => h) ?hy21 hSf ?rest21
          case hi21 => simp only [List.getElem?_toArray, List.getElem?_cons_succ, List.getElem?_cons_zero]; rfl
          case hy21 => exact Or.inl ⟨rfl, fun _ hSw => by go_simp⟩
          simp only [Act.put, List.setIfInBounds_toArray, List.set_cons_zero, List.set_cons_succ]
          refine wpAnyH_take (i := 9) (oi := ?oi22) (v := .bool true) ?hi22 (by kernel_rfl) (by kernel_rfl) (by kernel_rfl) (fun _ _ _ h => h) ?hy22 hSf ?rest22
          case hi22 => simp only [List.getElem?_toArray, List.getElem?_cons_succ, List.getElem?_cons_zero]; rfl
          case hy22 => exact Or.inl ⟨rfl, fun _ hSw => rfl⟩
          simp only [Act.put, List.setIfInBounds_toArray, List.set_cons_zero, List.set_cons_succ]
          refine wpAnyH_done (by kernel_rfl) ?_ _
          refine NoPanic.normal ?_
          go_wp2
          go_ret
          exact ⟨rfl, hSf.2.1⟩
      case stepb_6 =>
        intro K hK
        go_simp
        refine hK.out _ _ (keep hS2 ((Below.refl _ _).alloc (Nat.le_refl _) _)) (fun hS3 => ?_)
        clear hK K
        try simp only [Act.put, List.setIfInBounds_toArray, List.set_cons_zero, List.set_cons_succ]
        have hx60 := strs_one (w3.drew.alloc (.cells #[.string S] 9)) x 9
        rw [← HXX.out, show (w3.drew.alloc (.cells #[.string S] 9)).heap.size = w3.heap.size + 1 from by simp] at hx60
        have hx22 := hx2.below ((Below.refl _ _).alloc (Nat.le_refl _) (.cells #[.string X] 9))
        refine wpAnyH_ready (rs := [3]) (by kernel_rfl) (by simp) ?_
        refine AllReadyH.cons (o := ?oie_3) ?hie_3 ?stepe_3 AllReadyH.nil
        case hie_3 => simp only [List.getElem?_toArray, List.getElem?_cons_succ, List.getElem?_cons_zero]; rfl
        intro K hK
        go_simp
        refine (HO.out _ _ hS3.2.2.1 hx22).mono ?_
        rintro e w4 ⟨rfl, hb4⟩
        refine hK.out _ _ (keep hS3 hb4) (fun hS4 => ?_)
        clear hK K
        try simp only [Act.put, List.setIfInBounds_toArray, List.set_cons_zero, List.set_cons_succ]
        have hx61 := hx60.below hb4
        refine wpAnyH_ready (rs := [4]) (by kernel_rfl) (by simp) ?_
        refine AllReadyH.cons (o := ?oif_4) ?hif_4 ?stepf_4 AllReadyH.nil
        case hif_4 => simp only [List.getElem?_toArray, List.getElem?_cons_succ, List.getElem?_cons_zero]; rfl
        intro K hK
        go_simp
        refine (text_any (Sx.digest k) HDK.out _).mono ?_
        rintro e w5 ⟨rfl, hb5⟩
        refine hK.out _ _ (keep hS4 hb5) (fun hSe => ?_)
        clear hK K
        try simp only [Act.put, List.setIfInBounds_toArray, List.set_cons_zero, List.set_cons_succ]
        have hx6 := hx61.below hb5
        refine wpAnyH_ready (rs := [7]) (by kernel_rfl) (by simp) ?_
        refine AllReadyH.cons (o := ?oi29) ?hi29 ?step29 AllReadyH.nil
        case hi29 => simp only [List.getElem?_toArray, List.getElem?_cons_succ, List.getElem?_cons_zero]; rfl
        intro K hK
        go_simp
        refine (HM.out _ _ hSe.2.2.1 hx6).mono ?_
        rintro e wf ⟨rfl, hbf⟩
        refine hK.out _ _ (keep hSe hbf) (fun hSf => ?_)
        clear hK K
        try simp only [Act.put, List.setIfInBounds_toArray, List.set_cons_zero, List.set_cons_succ]
        refine wpAnyH_take (i := 8) (oi := ?oi30) (v := .bool true) ?hi30 (by kernel_rfl) (by kernel_rfl) (by kernel_rfl) (fun _ _ _ h => h) ?hy30 hSf ?rest30
        case hi30 => simp only [List.getElem?_toArray, List.getElem?_cons_succ, List.getElem?_cons_zero]; rfl
        case hy30 => exact Or.inl ⟨rfl, fun _ hSw => by go_simp⟩
        simp only [Act.put, List.setIfInBounds_toArray, List.set_cons_zero, List.set_cons_succ]
        refine wpAnyH_take (i := 9) (oi := ?oi31) (v := .bool true) ?hi31 (by kernel_rfl) (by kernel_rfl) (by kernel_rfl) (fun _ _ _ h => h) ?hy31 hSf ?rest31
        case hi31 => simp only [List.getElem?_toArray, List.getElem?_cons_succ, List.getElem?_cons_zero]; rfl
        case hy31 => exact Or.inl ⟨rfl, fun _ hSw => rfl⟩
        simp only [Act.put, List.setIfInBounds_toArray, List.set_cons_zero, List.set_cons_succ]
        refine wpAnyH_done (by kernel_rfl) ?_ _
        refine NoPanic.normal ?_
        go_wp2
        go_ret
        exact ⟨rfl, hSf.2.1⟩
    case stepa_6 =>
      intro K hK
      go_simp
      refine hK.out _ _ (keep hS1 ((Below.refl _ _).alloc (Nat.le_refl _) _)) (fun hS2 => ?_)
      clear hK K
      try simp only [Act.put, List.setIfInBounds_toArray, List.set_cons_zero, List.set_cons_succ]
      have hx60 := strs_one w3.drew x 9
      rw [← HXX.out] at hx60
      refine wpAnyH_ready (rs := [2]) (by kernel_rfl) (by simp) ?_
      refine AllReadyH.cons (o := ?oig_2) ?hig_2 ?stepg_2 AllReadyH.nil
      case hig_2 => simp only [List.getElem?_toArray, List.getElem?_cons_succ, List.getElem?_cons_zero]; rfl
      intro K hK
      go_simp
      refine hK.out _ _ (keep hS2 ((Below.refl _ _).alloc (Nat.le_refl _) _)) (fun hS3 => ?_)
      clear hK K
      try simp only [Act.put, List.setIfInBounds_toArray, List.set_cons_zero, List.set_cons_succ]
      have hx2 := strs_one (w3.drew.alloc (.cells #[.string X] 9)) k 9
      rw [← HSS.out, show (w3.drew.alloc (.cells #[.string X] 9)).heap.size = w3.heap.size + 1 from by simp] at hx2
      have hx61 := hx60.below ((Below.refl _ _).alloc (Nat.le_refl _) (.cells #[.string S] 9))
      refine wpAnyH_ready (rs := [3]) (by kernel_rfl) (by simp) ?_
      refine AllReadyH.cons (o := ?oih_3) ?hih_3 ?steph_3 AllReadyH.nil
      case hih_3 => simp only [List.getElem?_toArray, List.getElem?_cons_succ, List.getElem?_cons_zero]; rfl
      intro K hK
      go_simp
      refine (HO.out _ _ hS3.2.2.1 hx2).mono ?_
      rintro e w4 ⟨rfl, hb4⟩
      refine hK.out _ _ (keep hS3 hb4) (fun hS4 => ?_)
      clear hK K
      try simp only [Act.put, List.setIfInBounds_toArray, List.set_cons_zero, List.set_cons_succ]
      have hx62 := hx61.below hb4
      refine wpAnyH_ready (rs := [4]) (by kernel_rfl) (by simp) ?_
      refine AllReadyH.cons (o := ?oii_4) ?hii_4 ?stepi_4 AllReadyH.nil
      case hii_4 => simp only [List.getElem?_toArray, List.getElem?_cons_succ, List.getElem?_cons_zero]; rfl
      intro K hK
      go_simp
      refine (text_any (Sx.digest k) HDK.out _).mono ?_
      rintro e w5 ⟨rfl, hb5⟩
      refine hK.out _ _ (keep hS4 hb5) (fun hSe => ?_)
      clear hK K
      try simp only [Act.put, List.setIfInBounds_toArray, List.set_cons_zero, List.set_cons_succ]
      have hx6 := hx62.below hb5
      refine wpAnyH_ready (rs := [7]) (by kernel_rfl) (by simp) ?_
      refine AllReadyH.cons (o := ?oi40) ?hi40 ?step40 AllReadyH.nil
      case hi40 => simp only [List.getElem?_toArray, List.getElem?_cons_succ, List.getElem?_cons_zero]; rfl
      intro K hK
      go_simp
      refine (HM.out _ _ hSe.2.2.1 hx6).mono ?_
      rintro e wf ⟨rfl, hbf⟩
      refine hK.out _ _ (keep hSe hbf) (fun hSf => ?_)
      clear hK K
      try simp only [Act.put, List.setIfInBounds_toArray, List.set_cons_zero, List.set_cons_succ]
      refine wpAnyH_take (i := 8) (oi := ?oi41) (v := .bool true) ?hi41 (by kernel_rfl) (by kernel_rfl) (by kernel_rfl) (fun _ _ _ h => h) ?hy41 hSf ?rest41
      case hi41 => simp only [List.getElem?_toArray, List.getElem?_cons_succ, List.getElem?_cons_zero]; rfl
      case hy41 => exact Or.inl ⟨rfl, fun _ hSw => by go_simp⟩
      simp only [Act.put, List.setIfInBounds_toArray, List.set_cons_zero, List.set_cons_succ]
      refine wpAnyH_take (i := 9) (oi := ?oi42) (v := .bool true) ?hi42 (by kernel_rfl) (by kernel_rfl) (by kernel_rfl) (fun _ _ _ h => h) ?hy42 hSf ?rest42
      case hi42 => simp only [List.getElem?_toArray, List.getElem?_cons_succ, List.getElem?_cons_zero]; rfl
      case hy42 => exact Or.inl ⟨rfl, fun _ hSw => rfl⟩
      simp only [Act.put, List.setIfInBounds_toArray, List.set_cons_zero, List.set_cons_succ]
      refine wpAnyH_done (by kernel_rfl) ?_ _
      refine NoPanic.normal ?_
      go_wp2
      go_ret
      exact ⟨rfl, hSf.2.1⟩
  · have t1 : ¬ (64 : Int) < ((str k).size : Int) := by omega
    have heq := fun wx => eql_sums wx D D HMT.out HMT.out HML.out HML.out
    have hDD : (D == D) = true := beq_self_eq_true D
    rw [hDD] at heq
    clear hDD
    have HEQ := hid heq
    have HZ := hid hz
    have hS64 : (str k).size ≤ 64 := by omega
    clear heq hz
    obtain ⟨S, hS⟩ : ∃ S, S = str k := ⟨_, rfl⟩
    rw [← hS] at t1 hS64 ⊢
    have HSS := hid hS
    have HSZ := hid (show S.size = k.length from by rw [hS, str_size])
    clear hS
    obtain ⟨M, hM, hm⟩ := and_le n 63 (by omega)
    rw [show ((63 : Nat) : Int) = 63 from rfl] at hm
    by_cases hmin : (M : Int) ≤ 64 - (S.size : Int)
    · go_upto_region 8 with (fail)
      have hJ : k.length + M ≤ 64 := by rw [← HSZ.out]; omega
      generalize M = J at *
      have HJ := hid hJ
      have HM := hid (fun wx hT => mac_one (k ++ List.replicate J 0) x (by intro y hy; rcases List.mem_append.1 hy with h | h; exact HK.out y h; rw [List.mem_replicate] at h; omega) (by simp; omega) HX.out (by omega) wx hT 9)
      have HZZ := hid (hmac_zeros k x J hJ)
      rw [HZZ.out, ← HD.out] at HM
      obtain ⟨X, hX⟩ : ∃ X, X = str x := ⟨_, rfl⟩
      rw [← hX] at HM ⊢
      have HXX := hid hX
      clear hX
      go_loopw [0, 36] (fun s i wr => wr = w3 ∧ ∃ j : Nat, j ≤ J ∧ i = .int .i64 j ∧ s = .string (str (k ++ List.replicate j 0)))
        (fun _ i _ => J - (intOf i).toNat)
      case atStart => exact ⟨rfl, 0, by omega, rfl, by rw [HSS.out]; simp⟩
      case round =>
        obtain ⟨rfl, j, hj, rfl, rfl⟩ := hrel
        have HN := hid (show str (k ++ List.replicate j 0) ++ (⟨#[0]⟩ : ByteArray) = str (k ++ List.replicate (j + 1) 0) from by
          rw [List.replicate_succ', ← List.append_assoc, ← str_append (k ++ List.replicate j 0) [0]]; rfl)
        have hzz : (str (k ++ List.replicate j 0)).size ≤ 64 := by rw [str_size]; simp; omega
        by_cases hlt : j < J
        · clear HJ HM
          generalize str (k ++ List.replicate j 0) = S1 at *
          go_wp2_with fail
          go_roundw
          case rel => exact ⟨by trivial, j + 1, by omega, by go_num, by first | rw [HN.out] | (congr 1; exact HN.out)⟩
          case measure => simp [intOf]; omega
        · obtain rfl : j = J := by omega
          clear HN
          generalize str (k ++ List.replicate j 0) = S1 at *
          go_upto_region 11 with (fail)
          refine wp_region_noPanic ?_
          refine wp_region_held_drew (S := fun w' => w'.rangeAt bD 0 (ints .u8 D).toList ∧ Below w.heap.size w w' ∧ Tabs w' ∧ bD < w'.heap.size ∧ w.heap.size ≤ w'.heap.size) (by kernel_rfl) (keep HS3.out ((Below.refl _ _).drew)) (fun hS1 => ?_)
          change wpAnyH _ _ _ _ _ 7 _ _ _
          have heq := HEQ.out
          refine wpAnyH_take (i := 0) (oi := ?oi45) (v := .agg (ints .u8 D).toList.toArray) ?hi45 (by kernel_rfl) (by kernel_rfl) (by kernel_rfl) (fun _ _ _ h => h) ?hy45 hS1 ?rest45
          case hi45 => simp only [List.getElem?_toArray, List.getElem?_cons_zero]; rfl
          case hy45 => 
            refine yieldsIf_load_mid ?w45 _ ?x45 ?o45 bD 0 ?e45 (ints .u8 D).toList _ ?s45 hu26 rfl hi1
            case o45 => rfl
            case w45 => rfl
            case e45 => rfl
            case s45 => intro _ hSw; exact hSw.1
          simp only [Act.put, List.setIfInBounds_toArray, List.set_cons_zero, List.set_cons_succ, Array.toArray_toList]
          refine wpAnyH_take (i := 1) (oi := ?oi46) (v := .string S1) ?hi46 (by kernel_rfl) (by kernel_rfl) (by kernel_rfl) (fun _ _ _ h => h) ?hy46 hS1 ?rest46
          case hi46 => simp only [List.getElem?_toArray, List.getElem?_cons_succ, List.getElem?_cons_zero]; rfl
          case hy46 => exact Or.inl ⟨rfl, fun _ hSw => rfl⟩
          simp only [Act.put, List.setIfInBounds_toArray, List.set_cons_zero, List.set_cons_succ]
          refine wpAnyH_take (i := 2) (oi := ?oi47) (v := .string X) ?hi47 (by kernel_rfl) (by kernel_rfl) (by kernel_rfl) (fun _ _ _ h => h) ?hy47 hS1 ?rest47
          case hi47 => simp only [List.getElem?_toArray, List.getElem?_cons_succ, List.getElem?_cons_zero]; rfl
          case hy47 => exact Or.inl ⟨rfl, fun _ hSw => rfl⟩
          simp only [Act.put, List.setIfInBounds_toArray, List.set_cons_zero, List.set_cons_succ]
          refine wpAnyH_ready (rs := [3]) (by kernel_rfl) (by simp) ?_
          refine AllReadyH.cons (o := ?oiu48_3) ?hiu48_3 ?stepu48_3 AllReadyH.nil
          case hiu48_3 => simp only [List.getElem?_toArray, List.getElem?_cons_succ, List.getElem?_cons_zero]; rfl
          intro K hK
          go_simp
          refine hK.out _ _ (keep hS1 ((Below.refl _ _).alloc (Nat.le_refl _) _)) (fun hS2 => ?_)
          clear hK K
          try simp only [Act.put, List.setIfInBounds_toArray, List.set_cons_zero, List.set_cons_succ]
          refine wpAnyH_ready (rs := [4]) (by kernel_rfl) (by simp) ?_
          refine AllReadyH.cons (o := ?oi50) ?hi50 ?step50 AllReadyH.nil
          case hi50 => simp only [List.getElem?_toArray, List.getElem?_cons_succ, List.getElem?_cons_zero]; rfl
          intro K hK
          go_simp
          refine (HM.out wr.drew hS1.2.2.1).mono ?_
          rintro e wf ⟨rfl, hbf⟩
          refine hK.out _ _ (keep hS2 hbf) (fun hSf => ?_)
          clear hK K
          try simp only [Act.put, List.setIfInBounds_toArray, List.set_cons_zero, List.set_cons_succ]
          refine wpAnyH_take (i := 5) (oi := ?oi51) (v := .bool true) ?hi51 (by kernel_rfl) (by kernel_rfl) (by kernel_rfl) (fun _ _ _ h => h) ?hy51 hSf ?rest51
          case hi51 => simp only [List.getElem?_toArray, List.getElem?_cons_succ, List.getElem?_cons_zero]; rfl
          case hy51 => exact Or.inl ⟨rfl, fun _ hSw => by go_simp⟩
          simp only [Act.put, List.setIfInBounds_toArray, List.set_cons_zero, List.set_cons_succ]
          refine wpAnyH_take (i := 6) (oi := ?oi52) (v := .bool true) ?hi52 (by kernel_rfl) (by kernel_rfl) (by kernel_rfl) (fun _ _ _ h => h) ?hy52 hSf ?rest52
          case hi52 => simp only [List.getElem?_toArray, List.getElem?_cons_succ, List.getElem?_cons_zero]; rfl
          case hy52 => exact Or.inl ⟨rfl, fun _ hSw => rfl⟩
          simp only [Act.put, List.setIfInBounds_toArray, List.set_cons_zero, List.set_cons_succ]
          refine wpAnyH_done (by kernel_rfl) ?_ _
          refine NoPanic.normal ?_
          go_wp2
          go_ret
          exact ⟨rfl, hSf.2.1⟩
    · go_upto_region 8 with (fail)
      have hJ : k.length + (64 - S.size) ≤ 64 := by rw [← HSZ.out]; omega
      have hJe : (64 : Int) - (S.size : Int) = ((64 - S.size : Nat) : Int) := by omega
      rw [hJe]
      generalize 64 - S.size = J at *
      have HJ := hid hJ
      have HM := hid (fun wx hT => mac_one (k ++ List.replicate J 0) x (by intro y hy; rcases List.mem_append.1 hy with h | h; exact HK.out y h; rw [List.mem_replicate] at h; omega) (by simp; omega) HX.out (by omega) wx hT 9)
      have HZZ := hid (hmac_zeros k x J hJ)
      rw [HZZ.out, ← HD.out] at HM
      obtain ⟨X, hX⟩ : ∃ X, X = str x := ⟨_, rfl⟩
      rw [← hX] at HM ⊢
      have HXX := hid hX
      clear hX
      go_loopw [0, 36] (fun s i wr => wr = w3 ∧ ∃ j : Nat, j ≤ J ∧ i = .int .i64 j ∧ s = .string (str (k ++ List.replicate j 0)))
        (fun _ i _ => J - (intOf i).toNat)
      case atStart => exact ⟨rfl, 0, by omega, rfl, by rw [HSS.out]; simp⟩
      case round =>
        obtain ⟨rfl, j, hj, rfl, rfl⟩ := hrel
        have HN := hid (show str (k ++ List.replicate j 0) ++ (⟨#[0]⟩ : ByteArray) = str (k ++ List.replicate (j + 1) 0) from by
          rw [List.replicate_succ', ← List.append_assoc, ← str_append (k ++ List.replicate j 0) [0]]; rfl)
        have hzz : (str (k ++ List.replicate j 0)).size ≤ 64 := by rw [str_size]; simp; omega
        by_cases hlt : j < J
        · clear HJ HM
          generalize str (k ++ List.replicate j 0) = S1 at *
          go_wp2_with fail
          go_roundw
          case rel => exact ⟨by trivial, j + 1, by omega, by go_num, by first | rw [HN.out] | (congr 1; exact HN.out)⟩
          case measure => simp [intOf]; omega
        · obtain rfl : j = J := by omega
          clear HN
          generalize str (k ++ List.replicate j 0) = S1 at *
          go_upto_region 11 with (fail)
          refine wp_region_noPanic ?_
          refine wp_region_held_drew (S := fun w' => w'.rangeAt bD 0 (ints .u8 D).toList ∧ Below w.heap.size w w' ∧ Tabs w' ∧ bD < w'.heap.size ∧ w.heap.size ≤ w'.heap.size) (by kernel_rfl) (keep HS3.out ((Below.refl _ _).drew)) (fun hS1 => ?_)
          change wpAnyH _ _ _ _ _ 7 _ _ _
          have heq := HEQ.out
          refine wpAnyH_take (i := 0) (oi := ?oi55) (v := .agg (ints .u8 D).toList.toArray) ?hi55 (by kernel_rfl) (by kernel_rfl) (by kernel_rfl) (fun _ _ _ h => h) ?hy55 hS1 ?rest55
          case hi55 => simp only [List.getElem?_toArray, List.getElem?_cons_zero]; rfl
          case hy55 => 
            refine yieldsIf_load_mid ?w55 _ ?x55 ?o55 bD 0 ?e55 (ints .u8 D).toList _ ?s55 hu26 rfl hi1
            case o55 => rfl
            case w55 => rfl
            case e55 => rfl
            case s55 => intro _ hSw; exact hSw.1
          simp only [Act.put, List.setIfInBounds_toArray, List.set_cons_zero, List.set_cons_succ, Array.toArray_toList]
          refine wpAnyH_take (i := 1) (oi := ?oi56) (v := .string S1) ?hi56 (by kernel_rfl) (by kernel_rfl) (by kernel_rfl) (fun _ _ _ h => h) ?hy56 hS1 ?rest56
          case hi56 => simp only [List.getElem?_toArray, List.getElem?_cons_succ, List.getElem?_cons_zero]; rfl
          case hy56 => exact Or.inl ⟨rfl, fun _ hSw => rfl⟩
          simp only [Act.put, List.setIfInBounds_toArray, List.set_cons_zero, List.set_cons_succ]
          refine wpAnyH_take (i := 2) (oi := ?oi57) (v := .string X) ?hi57 (by kernel_rfl) (by kernel_rfl) (by kernel_rfl) (fun _ _ _ h => h) ?hy57 hS1 ?rest57
          case hi57 => simp only [List.getElem?_toArray, List.getElem?_cons_succ, List.getElem?_cons_zero]; rfl
          case hy57 => exact Or.inl ⟨rfl, fun _ hSw => rfl⟩
          simp only [Act.put, List.setIfInBounds_toArray, List.set_cons_zero, List.set_cons_succ]
          refine wpAnyH_ready (rs := [3]) (by kernel_rfl) (by simp) ?_
          refine AllReadyH.cons (o := ?oiu58_3) ?hiu58_3 ?stepu58_3 AllReadyH.nil
          case hiu58_3 => simp only [List.getElem?_toArray, List.getElem?_cons_succ, List.getElem?_cons_zero]; rfl
          intro K hK
          go_simp
          refine hK.out _ _ (keep hS1 ((Below.refl _ _).alloc (Nat.le_refl _) _)) (fun hS2 => ?_)
          clear hK K
          try simp only [Act.put, List.setIfInBounds_toArray, List.set_cons_zero, List.set_cons_succ]
          refine wpAnyH_ready (rs := [4]) (by kernel_rfl) (by simp) ?_
          refine AllReadyH.cons (o := ?oi60) ?hi60 ?step60 AllReadyH.nil
          case hi60 => simp only [List.getElem?_toArray, List.getElem?_cons_succ, List.getElem?_cons_zero]; rfl
          intro K hK
          go_simp
          refine (HM.out wr.drew hS1.2.2.1).mono ?_
          rintro e wf ⟨rfl, hbf⟩
          refine hK.out _ _ (keep hS2 hbf) (fun hSf => ?_)
          clear hK K
          try simp only [Act.put, List.setIfInBounds_toArray, List.set_cons_zero, List.set_cons_succ]
          refine wpAnyH_take (i := 5) (oi := ?oi61) (v := .bool true) ?hi61 (by kernel_rfl) (by kernel_rfl) (by kernel_rfl) (fun _ _ _ h => h) ?hy61 hSf ?rest61
          case hi61 => simp only [List.getElem?_toArray, List.getElem?_cons_succ, List.getElem?_cons_zero]; rfl
          case hy61 => exact Or.inl ⟨rfl, fun _ hSw => by go_simp⟩
          simp only [Act.put, List.setIfInBounds_toArray, List.set_cons_zero, List.set_cons_succ]
          refine wpAnyH_take (i := 6) (oi := ?oi62) (v := .bool true) ?hi62 (by kernel_rfl) (by kernel_rfl) (by kernel_rfl) (fun _ _ _ h => h) ?hy62 hSf ?rest62
          case hi62 => simp only [List.getElem?_toArray, List.getElem?_cons_succ, List.getElem?_cons_zero]; rfl
          case hy62 => exact Or.inl ⟨rfl, fun _ hSw => rfl⟩
          simp only [Act.put, List.setIfInBounds_toArray, List.set_cons_zero, List.set_cons_succ]
          refine wpAnyH_done (by kernel_rfl) ?_ _
          refine NoPanic.normal ?_
          go_wp2
          go_ret
          exact ⟨rfl, hSf.2.1⟩


theorem contract (H : Type) (enc : TypeId × Value → H) (W : World) (base : Nat) (args : Array Value) (ds gs : List (DataW H)) (before : List MemPlace)
    (hval : ∀ (j : Nat) t v, Tryd.f12.params[j]? = some t → args[j]? = some v → Value.okWide Tryd.prog W .any base t v)
    (hW : DataW.Whole enc Tryd.prog Tryd.f12.params.toList Rows.macNoughtsSpec.vars false W args.toList ds gs before) (hL : laidMetH Tryd.prog Rows.macNoughtsRow.laid W) :
    Calls Tryd.prog 12 args W fun e W' => ∃ v, e = .returned v ∧ Rows.macNoughtsSpec.post enc Tryd.prog Tryd.f12 false true false false W args v W' := by
  have hW' := hW
  obtain ⟨p, q, hA0, hV, rfl, hfz, hnd⟩ := hW
  have hA : DataW.TrodAll enc Tryd.prog W 0 (fun _ => true) true Tryd.f12.params.toList args.toList ds p := hA0
  rw [Tryd.params12] at hA hval
  obtain ⟨v0, vs0, d0, ds0, p0, q0, hargs, rfl, rfl, h0, r0⟩ := trodAll_cons hA
  obtain ⟨v1, vs1, d1, ds1, p1, q1, rfl, rfl, rfl, h1, r1⟩ := trodAll_cons r0
  obtain ⟨v2, vs2, d2, ds2, p2, q2, rfl, rfl, rfl, h2, r2⟩ := trodAll_cons r1
  obtain ⟨rfl, rfl, rfl⟩ := trodAll_nil r2
  obtain rfl : args = #[v0, v1, v2] := by cases args; simp_all
  obtain ⟨s0, rfl, rfl, rfl, hs0⟩ := Go.ChangeMaps.open_string Tryd.underlying9 (hval 0 9 v0 rfl rfl) h0
  obtain ⟨s1, rfl, rfl, rfl, hs1⟩ := Go.ChangeMaps.open_string Tryd.underlying9 (hval 1 9 v1 rfl rfl) h1
  obtain ⟨n2, rfl, rfl, rfl, wn2⟩ := open_int Tryd.underlying3 (hval 2 3 v2 rfl rfl) h2
  refine (walk s0 s1 n2 hs0 hs1 W (tabs_of hL)).mono fun e W' ⟨he, hb⟩ => ?_
  subst he
  exact ⟨_, rfl, law_post rfl rfl (by rw [Tryd.params12]; decide +kernel) hW' rfl hb⟩

theorem laid_met (os : Os) : laidMet Tryd.prog Rows.macNoughtsRow.laid ((laidWorld os).forCall (fun _ _ => 0) ⟨#[], #[.string ByteArray.empty, .string ByteArray.empty, .int .i64 0], []⟩).memory :=
  laidMet_of_run' 8 (by kernel_rfl) (by kernel_rfl)
theorem reads (os : Os) {H : Type} (enc : TypeId × Value → H) : ∃ places, DataW.whole enc Tryd.prog ((laidWorld os).forCall (fun _ _ => 0) ⟨#[], #[.string ByteArray.empty, .string ByteArray.empty, .int .i64 0], []⟩).memory Tryd.f12.params.toList Rows.macNoughtsSpec.vars false (#[.string ByteArray.empty, .string ByteArray.empty, .int .i64 0] : Array Value).toList 8
    = some ([.lit (.string []), .lit (.string []), .lit (.int .i64 0)], [], places) :=
  ⟨[], by kernel_rfl⟩

set_option maxRecDepth 100000 in
theorem lifted (os : Os) (started : os.Started) (H : Type) (enc : TypeId × Value → H) (F : Stop.Interp) :
    ReturnsInHanded {} Tryd.checked os 12 .any ((OpenSpec.ofChange Rows.macNoughtsSpec).preRow enc Tryd.prog Tryd.f12 Rows.macNoughtsRow.domain false Rows.macNoughtsRow.laid) (((OpenSpec.ofChange Rows.macNoughtsSpec).at F).post enc Tryd.prog Tryd.f12 false true false false) := by
  obtain ⟨places, hx⟩ := reads os enc
  refine returnsInHanded_of_row (C := Tryd.checked) (s := OpenSpec.ofChange Rows.macNoughtsSpec) own started (by kernel_rfl) Tryd.func12
    (witness_row_at (enc := enc) (C := Tryd.checked) false (laidWorld os) #[.string ByteArray.empty, .string ByteArray.empty, .int .i64 0] rfl (by kernel_rfl) (by kernel_rfl) (by kernel_rfl)
      (OpenSpec.preRow_of_cond 8 hx (by kernel_rfl) (fun k hk => by cases hk) (by kernel_rfl) (laid_met os))) ?_
  intro W base args ds gs before hval hW _ _ _ hL _ _
  exact contract H enc W base args ds gs before hval hW hL

theorem said : Rows.MacNoughtsSaid :=
  OpenClaim.holds_of_cond 12 Tryd.f12 rfl rfl rfl rfl rfl rfl rfl ⟨rfl, rfl, rfl, rfl, rfl⟩ rfl rfl rfl rfl rfl (by kernel_rfl) Tryd.func12 (by kernel_rfl)
    (of_decide_eq_true (by kernel_rfl)) (by unfold Func.isWrapper; first | (rw [if_pos (by decide +kernel)]; kernel_rfl) | (rw [if_neg (by decide +kernel)]; exact ⟨rfl, rfl⟩))
    (fun os started H enc _ F => by rw [OpenClaim.pre_eq_preRow]; exact lifted os started H enc F)

theorem plain (f : FuncId) (fn : Func) (hf : Tryd.pinned.checked.prog.funcNamed "sealwax/sealwaxlaw02.MacNoughts" = some f) (hfn : Tryd.pinned.checked.prog.funcs[f]? = some fn) :
    false = Tryd.pinned.checked.prog.looks [] ∧ ∀ (j : Nat) t, fn.params[j]? = some t → Tryd.pinned.checked.prog.wantsStandIn t = false := by
  obtain rfl : f = 12 := Option.some.inj ((show Tryd.prog.funcNamed "sealwax/sealwaxlaw02.MacNoughts" = some 12 by kernel_rfl).symm.trans hf) |>.symm
  obtain rfl : fn = Tryd.f12 := (Option.some.inj (Tryd.func12.symm.trans hfn)).symm
  refine ⟨by kernel_rfl, fun j t ht => ?_⟩
  rw [Tryd.params12] at ht
  have hmem := Array.mem_of_getElem? ht
  exact (show ∀ t ∈ (Tryd.f12.params), Tryd.prog.wantsStandIn t = false from by rw [Tryd.params12]; decide +kernel) t (by rw [Tryd.params12]; exact hmem)

theorem card : Rows.MacNoughtsCardSaid :=
  Claim7.holds_tied_plain_at .later [] _ _ _ _ said (fun _ h => by cases h) (by kernel_rfl) (fun _ h => by cases h) macNoughts_row_tie rfl ⟨rfl, rfl⟩ (by kernel_rfl) rfl plain (by kernel_rfl)

end MacNoughts
theorem macNoughts_card : Rows.MacNoughtsCardSaid := MacNoughts.card
end Go.Proofs.YtnhebfafiikilaaDoor
