/-
  Keys and nonces out of texts, and bytes, are the document's (law StreamBytes); for every input.
-/
import Derived.Test.YtefennnekmecoaaDoorLXor
import Derived.Test.YtefennnekmecoaaDoorXor3
namespace Go.Proofs.YtefennnekmecoaaDoor
open Go.ChangeShapes Go.WideShapes Go.ChangeAt Go.RowKit
open Go.Lib (hid)

namespace StreamBytes
/-- A key and a nonce that lie in memory. -/
def S (w : World) (bk bn : Nat) (key nonce : List Nat) (u : World) : Prop :=
  Row u bk .u8 23 key ∧ Row u bn .u8 26 nonce ∧ TabQ u ∧ Below w.heap.size w u ∧ w.heap.size ≤ u.heap.size
theorem S.keep {w : World} {bk bn : Nat} {key nonce : List Nat} {u u' : World} (h : S w bk bn key nonce u) (hb : Below u.heap.size u u') : S w bk bn key nonce u' :=
  ⟨h.1.below hb h.1.lt, h.2.1.below hb h.2.1.lt, h.2.2.1.below hb (Nat.le_refl _), h.2.2.2.1.trans (hb.mono h.2.2.2.2), Nat.le_trans h.2.2.2.2 hb.size⟩


set_option maxHeartbeats 1000000 in
set_option maxRecDepth 100000 in
theorem walk (ks ns : ByteArray) (hks : ks.size ≤ maxLen) (hns : ns.size ≤ maxLen) (n : Int) (w : World) (hT : TabQ w) :
    Calls Tryd.prog 5 #[.string ks, .string ns, .int .i64 n] w fun e w' => e = .returned (.bool true) ∧ Below w.heap.size w w' := by
  have HT := hid hT
  have HC1 := hid (fun wx => cut_any ks 40 wx hks (by omega))
  have HC2 := hid (fun wx => cut_any ns 20 wx hns (by omega))
  obtain ⟨kt, hkt⟩ : ∃ t, t = (nums ks).take 40 := ⟨_, rfl⟩
  obtain ⟨nt, hnt⟩ : ∃ t, t = (nums ns).take 20 := ⟨_, rfl⟩
  have kb : ∀ x ∈ kt, x < 256 := by rw [hkt]; exact fun x hx => nums_lt ks x (List.mem_of_mem_take hx)
  have nb : ∀ x ∈ nt, x < 256 := by rw [hnt]; exact fun x hx => nums_lt ns x (List.mem_of_mem_take hx)
  have ktl : kt.length ≤ 40 := by rw [hkt, List.length_take]; omega
  have ntl : nt.length ≤ 20 := by rw [hnt, List.length_take]; omega
  rw [← hkt, show ((40 : Nat) : Int) = 40 from rfl] at HC1
  rw [← hnt, show ((20 : Nat) : Int) = 20 from rfl] at HC2
  obtain ⟨m, hm⟩ : ∃ m : Int, m = min n 150 := ⟨_, rfl⟩
  obtain ⟨z, hz⟩ : ∃ z : Nat, max 0 m = (z : Int) := ⟨(max 0 m).toNat, by omega⟩
  have hz1 : max 0 (min m 65536) = (z : Int) := by omega
  have hz2 : z ≤ 150 := by omega
  have key_l := Cx.padL_length kt 32
  have nonce_l := Cx.padL_length nt 12
  have key_b := Cx.padL_lt kt 32 kb
  have nonce_b := Cx.padL_lt nt 12 nb
  have HK := hid (fun wx => keyof_any kt kb wx)
  have HN := hid (fun wx => nonceof_any nt nb wx)
  have HF1 := hid (fun wx => fit_any kt kb (by omega) 32 (by omega) wx)
  have HF2 := hid (fun wx => fit_any nt nb (by omega) 12 (by omega) wx)
  rw [show ((32 : Nat) : Int) = 32 from rfl] at HF1
  rw [show ((12 : Nat) : Int) = 12 from rfl] at HF2
  have HBY := hid (fun wx hx => sbytes_any (Cx.padL kt 32) (Cx.padL nt 12) 3 m z key_b key_l nonce_b nonce_l (by decide) hz1 wx hx)
  have HRX := hid (fun wx => refxor_any (Cx.padL kt 32) (Cx.padL nt 12) (List.replicate z 0) 3 key_b key_l nonce_b nonce_l (by decide) (by intro x hx; rw [List.mem_replicate] at hx; omega) (by simp; omega) wx)
  have HLK := hid (fun wx => lkey_any (Cx.padL kt 32) key_l wx)
  have HLN := hid (fun wx => lnonce_any (Cx.padL nt 12) nonce_l wx)
  have I1 := hid (show (Tryd.prog.info? 23).map (·.size) = some (ints .u8 (Cx.padL kt 32)).size from by rw [ints_size, key_l]; exact info23)
  have I2 := hid (show (Tryd.prog.info? 26).map (·.size) = some (ints .u8 (Cx.padL nt 12)).size from by rw [ints_size, nonce_l]; exact info26)
  have HKS := hid (show (ints .u8 (Cx.padL kt 32)).size = 32 from by rw [ints_size, key_l])
  have HNS := hid (show (ints .u8 (Cx.padL nt 12)).size = 12 from by rw [ints_size, nonce_l])
  have HM := hid hm
  have HZ := hid hz
  have HMK := hid (fun wx => run_made z (by omega) wx)
  have HCV := hid (fun wx => conv_made z wx)
  clear hT kb nb ktl ntl key_l nonce_l key_b nonce_b hz1 hkt hnt hz hm
  generalize Cx.padL kt 32 = key at *
  generalize Cx.padL nt 12 = nonce at *
  generalize str (Cx.xors key 3 nonce (List.replicate z 0)) = SX at *
  generalize str (List.replicate z 0) = SZ at *
  generalize str kt = KT at *
  generalize str nt = NT at *
  generalize str key = SK at *
  generalize str nonce = SN at *
  go_enter Tryd.func5, Tryd.ntmps5
  go_wp2_with fail
  refine (awake3_any _ HT.out).mono ?_
  rintro e w1 ⟨rfl, hb1⟩
  have HB1 := hid hb1
  clear hb1
  have hm : min n 150 = m := HM.out.symm
  go_upto_region 5 with (first
    | (go_at_call 17; with_reducible refine (HC1.out _).mono ?_; rintro e w2 ⟨rfl, hw2⟩; obtain rfl : w1 = w2 := hw2)
    | (go_at_call 17; with_reducible refine (HC2.out _).mono ?_; rintro e w2 ⟨rfl, hw2⟩; obtain rfl : w1 = w2 := hw2))
  clear hm
  go_upto_region 6 with (first
    | (go_at_call 22; refine (HK.out _).mono ?_; rintro e w2 ⟨rfl, hb2⟩)
    | (go_at_call 23; refine (HN.out _).mono ?_; rintro e w3 ⟨rfl, hb3⟩)
    | (refine wpList_store_row rfl _ _ _ rfl w3.heap.size _ rfl rfl _ _ (heap_alloc2_old _ _ _) (by rw [HKS.out]; exact info23) (by rw [HKS.out]; rfl) (ints_one _ _) ?_)
    | (refine wpList_store_row rfl _ _ _ rfl (w3.heap.size + 1) _ rfl rfl _ _ ((setRow_other _ w3.heap.size (w3.heap.size + 1) _ (by omega)).trans (heap_alloc2_new _ _ _)) (by rw [HNS.out]; exact info26) (by rw [HNS.out]; rfl) (ints_one _ _) ?_))
  generalize hwA : (w3.alloc _).alloc _ = wA
  have rA : ∃ cs, wA.heap[w3.heap.size]? = some (.cells cs 23 (0, 0)) := by rw [← hwA]; exact ⟨_, heap_alloc2_old _ _ _⟩
  have rB : ∃ cs, wA.heap[w3.heap.size + 1]? = some (.cells cs 26 (0, 0)) := by rw [← hwA]; exact ⟨_, heap_alloc2_new _ _ _⟩
  have hb23 := (HB1.out.next (Nat.le_refl _) hb2).next (Nat.le_refl _) hb3
  have hbA : Below w.heap.size w wA := by
    have h1 := hb23.size
    rw [← hwA]; exact (hb23.alloc h1 _).alloc (by simp; omega) _
  have hz3 := hb23.size
  clear hwA hb2 hb3 HB1 hb23
  obtain ⟨csA, rA⟩ := rA
  obtain ⟨csB, rB⟩ := rB
  obtain ⟨bk, hbk⟩ : ∃ bk, bk = w3.heap.size := ⟨_, rfl⟩
  rw [← hbk] at rA rB hz3 ⊢
  obtain ⟨bn, hbn⟩ : ∃ bn, bn = bk + 1 := ⟨_, rfl⟩
  rw [← hbn] at rB ⊢
  have rK : Row ((wA.setRow bk (ints .u8 key)).setRow bn (ints .u8 nonce)) bk .u8 23 key := by
    unfold Row
    rw [setRow_other _ bn bk _ (by omega)]
    exact setRow_heap wA bk _ _ _ _ rA
  have rN : Row ((wA.setRow bk (ints .u8 key)).setRow bn (ints .u8 nonce)) bn .u8 26 nonce :=
    setRow_heap (wA.setRow bk (ints .u8 key)) bn _ _ _ _ (by rw [setRow_other _ bk bn _ (by omega)]; exact rB)
  have hbB := below_setRow (below_setRow hbA hz3 (ints .u8 key)) (show w.heap.size ≤ bn by omega) (ints .u8 nonce)
  clear rA rB hbA hbk hbn hz3
  generalize ((wA.setRow bk (ints .u8 key)).setRow bn (ints .u8 nonce)) = w4 at *
  have HS4 := hid (show S w bk bn key nonce w4 from ⟨rK, rN, HT.out.below hbB (Nat.le_refl _), hbB, hbB.size⟩)
  clear rK rN hbB
  go_upto_region 7 with (first
    | (refine wpList_load_row rfl _ _ rfl bk rfl _ _ _ _ HS4.out.1 Tryd.underlying23 rfl I1.out ?_)
    | (refine wpList_load_row rfl _ _ rfl bn rfl _ _ _ _ HS4.out.2.1 Tryd.underlying26 rfl I2.out ?_)
    | (go_at_call 24; refine (HBY.out _ HS4.out.2.2.1).mono ?_; rintro e w5 ⟨rfl, hb5⟩))
  have HS5 := hid (HS4.out.keep hb5)
  clear hb5 HS4
  have hz := HZ.out
  have hmk := HMK.out
  have hcv := HCV.out
  refine wp_region_noPanic ?_
  refine wp_region_held_drew (S := S w bk bn key nonce) (by kernel_rfl) (HS5.out.keep ((Below.refl _ _).drew)) (fun hS1 => ?_)
  change wpAnyH _ _ _ _ _ 10 _ _ _
  refine wpAnyH_take (i := 0) (oi := ?oi2) (v := .string KT) ?hi2 (by kernel_rfl) (by kernel_rfl) (by kernel_rfl) (fun _ _ _ h => h) ?hy2 hS1 ?rest2
  case hi2 => simp only [List.getElem?_toArray, List.getElem?_cons_zero]; rfl
  case hy2 => exact Or.inl ⟨rfl, fun _ hSw => rfl⟩
  simp only [Act.put, List.setIfInBounds_toArray, List.set_cons_zero, List.set_cons_succ]
  refine wpAnyH_take (i := 2) (oi := ?oi3) (v := .string NT) ?hi3 (by kernel_rfl) (by kernel_rfl) (by kernel_rfl) (fun _ _ _ h => h) ?hy3 hS1 ?rest3
  case hi3 => simp only [List.getElem?_toArray, List.getElem?_cons_succ, List.getElem?_cons_zero]; rfl
  case hy3 => exact Or.inl ⟨rfl, fun _ hSw => rfl⟩
  simp only [Act.put, List.setIfInBounds_toArray, List.set_cons_zero, List.set_cons_succ]
  refine wpAnyH_take (i := 4) (oi := ?oi4) (v := .int .i64 m) ?hi4 (by kernel_rfl) (by kernel_rfl) (by kernel_rfl) (fun _ _ _ h => h) ?hy4 hS1 ?rest4
  case hi4 => simp only [List.getElem?_toArray, List.getElem?_cons_succ, List.getElem?_cons_zero]; rfl
  case hy4 => exact Or.inl ⟨rfl, fun _ hSw => rfl⟩
  simp only [Act.put, List.setIfInBounds_toArray, List.set_cons_zero, List.set_cons_succ]
  refine wpAnyH_take (i := 5) (oi := ?oi5) (v := .int .i64 (z : Int)) ?hi5 (by kernel_rfl) (by kernel_rfl) (by kernel_rfl) (fun _ _ _ h => h) ?hy5 hS1 ?rest5
  case hi5 => simp only [List.getElem?_toArray, List.getElem?_cons_succ, List.getElem?_cons_zero]; rfl
  case hy5 => exact Or.inl ⟨rfl, fun _ hSw => by go_simp⟩
  simp only [Act.put, List.setIfInBounds_toArray, List.set_cons_zero, List.set_cons_succ]
  refine wpAnyH_ready (rs := [1, 6]) (by kernel_rfl) (by simp) ?_
  refine AllReadyH.cons (o := ?oia_1) ?hia_1 ?stepa_1 (AllReadyH.cons (o := ?oia_6) ?hia_6 ?stepa_6 AllReadyH.nil)
  case hia_1 => simp only [List.getElem?_toArray, List.getElem?_cons_succ, List.getElem?_cons_zero]; rfl
  case hia_6 => simp only [List.getElem?_toArray, List.getElem?_cons_succ, List.getElem?_cons_zero]; rfl
  case stepa_1 =>
    intro K hK
    go_simp
    refine (HF1.out _).mono ?_
    rintro e w6 ⟨rfl, rfl⟩
    refine hK.out _ _ (hS1) (fun hS2 => ?_)
    clear hK K
    try simp only [Act.put, List.setIfInBounds_toArray, List.set_cons_zero, List.set_cons_succ]
    refine wpAnyH_ready (rs := [3, 6]) (by kernel_rfl) (by simp) ?_
    refine AllReadyH.cons (o := ?oib_3) ?hib_3 ?stepb_3 (AllReadyH.cons (o := ?oib_6) ?hib_6 ?stepb_6 AllReadyH.nil)
    case hib_3 => simp only [List.getElem?_toArray, List.getElem?_cons_succ, List.getElem?_cons_zero]; rfl
    case hib_6 => simp only [List.getElem?_toArray, List.getElem?_cons_succ, List.getElem?_cons_zero]; rfl
    case stepb_3 =>
      intro K hK
      go_simp
      refine (HF2.out _).mono ?_
      rintro e w7 ⟨rfl, rfl⟩
      refine hK.out _ _ (hS2) (fun hS3 => ?_)
      clear hK K
      try simp only [Act.put, List.setIfInBounds_toArray, List.set_cons_zero, List.set_cons_succ]
      refine wpAnyH_ready (rs := [6]) (by kernel_rfl) (by simp) ?_
      refine AllReadyH.cons (o := ?oic_6) ?hic_6 ?stepc_6 AllReadyH.nil
      case hic_6 => simp only [List.getElem?_toArray, List.getElem?_cons_succ, List.getElem?_cons_zero]; rfl
      intro K hK
      go_simp
      refine hK.out _ _ (hS3.keep ((Below.refl _ _).alloc (Nat.le_refl _) _)) (fun hS4 => ?_)
      clear hK K
      try simp only [Act.put, List.setIfInBounds_toArray, List.set_cons_zero, List.set_cons_succ]
      refine wpAnyH_ready (rs := [7]) (by kernel_rfl) (by simp) ?_
      refine AllReadyH.cons (o := ?oid_7) ?hid_7 ?stepd_7 AllReadyH.nil
      case hid_7 => simp only [List.getElem?_toArray, List.getElem?_cons_succ, List.getElem?_cons_zero]; rfl
      intro K hK
      go_simp
      refine hK.out _ _ (hS4) (fun hSe => ?_)
      clear hK K
      try simp only [Act.put, List.setIfInBounds_toArray, List.set_cons_zero, List.set_cons_succ]
      refine wpAnyH_ready (rs := [8]) (by kernel_rfl) (by simp) ?_
      refine AllReadyH.cons (o := ?oi14) ?hi14 ?step14 AllReadyH.nil
      case hi14 => simp only [List.getElem?_toArray, List.getElem?_cons_succ, List.getElem?_cons_zero]; rfl
      intro K hK
      go_simp
      refine (HRX.out _).mono ?_
      rintro e w8 ⟨rfl, hb8⟩
      refine hK.out _ _ (hSe.keep hb8) (fun hS8 => ?_)
      clear hK K
      try simp only [Act.put, List.setIfInBounds_toArray, List.set_cons_zero, List.set_cons_succ]
      refine wpAnyH_take (i := 9) (oi := ?oi15) (v := .string SX) ?hi15 (by kernel_rfl) (by kernel_rfl) (by kernel_rfl) (fun _ _ _ h => h) ?hy15 hS8 ?rest15
      case hi15 => simp only [List.getElem?_toArray, List.getElem?_cons_succ, List.getElem?_cons_zero]; rfl
      case hy15 => exact Or.inl ⟨rfl, fun _ hSw => rfl⟩
      simp only [Act.put, List.setIfInBounds_toArray, List.set_cons_zero, List.set_cons_succ]
      refine wpAnyH_done (by kernel_rfl) ?_ _
      refine NoPanic.normal ?_
      have HS8 := hid hS8
      clear hSe hS8 hb8
      have HRK := hid HS8.out.1
      have HRN := hid HS8.out.2.1
      go_wp2_with (first
        | (refine wpList_load_row_g rfl _ _ rfl bk rfl _ _ _ _ HRK.out Tryd.underlying23 rfl I1.out ?_)
        | (refine wpList_load_row_g rfl _ _ rfl bn rfl _ _ _ _ (HRN.out.below hb9 HRN.out.lt) Tryd.underlying26 rfl I2.out ?_)
        | (go_at_call 20; refine (HLK.out _).mono ?_; rintro e w9 ⟨rfl, hb9⟩)
        | (go_at_call 21; refine (HLN.out _).mono ?_; rintro e w11 ⟨rfl, hb11⟩)
        | (go_at_call 25; with_reducible refine (HF1.out _).mono ?_; rintro e w10 ⟨rfl, hw10⟩; subst hw10)
        | (go_at_call 25; with_reducible refine (HF2.out _).mono ?_; rintro e w12 ⟨rfl, hw12⟩; subst hw12))
      go_ret
      exact ⟨rfl, ((HS8.out.keep hb9).keep hb11).2.2.2.1⟩
    case stepb_6 =>
      intro K hK
      go_simp
      refine hK.out _ _ (hS2.keep ((Below.refl _ _).alloc (Nat.le_refl _) _)) (fun hS3 => ?_)
      clear hK K
      try simp only [Act.put, List.setIfInBounds_toArray, List.set_cons_zero, List.set_cons_succ]
      refine wpAnyH_ready (rs := [3, 7]) (by kernel_rfl) (by simp) ?_
      refine AllReadyH.cons (o := ?oie_3) ?hie_3 ?stepe_3 (AllReadyH.cons (o := ?oie_7) ?hie_7 ?stepe_7 AllReadyH.nil)
      case hie_3 => simp only [List.getElem?_toArray, List.getElem?_cons_succ, List.getElem?_cons_zero]; rfl
      case hie_7 => simp only [List.getElem?_toArray, List.getElem?_cons_succ, List.getElem?_cons_zero]; rfl
      case stepe_3 =>
        intro K hK
        go_simp
        refine (HF2.out _).mono ?_
        rintro e w7 ⟨rfl, rfl⟩
        refine hK.out _ _ (hS3) (fun hS4 => ?_)
        clear hK K
        try simp only [Act.put, List.setIfInBounds_toArray, List.set_cons_zero, List.set_cons_succ]
        refine wpAnyH_ready (rs := [7]) (by kernel_rfl) (by simp) ?_
        refine AllReadyH.cons (o := ?oif_7) ?hif_7 ?stepf_7 AllReadyH.nil
        case hif_7 => simp only [List.getElem?_toArray, List.getElem?_cons_succ, List.getElem?_cons_zero]; rfl
        intro K hK
        go_simp
        refine hK.out _ _ (hS4) (fun hSe => ?_)
        clear hK K
        try simp only [Act.put, List.setIfInBounds_toArray, List.set_cons_zero, List.set_cons_succ]
        refine wpAnyH_ready (rs := [8]) (by kernel_rfl) (by simp) ?_
        refine AllReadyH.cons (o := ?oi22) ?hi22 ?step22 AllReadyH.nil
        case hi22 => simp only [List.getElem?_toArray, List.getElem?_cons_succ, List.getElem?_cons_zero]; rfl
        intro K hK
        go_simp
        refine (HRX.out _).mono ?_
        rintro e w8 ⟨rfl, hb8⟩
        refine hK.out _ _ (hSe.keep hb8) (fun hS8 => ?_)
        clear hK K
        try simp only [Act.put, List.setIfInBounds_toArray, List.set_cons_zero, List.set_cons_succ]
        refine wpAnyH_take (i := 9) (oi := ?oi23) (v := .string SX) ?hi23 (by kernel_rfl) (by kernel_rfl) (by kernel_rfl) (fun _ _ _ h => h) ?hy23 hS8 ?rest23
        case hi23 => simp only [List.getElem?_toArray, List.getElem?_cons_succ, List.getElem?_cons_zero]; rfl
        case hy23 => exact Or.inl ⟨rfl, fun _ hSw => rfl⟩
        simp only [Act.put, List.setIfInBounds_toArray, List.set_cons_zero, List.set_cons_succ]
        refine wpAnyH_done (by kernel_rfl) ?_ _
        refine NoPanic.normal ?_
        have HS8 := hid hS8
        clear hSe hS8 hb8
        have HRK := hid HS8.out.1
        have HRN := hid HS8.out.2.1
        go_wp2_with (first
          | (refine wpList_load_row_g rfl _ _ rfl bk rfl _ _ _ _ HRK.out Tryd.underlying23 rfl I1.out ?_)
          | (refine wpList_load_row_g rfl _ _ rfl bn rfl _ _ _ _ (HRN.out.below hb9 HRN.out.lt) Tryd.underlying26 rfl I2.out ?_)
          | (go_at_call 20; refine (HLK.out _).mono ?_; rintro e w9 ⟨rfl, hb9⟩)
          | (go_at_call 21; refine (HLN.out _).mono ?_; rintro e w11 ⟨rfl, hb11⟩)
          | (go_at_call 25; with_reducible refine (HF1.out _).mono ?_; rintro e w10 ⟨rfl, hw10⟩; subst hw10)
          | (go_at_call 25; with_reducible refine (HF2.out _).mono ?_; rintro e w12 ⟨rfl, hw12⟩; subst hw12))
        go_ret
        exact ⟨rfl, ((HS8.out.keep hb9).keep hb11).2.2.2.1⟩
      case stepe_7 =>
        intro K hK
        go_simp
        refine hK.out _ _ (hS3) (fun hS4 => ?_)
        clear hK K
        try simp only [Act.put, List.setIfInBounds_toArray, List.set_cons_zero, List.set_cons_succ]
        refine wpAnyH_ready (rs := [3]) (by kernel_rfl) (by simp) ?_
        refine AllReadyH.cons (o := ?oig_3) ?hig_3 ?stepg_3 AllReadyH.nil
        case hig_3 => simp only [List.getElem?_toArray, List.getElem?_cons_succ, List.getElem?_cons_zero]; rfl
        intro K hK
        go_simp
        refine (HF2.out _).mono ?_
        rintro e w7 ⟨rfl, rfl⟩
        refine hK.out _ _ (hS4) (fun hSe => ?_)
        clear hK K
        try simp only [Act.put, List.setIfInBounds_toArray, List.set_cons_zero, List.set_cons_succ]
        refine wpAnyH_ready (rs := [8]) (by kernel_rfl) (by simp) ?_
        refine AllReadyH.cons (o := ?oi28) ?hi28 ?step28 AllReadyH.nil
        case hi28 => simp only [List.getElem?_toArray, List.getElem?_cons_succ, List.getElem?_cons_zero]; rfl
        intro K hK
        go_simp
        refine (HRX.out _).mono ?_
        rintro e w8 ⟨rfl, hb8⟩
        refine hK.out _ _ (hSe.keep hb8) (fun hS8 => ?_)
        clear hK K
        try simp only [Act.put, List.setIfInBounds_toArray, List.set_cons_zero, List.set_cons_succ]
        refine wpAnyH_take (i := 9) (oi := ?oi29) (v := .string SX) ?hi29 (by kernel_rfl) (by kernel_rfl) (by kernel_rfl) (fun _ _ _ h => h) ?hy29 hS8 ?rest29
        case hi29 => simp only [List.getElem?_toArray, List.getElem?_cons_succ, List.getElem?_cons_zero]; rfl
        case hy29 => exact Or.inl ⟨rfl, fun _ hSw => rfl⟩
        simp only [Act.put, List.setIfInBounds_toArray, List.set_cons_zero, List.set_cons_succ]
        refine wpAnyH_done (by kernel_rfl) ?_ _
        refine NoPanic.normal ?_
        have HS8 := hid hS8
        clear hSe hS8 hb8
        have HRK := hid HS8.out.1
        have HRN := hid HS8.out.2.1
        go_wp2_with (first
          | (refine wpList_load_row_g rfl _ _ rfl bk rfl _ _ _ _ HRK.out Tryd.underlying23 rfl I1.out ?_)
          | (refine wpList_load_row_g rfl _ _ rfl bn rfl _ _ _ _ (HRN.out.below hb9 HRN.out.lt) Tryd.underlying26 rfl I2.out ?_)
          | (go_at_call 20; refine (HLK.out _).mono ?_; rintro e w9 ⟨rfl, hb9⟩)
          | (go_at_call 21; refine (HLN.out _).mono ?_; rintro e w11 ⟨rfl, hb11⟩)
          | (go_at_call 25; with_reducible refine (HF1.out _).mono ?_; rintro e w10 ⟨rfl, hw10⟩; subst hw10)
          | (go_at_call 25; with_reducible refine (HF2.out _).mono ?_; rintro e w12 ⟨rfl, hw12⟩; subst hw12))
        go_ret
        exact ⟨rfl, ((HS8.out.keep hb9).keep hb11).2.2.2.1⟩
  case stepa_6 =>
    intro K hK
    go_simp
    refine hK.out _ _ (hS1.keep ((Below.refl _ _).alloc (Nat.le_refl _) _)) (fun hS2 => ?_)
    clear hK K
    try simp only [Act.put, List.setIfInBounds_toArray, List.set_cons_zero, List.set_cons_succ]
    refine wpAnyH_ready (rs := [1, 7]) (by kernel_rfl) (by simp) ?_
    refine AllReadyH.cons (o := ?oih_1) ?hih_1 ?steph_1 (AllReadyH.cons (o := ?oih_7) ?hih_7 ?steph_7 AllReadyH.nil)
    case hih_1 => simp only [List.getElem?_toArray, List.getElem?_cons_succ, List.getElem?_cons_zero]; rfl
    case hih_7 => simp only [List.getElem?_toArray, List.getElem?_cons_succ, List.getElem?_cons_zero]; rfl
    case steph_1 =>
      intro K hK
      go_simp
      refine (HF1.out _).mono ?_
      rintro e w6 ⟨rfl, rfl⟩
      refine hK.out _ _ (hS2) (fun hS3 => ?_)
      clear hK K
      try simp only [Act.put, List.setIfInBounds_toArray, List.set_cons_zero, List.set_cons_succ]
      refine wpAnyH_ready (rs := [3, 7]) (by kernel_rfl) (by simp) ?_
      refine AllReadyH.cons (o := ?oii_3) ?hii_3 ?stepi_3 (AllReadyH.cons (o := ?oii_7) ?hii_7 ?stepi_7 AllReadyH.nil)
      case hii_3 => simp only [List.getElem?_toArray, List.getElem?_cons_succ, List.getElem?_cons_zero]; rfl
      case hii_7 => simp only [List.getElem?_toArray, List.getElem?_cons_succ, List.getElem?_cons_zero]; rfl
      case stepi_3 =>
        intro K hK
        go_simp
        refine (HF2.out _).mono ?_
        rintro e w7 ⟨rfl, rfl⟩
        refine hK.out _ _ (hS3) (fun hS4 => ?_)
        clear hK K
        try simp only [Act.put, List.setIfInBounds_toArray, List.set_cons_zero, List.set_cons_succ]
        refine wpAnyH_ready (rs := [7]) (by kernel_rfl) (by simp) ?_
        refine AllReadyH.cons (o := ?oij_7) ?hij_7 ?stepj_7 AllReadyH.nil
        case hij_7 => simp only [List.getElem?_toArray, List.getElem?_cons_succ, List.getElem?_cons_zero]; rfl
        intro K hK
        go_simp
        refine hK.out _ _ (hS4) (fun hSe => ?_)
        clear hK K
        try simp only [Act.put, List.setIfInBounds_toArray, List.set_cons_zero, List.set_cons_succ]
        refine wpAnyH_ready (rs := [8]) (by kernel_rfl) (by simp) ?_
        refine AllReadyH.cons (o := ?oi38) ?hi38 ?step38 AllReadyH.nil
        case hi38 => simp only [List.getElem?_toArray, List.getElem?_cons_succ, List.getElem?_cons_zero]; rfl
        intro K hK
        go_simp
        refine (HRX.out _).mono ?_
        rintro e w8 ⟨rfl, hb8⟩
        refine hK.out _ _ (hSe.keep hb8) (fun hS8 => ?_)
        clear hK K
        try simp only [Act.put, List.setIfInBounds_toArray, List.set_cons_zero, List.set_cons_succ]
        refine wpAnyH_take (i := 9) (oi := ?oi39) (v := .string SX) ?hi39 (by kernel_rfl) (by kernel_rfl) (by kernel_rfl) (fun _ _ _ h => h) ?hy39 hS8 ?rest39
        case hi39 => simp only [List.getElem?_toArray, List.getElem?_cons_succ, List.getElem?_cons_zero]; rfl
        case hy39 => exact Or.inl ⟨rfl, fun _ hSw => rfl⟩
        simp only [Act.put, List.setIfInBounds_toArray, List.set_cons_zero, List.set_cons_succ]
        refine wpAnyH_done (by kernel_rfl) ?_ _
        refine NoPanic.normal ?_
        have HS8 := hid hS8
        clear hSe hS8 hb8
        have HRK := hid HS8.out.1
        have HRN := hid HS8.out.2.1
        go_wp2_with (first
          | (refine wpList_load_row_g rfl _ _ rfl bk rfl _ _ _ _ HRK.out Tryd.underlying23 rfl I1.out ?_)
          | (refine wpList_load_row_g rfl _ _ rfl bn rfl _ _ _ _ (HRN.out.below hb9 HRN.out.lt) Tryd.underlying26 rfl I2.out ?_)
          | (go_at_call 20; refine (HLK.out _).mono ?_; rintro e w9 ⟨rfl, hb9⟩)
          | (go_at_call 21; refine (HLN.out _).mono ?_; rintro e w11 ⟨rfl, hb11⟩)
          | (go_at_call 25; with_reducible refine (HF1.out _).mono ?_; rintro e w10 ⟨rfl, hw10⟩; subst hw10)
          | (go_at_call 25; with_reducible refine (HF2.out _).mono ?_; rintro e w12 ⟨rfl, hw12⟩; subst hw12))
        go_ret
        exact ⟨rfl, ((HS8.out.keep hb9).keep hb11).2.2.2.1⟩
      case stepi_7 =>
        intro K hK
        go_simp
        refine hK.out _ _ (hS3) (fun hS4 => ?_)
        clear hK K
        try simp only [Act.put, List.setIfInBounds_toArray, List.set_cons_zero, List.set_cons_succ]
        refine wpAnyH_ready (rs := [3]) (by kernel_rfl) (by simp) ?_
        refine AllReadyH.cons (o := ?oik_3) ?hik_3 ?stepk_3 AllReadyH.nil
        case hik_3 => simp only [List.getElem?_toArray, List.getElem?_cons_succ, List.getElem?_cons_zero]; rfl
        intro K hK
        go_simp
        refine (HF2.out _).mono ?_
        rintro e w7 ⟨rfl, rfl⟩
        refine hK.out _ _ (hS4) (fun hSe => ?_)
        clear hK K
        try simp only [Act.put, List.setIfInBounds_toArray, List.set_cons_zero, List.set_cons_succ]
        refine wpAnyH_ready (rs := [8]) (by kernel_rfl) (by simp) ?_
        refine AllReadyH.cons (o := ?oi44) ?hi44 ?step44 AllReadyH.nil
        case hi44 => simp only [List.getElem?_toArray, List.getElem?_cons_succ, List.getElem?_cons_zero]; rfl
        intro K hK
        go_simp
        refine (HRX.out _).mono ?_
        rintro e w8 ⟨rfl, hb8⟩
        refine hK.out _ _ (hSe.keep hb8) (fun hS8 => ?_)
        clear hK K
        try simp only [Act.put, List.setIfInBounds_toArray, List.set_cons_zero, List.set_cons_succ]
        refine wpAnyH_take (i := 9) (oi := ?oi45) (v := .string SX) ?hi45 (by kernel_rfl) (by kernel_rfl) (by kernel_rfl) (fun _ _ _ h => h) ?hy45 hS8 ?rest45
        case hi45 => simp only [List.getElem?_toArray, List.getElem?_cons_succ, List.getElem?_cons_zero]; rfl
        case hy45 => exact Or.inl ⟨rfl, fun _ hSw => rfl⟩
        simp only [Act.put, List.setIfInBounds_toArray, List.set_cons_zero, List.set_cons_succ]
        refine wpAnyH_done (by kernel_rfl) ?_ _
        refine NoPanic.normal ?_
        have HS8 := hid hS8
        clear hSe hS8 hb8
        have HRK := hid HS8.out.1
        have HRN := hid HS8.out.2.1
        go_wp2_with (first
          | (refine wpList_load_row_g rfl _ _ rfl bk rfl _ _ _ _ HRK.out Tryd.underlying23 rfl I1.out ?_)
          | (refine wpList_load_row_g rfl _ _ rfl bn rfl _ _ _ _ (HRN.out.below hb9 HRN.out.lt) Tryd.underlying26 rfl I2.out ?_)
          | (go_at_call 20; refine (HLK.out _).mono ?_; rintro e w9 ⟨rfl, hb9⟩)
          | (go_at_call 21; refine (HLN.out _).mono ?_; rintro e w11 ⟨rfl, hb11⟩)
          | (go_at_call 25; with_reducible refine (HF1.out _).mono ?_; rintro e w10 ⟨rfl, hw10⟩; subst hw10)
          | (go_at_call 25; with_reducible refine (HF2.out _).mono ?_; rintro e w12 ⟨rfl, hw12⟩; subst hw12))
        go_ret
        exact ⟨rfl, ((HS8.out.keep hb9).keep hb11).2.2.2.1⟩
    case steph_7 =>
      intro K hK
      go_simp
      refine hK.out _ _ (hS2) (fun hS3 => ?_)
      clear hK K
      try simp only [Act.put, List.setIfInBounds_toArray, List.set_cons_zero, List.set_cons_succ]
      refine wpAnyH_ready (rs := [1]) (by kernel_rfl) (by simp) ?_
      refine AllReadyH.cons (o := ?oil_1) ?hil_1 ?stepl_1 AllReadyH.nil
      case hil_1 => simp only [List.getElem?_toArray, List.getElem?_cons_succ, List.getElem?_cons_zero]; rfl
      intro K hK
      go_simp
      refine (HF1.out _).mono ?_
      rintro e w6 ⟨rfl, rfl⟩
      refine hK.out _ _ (hS3) (fun hS4 => ?_)
      clear hK K
      try simp only [Act.put, List.setIfInBounds_toArray, List.set_cons_zero, List.set_cons_succ]
      refine wpAnyH_ready (rs := [3]) (by kernel_rfl) (by simp) ?_
      refine AllReadyH.cons (o := ?oim_3) ?him_3 ?stepm_3 AllReadyH.nil
      case him_3 => simp only [List.getElem?_toArray, List.getElem?_cons_succ, List.getElem?_cons_zero]; rfl
      intro K hK
      go_simp
      refine (HF2.out _).mono ?_
      rintro e w7 ⟨rfl, rfl⟩
      refine hK.out _ _ (hS4) (fun hSe => ?_)
      clear hK K
      try simp only [Act.put, List.setIfInBounds_toArray, List.set_cons_zero, List.set_cons_succ]
      refine wpAnyH_ready (rs := [8]) (by kernel_rfl) (by simp) ?_
      refine AllReadyH.cons (o := ?oi52) ?hi52 ?step52 AllReadyH.nil
      case hi52 => simp only [List.getElem?_toArray, List.getElem?_cons_succ, List.getElem?_cons_zero]; rfl
      intro K hK
      go_simp
      refine (HRX.out _).mono ?_
      rintro e w8 ⟨rfl, hb8⟩
      refine hK.out _ _ (hSe.keep hb8) (fun hS8 => ?_)
      clear hK K
      try simp only [Act.put, List.setIfInBounds_toArray, List.set_cons_zero, List.set_cons_succ]
      refine wpAnyH_take (i := 9) (oi := ?oi53) (v := .string SX) ?hi53 (by kernel_rfl) (by kernel_rfl) (by kernel_rfl) (fun _ _ _ h => h) ?hy53 hS8 ?rest53
      case hi53 => simp only [List.getElem?_toArray, List.getElem?_cons_succ, List.getElem?_cons_zero]; rfl
      case hy53 => exact Or.inl ⟨rfl, fun _ hSw => rfl⟩
      simp only [Act.put, List.setIfInBounds_toArray, List.set_cons_zero, List.set_cons_succ]
      refine wpAnyH_done (by kernel_rfl) ?_ _
      refine NoPanic.normal ?_
      have HS8 := hid hS8
      clear hSe hS8 hb8
      have HRK := hid HS8.out.1
      have HRN := hid HS8.out.2.1
      go_wp2_with (first
        | (refine wpList_load_row_g rfl _ _ rfl bk rfl _ _ _ _ HRK.out Tryd.underlying23 rfl I1.out ?_)
        | (refine wpList_load_row_g rfl _ _ rfl bn rfl _ _ _ _ (HRN.out.below hb9 HRN.out.lt) Tryd.underlying26 rfl I2.out ?_)
        | (go_at_call 20; refine (HLK.out _).mono ?_; rintro e w9 ⟨rfl, hb9⟩)
        | (go_at_call 21; refine (HLN.out _).mono ?_; rintro e w11 ⟨rfl, hb11⟩)
        | (go_at_call 25; with_reducible refine (HF1.out _).mono ?_; rintro e w10 ⟨rfl, hw10⟩; subst hw10)
        | (go_at_call 25; with_reducible refine (HF2.out _).mono ?_; rintro e w12 ⟨rfl, hw12⟩; subst hw12))
      go_ret
      exact ⟨rfl, ((HS8.out.keep hb9).keep hb11).2.2.2.1⟩


set_option maxRecDepth 100000 in
theorem contract (H : Type) (enc : TypeId × Value → H) (W : World) (base : Nat) (args : Array Value) (ds gs : List (DataW H)) (before : List MemPlace)
    (hval : ∀ (j : Nat) t v, Tryd.f5.params[j]? = some t → args[j]? = some v → Value.okWide Tryd.prog W .any base t v)
    (hW : DataW.Whole enc Tryd.prog Tryd.f5.params.toList Rows.streamBytesSpec.vars false W args.toList ds gs before) (hL : laidMetH Tryd.prog Rows.streamBytesRow.laid W) :
    Calls Tryd.prog 5 args W fun e W' => ∃ v, e = .returned v ∧ Rows.streamBytesSpec.post enc Tryd.prog Tryd.f5 false true false false W args v W' := by
  have hW' := hW
  obtain ⟨p, q, hA0, hV, rfl, hfz, hnd⟩ := hW
  have hA : DataW.TrodAll enc Tryd.prog W 0 (fun _ => true) true Tryd.f5.params.toList args.toList ds p := hA0
  rw [Tryd.params5] at hA hval
  obtain ⟨v0, vs0, d0, ds0, p0, q0, hargs, rfl, rfl, h0, r0⟩ := trodAll_cons hA
  obtain ⟨v1, vs1, d1, ds1, p1, q1, rfl, rfl, rfl, h1, r1⟩ := trodAll_cons r0
  obtain ⟨v2, vs2, d2, ds2, p2, q2, rfl, rfl, rfl, h2, r2⟩ := trodAll_cons r1
  obtain ⟨rfl, rfl, rfl⟩ := trodAll_nil r2
  obtain rfl : args = #[v0, v1, v2] := by cases args; simp_all
  obtain ⟨s0, rfl, rfl, rfl, hs0⟩ := Go.ChangeMaps.open_string Tryd.underlying9 (hval 0 9 v0 rfl rfl) h0
  obtain ⟨s1, rfl, rfl, rfl, hs1⟩ := Go.ChangeMaps.open_string Tryd.underlying9 (hval 1 9 v1 rfl rfl) h1
  obtain ⟨n2, rfl, rfl, rfl, wn2⟩ := open_int Tryd.underlying3 (hval 2 3 v2 rfl rfl) h2
  refine (walk s0 s1 hs0 hs1 n2 W (tabq_of hL)).mono fun e W' ⟨he, hb⟩ => ?_
  subst he
  exact ⟨_, rfl, law_post rfl rfl (by rw [Tryd.params5]; decide +kernel) hW' rfl hb⟩

theorem laid_met (os : Os) : laidMet Tryd.prog Rows.streamBytesRow.laid ((laidWorld os).forCall (fun _ _ => 0) ⟨#[], #[.string ByteArray.empty, .string ByteArray.empty, .int .i64 0], []⟩).memory :=
  laidMet_of_run' 8 (by kernel_rfl) (by kernel_rfl)
theorem reads (os : Os) {H : Type} (enc : TypeId × Value → H) : ∃ places, DataW.whole enc Tryd.prog ((laidWorld os).forCall (fun _ _ => 0) ⟨#[], #[.string ByteArray.empty, .string ByteArray.empty, .int .i64 0], []⟩).memory Tryd.f5.params.toList Rows.streamBytesSpec.vars false (#[.string ByteArray.empty, .string ByteArray.empty, .int .i64 0] : Array Value).toList 8
    = some ([.lit (.string []), .lit (.string []), .lit (.int .i64 0)], [], places) :=
  ⟨[], by kernel_rfl⟩

set_option maxRecDepth 100000 in
theorem lifted (os : Os) (started : os.Started) (H : Type) (enc : TypeId × Value → H) (F : Stop.Interp) :
    ReturnsInHanded {} Tryd.checked os 5 .any ((OpenSpec.ofChange Rows.streamBytesSpec).preRow enc Tryd.prog Tryd.f5 Rows.streamBytesRow.domain false Rows.streamBytesRow.laid) (((OpenSpec.ofChange Rows.streamBytesSpec).at F).post enc Tryd.prog Tryd.f5 false true false false) := by
  obtain ⟨places, hx⟩ := reads os enc
  refine returnsInHanded_of_row (C := Tryd.checked) (s := OpenSpec.ofChange Rows.streamBytesSpec) own started (by kernel_rfl) Tryd.func5
    (witness_row_at (enc := enc) (C := Tryd.checked) false (laidWorld os) #[.string ByteArray.empty, .string ByteArray.empty, .int .i64 0] rfl (by kernel_rfl) (by kernel_rfl) (by kernel_rfl)
      (OpenSpec.preRow_of_cond 8 hx (by kernel_rfl) (fun k hk => by cases hk) (by kernel_rfl) (laid_met os))) ?_
  intro W base args ds gs before hval hW _ _ _ hL _ _
  exact contract H enc W base args ds gs before hval hW hL

theorem said : Rows.StreamBytesSaid :=
  OpenClaim.holds_of_cond 5 Tryd.f5 rfl rfl rfl rfl rfl rfl rfl ⟨rfl, rfl, rfl, rfl, rfl⟩ rfl rfl rfl rfl rfl (by kernel_rfl) Tryd.func5 (by kernel_rfl)
    (of_decide_eq_true (by kernel_rfl)) (by unfold Func.isWrapper; first | (rw [if_pos (by decide +kernel)]; kernel_rfl) | (rw [if_neg (by decide +kernel)]; exact ⟨rfl, rfl⟩))
    (fun os started H enc _ F => by rw [OpenClaim.pre_eq_preRow]; exact lifted os started H enc F)

theorem plain (f : FuncId) (fn : Func) (hf : Tryd.pinned.checked.prog.funcNamed "sealwax/sealwaxlaw03.StreamBytes" = some f) (hfn : Tryd.pinned.checked.prog.funcs[f]? = some fn) :
    false = Tryd.pinned.checked.prog.looks [] ∧ ∀ (j : Nat) t, fn.params[j]? = some t → Tryd.pinned.checked.prog.wantsStandIn t = false := by
  obtain rfl : f = 5 := Option.some.inj ((show Tryd.prog.funcNamed "sealwax/sealwaxlaw03.StreamBytes" = some 5 by kernel_rfl).symm.trans hf) |>.symm
  obtain rfl : fn = Tryd.f5 := (Option.some.inj (Tryd.func5.symm.trans hfn)).symm
  refine ⟨by kernel_rfl, fun j t ht => ?_⟩
  rw [Tryd.params5] at ht
  have hmem := Array.mem_of_getElem? ht
  exact (show ∀ t ∈ (Tryd.f5.params), Tryd.prog.wantsStandIn t = false from by rw [Tryd.params5]; decide +kernel) t (by rw [Tryd.params5]; exact hmem)

theorem card : Rows.StreamBytesCardSaid :=
  Claim7.holds_tied_plain_at .later [] _ _ _ _ said (fun _ h => by cases h) (by kernel_rfl) (fun _ h => by cases h) streamBytes_row_tie rfl ⟨rfl, rfl⟩ (by kernel_rfl) rfl plain (by kernel_rfl)

end StreamBytes
theorem streamBytes_card : Rows.StreamBytesCardSaid := StreamBytes.card
end Go.Proofs.YtefennnekmecoaaDoor
