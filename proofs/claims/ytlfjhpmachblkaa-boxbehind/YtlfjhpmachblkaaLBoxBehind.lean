/-
  A box is read from its bytes, and what is behind it is left (law BoxBehind); for every input.
-/
import Derived.Test.YtlfjhpmachblkaaBx19
namespace Go.Proofs.Ytlfjhpmachblkaa
open Go.ChangeShapes Go.WideShapes Go.ChangeAt Go.RowKit
open Go.Lib (hid)

attribute [local go_sem] Oper.semAt_some

namespace BoxBehind
set_option maxHeartbeats 4000000 in
set_option maxRecDepth 100000 in
theorem walk (ao : Option Addr) (A : List Bv.A) (cap : Nat) (s : ByteArray) (hs : s.size ≤ maxLen) (w : World) (hA : ActsX w ao A) :
    Calls Try.prog 7 #[.slice ao A.length cap, .string s] w fun e w' => e = .returned (.bool true) ∧ Below w.heap.size w w' := by
  have HW := hid (awake18_any w)
  have HN := hid (fun wx => bnew_any 4 4 (by decide) wx)
  have HRN := hid (fun wx => rnew18_any 4 4 (by decide) wx)
  have HA := hid hA
  clear hA
  unfold rbV at HRN
  go_enter Try.func7, Try.ntmps7
  go_wp2_with fail
  refine HW.out.mono ?_
  rintro e w0 ⟨rfl, hb0⟩
  go_wp2_with fail
  refine (HN.out _).mono ?_
  rintro e w1 ⟨rfl, hi1, hb1⟩
  have S1 := hid (show BxS w w1 w0.heap.size _ 4 1 [] from ⟨hi1, hb0.size, VFresh.nil _, hb0.trans (hb1.mono hb0.size)⟩)
  clear hi1 hb1 hb0 HW HN
  generalize w0.heap.size = b at *
  go_wp2_with fail
  refine (HRN.out _).mono ?_
  rintro e w2 ⟨rfl, hb2⟩
  have S2 := hid (S1.out.below hb2)
  clear hb2 S1 HRN
  go_upto_region 4 with (fail)
  generalize hW3 : World.alloc _ _ = w3
  have hb3 : Below w2.heap.size w2 w3 := by rw [← hW3]; exact (Below.refl _ _).alloc (Nat.le_refl _) _
  have R3 := hid (show BxR w w3 b w2.heap.size (.slice none 0 0) (.slice none 0 0) 4 1 [] from ⟨S2.out.below hb3, OwnB.nil _ _, by rw [← hW3]; exact heap_alloc_new _ _, S2.out.bel.size, Bv.Good.new (by decide)⟩)
  clear hW3 hb3 S2
  generalize w2.heap.size = z8 at *
  go_upto_region 7 with (fail)
  go_loopw [7] (fun i wr => ∃ (p : Nat) (v r : Value) (X : Int) (L : List Bv.E), p ≤ A.length ∧ p ≤ 15 ∧ i = .int .i64 p ∧ X ≤ (p : Int) + 1 ∧ BxR w wr b z8 v r 4 X L)
    (fun i _ => A.length - (intOf i).toNat)
  case atStart => exact ⟨0, _, _, 1, [], by omega, by omega, rfl, by omega, R3.out⟩
  case round =>
    obtain ⟨p, v, r, X, L, hpA, hp40, rfl, hXp, hR⟩ := hrel
    have S := hid hR
    clear hR R3
    by_cases hlt : p < A.length
    · by_cases hl2 : p < 15
      · have hpi : (p : Int) < (A.length : Int) := by omega
        have hpi2 : (p : Int) < 15 := by omega
        obtain ⟨⟨k, u, m, on, off⟩, hz⟩ : ∃ z, A.getD p Bv.A.z = z := ⟨_, rfl⟩
        obtain ⟨sb, so, rfl, _⟩ := (HA.out.below S.out.bs.bel).get p hlt k u m on off hz
        have HACT := hid (fun W (hW : Below w.heap.size w W) => (HA.out.below hW).get p hlt k u m on off hz)
        have hgs := S.out.good.st (by omega) (k, u, m, on, off)
        have hxs := Bv.st_le X L (k, u, m, on, off)
        obtain ⟨c0, c1, c2⟩ := S.out.rb.c
        have SD := hid (S.out.below ((Below.refl _ wr).drew))
        have hDo := do18_any b v r 4 X L k u m on off wr.drew SD.out.bs.is SD.out.rf S.out.good (by omega)
        generalize Bv.stX X L (k, u, m, on, off) = X' at *
        generalize Bv.stL X L (k, u, m, on, off) = L' at *
        unfold rbV at hDo
        have HDO := hid hDo
        have HGS := hid hgs
        clear hDo hz hgs
        go_upto_region 9 with (fail)
        refine wp_region_noPanic ?_
        refine wp_region_held_drew (S := fun W : World => Below w.heap.size w W) (by kernel_rfl) (S.out.bs.bel.drew) (fun hS1 => ?_)
        change wpAnyH _ _ _ _ _ 11 _ _ _
        refine wpAnyH_take (i := 0) (oi := ?oi2) (v := .pointer (some ⟨b, 0, none⟩)) ?hi2 (by kernel_rfl) (by kernel_rfl) (by kernel_rfl) (fun _ _ _ h => h) ?hy2 hS1 ?rest2
        case hi2 => simp only [List.getElem?_toArray, List.getElem?_cons_zero]; rfl
        case hy2 => exact Or.inl ⟨rfl, fun _ hSw => rfl⟩
        simp only [Act.put, List.setIfInBounds_toArray, List.set_cons_zero, List.set_cons_succ]
        refine wpAnyH_take (i := 2) (oi := ?oi3) (v := .slice (some ⟨sb, so, none⟩) A.length cap) ?hi3 (by kernel_rfl) (by kernel_rfl) (by kernel_rfl) (fun _ _ _ h => h) ?hy3 hS1 ?rest3
        case hi3 => simp only [List.getElem?_toArray, List.getElem?_cons_succ, List.getElem?_cons_zero]; rfl
        case hy3 => exact Or.inl ⟨rfl, fun _ hSw => rfl⟩
        simp only [Act.put, List.setIfInBounds_toArray, List.set_cons_zero, List.set_cons_succ]
        refine wpAnyH_take (i := 3) (oi := ?oi4) (v := .int .i64 (p : Int)) ?hi4 (by kernel_rfl) (by kernel_rfl) (by kernel_rfl) (fun _ _ _ h => h) ?hy4 hS1 ?rest4
        case hi4 => simp only [List.getElem?_toArray, List.getElem?_cons_succ, List.getElem?_cons_zero]; rfl
        case hy4 => exact Or.inl ⟨rfl, fun _ hSw => rfl⟩
        simp only [Act.put, List.setIfInBounds_toArray, List.set_cons_zero, List.set_cons_succ]
        refine wpAnyH_take (i := 4) (oi := ?oi5) (v := .pointer (some ⟨sb, so + p * 5, none⟩)) ?hi5 (by kernel_rfl) (by kernel_rfl) (by kernel_rfl) (fun _ _ _ h => h) ?hy5 hS1 ?rest5
        case hi5 => simp only [List.getElem?_toArray, List.getElem?_cons_succ, List.getElem?_cons_zero]; rfl
        case hy5 => exact Or.inl ⟨rfl, fun _ hSw => by go_simp⟩
        simp only [Act.put, List.setIfInBounds_toArray, List.set_cons_zero, List.set_cons_succ]
        refine wpAnyH_take (i := 5) (oi := ?oi6) (v := .agg #[.int .i64 k, .int .i64 u, .int .i64 m, .int .i64 on, .int .i64 off]) ?hi6 (by kernel_rfl) (by kernel_rfl) (by kernel_rfl) (fun _ _ _ h => h) ?hy6 hS1 ?rest6
        case hi6 => simp only [List.getElem?_toArray, List.getElem?_cons_succ, List.getElem?_cons_zero]; rfl
        case hy6 => exact Or.inl ⟨rfl, fun _ hSw => by obtain ⟨_, _, e, q0, q1, q2, q3, q4⟩ := HACT.out _ hSw; cases e; go_simp⟩
        simp only [Act.put, List.setIfInBounds_toArray, List.set_cons_zero, List.set_cons_succ]
        refine wpAnyH_ready (rs := [1]) (by kernel_rfl) (by simp) ?_
        refine AllReadyH.cons (o := ?oiu7_1) ?hiu7_1 ?stepu7_1 AllReadyH.nil
        case hiu7_1 => simp only [List.getElem?_toArray, List.getElem?_cons_succ, List.getElem?_cons_zero]; rfl
        intro K hK
        go_simp
        refine hK.out _ _ hS1 (fun hS2 => ?_)
        clear hK K c0 c1 c2
        try simp only [Act.put, List.setIfInBounds_toArray, List.set_cons_zero, List.set_cons_succ]
        generalize wr.drew = wd at *
        refine wpAnyH_ready (rs := [6]) (by kernel_rfl) (by simp) ?_
        refine AllReadyH.cons (o := ?oiu8_6) ?hiu8_6 ?stepu8_6 AllReadyH.nil
        case hiu8_6 => simp only [List.getElem?_toArray, List.getElem?_cons_succ, List.getElem?_cons_zero]; rfl
        intro K hK
        go_simp
        refine HDO.out.mono ?_
        rintro e w4 ⟨v4, r4, rfl, hi4, ho4, hk4⟩
        obtain ⟨ar4, cr4, hr4⟩ := ownsRow_slice ho4
        subst hr4
        have RN := hid (SD.out.step hi4 ho4 hk4 HGS.out)
        have R4 := hid (rb_toR SD.out.rb SD.out.bs.is hk4)
        have hb4 := (SD.out.bs.to hi4 hk4).bel
        refine hK.out _ _ hb4 (fun hS3 => ?_)
        clear hK K hi4 ho4 hk4 hb4 hS1 hS2
        try simp only [Act.put, List.setIfInBounds_toArray, List.set_cons_zero, List.set_cons_succ]
        refine wpAnyH_take (i := 7) (oi := ?oi9) (v := .tuple #[.agg #[.int .i64 4, .int .i64 X', .slice ar4 L'.length cr4], .bool true]) ?hi9 (by kernel_rfl) (by kernel_rfl) (by kernel_rfl) (fun _ _ _ h => h) ?hy9 hS3 ?rest9
        case hi9 => simp only [List.getElem?_toArray, List.getElem?_cons_succ, List.getElem?_cons_zero]; rfl
        case hy9 => exact Or.inl ⟨rfl, fun _ hSw => rfl⟩
        simp only [Act.put, List.setIfInBounds_toArray, List.set_cons_zero, List.set_cons_succ]
        refine wpAnyH_take (i := 8) (oi := ?oi10) (v := .agg #[.int .i64 4, .int .i64 X', .slice ar4 L'.length cr4]) ?hi10 (by kernel_rfl) (by kernel_rfl) (by kernel_rfl) (fun _ _ _ h => h) ?hy10 hS3 ?rest10
        case hi10 => simp only [List.getElem?_toArray, List.getElem?_cons_succ, List.getElem?_cons_zero]; rfl
        case hy10 => exact Or.inl ⟨rfl, fun _ hSw => by go_simp⟩
        simp only [Act.put, List.setIfInBounds_toArray, List.set_cons_zero, List.set_cons_succ]
        refine wpAnyH_take (i := 9) (oi := ?oi11) (v := .bool true) ?hi11 (by kernel_rfl) (by kernel_rfl) (by kernel_rfl) (fun _ _ _ h => h) ?hy11 hS3 ?rest11
        case hi11 => simp only [List.getElem?_toArray, List.getElem?_cons_succ, List.getElem?_cons_zero]; rfl
        case hy11 => exact Or.inl ⟨rfl, fun _ hSw => by go_simp⟩
        simp only [Act.put, List.setIfInBounds_toArray, List.set_cons_zero, List.set_cons_succ]
        obtain ⟨⟨z0, s0⟩, f0, s1, f1, s2, f2⟩ := R4.out.wr
        have hbn := RN.out.bs.bel
        refine wpAnyH_ready (rs := [10]) (by kernel_rfl) (by simp) ?_
        refine AllReadyH.cons (o := ?oiu12_10) ?hiu12_10 ?stepu12_10 AllReadyH.nil
        case hiu12_10 => simp only [List.getElem?_toArray, List.getElem?_cons_succ, List.getElem?_cons_zero]; rfl
        intro K hK
        go_simp
        refine hK.out _ _ hbn (fun hS4 => ?_)
        clear hK K s0 s1 s2 f0 f1 f2 hS3 hbn
        try simp only [Act.put, List.setIfInBounds_toArray, List.set_cons_zero, List.set_cons_succ]
        generalize World.setCell _ _ _ = w5 at *
        refine wpAnyH_done (by kernel_rfl) ?_ _
        refine NoPanic.normal ?_
        clear hS4 HDO HACT SD R4 S HGS
        obtain ⟨c0, c1, c2⟩ := RN.out.rb.c
        go_wp2
        exact ⟨⟨p + 1, v4, .slice ar4 L'.length cr4, X', L', by omega, by omega, by go_num, by omega, RN.out⟩, by simp [intOf]; omega⟩
      · obtain rfl : p = 15 := by omega
        have hji : (15 : Int) < (A.length : Int) := by omega
        rw [show ((15 : Nat) : Int) = 15 from rfl]
        clear HA
        obtain ⟨T, hT⟩ : ∃ T, (nums s).take 40 = T := ⟨_, rfl⟩
        have hTl : T.length ≤ 40 := by rw [← hT]; exact cut_le' s 40
        have hTb : ∀ c ∈ T, c < 256 := by rw [← hT]; exact cut_lt' s 40
        have HTB := hid hTb
        have HCU := hid (fun wx => cut_any s 40 wx hs (by omega))
        rw [hT] at HCU
        clear hT hTb
        have hap := str_append (Bv.pack 4 X L) T
        have hz1 : (str (Bv.pack 4 X L)).size = 24 + 24 * L.length := by rw [str_size, Bv.pack_len]
        have hz2 : (str T).size = T.length := str_size T
        have hl256 := S.out.good.len
        have HPK := hid (fun wx hx => pack_any (b := b) (v := v) (V := 4) (X := X) (L := L) (w := wx) hx (by omega) S.out.good.fits)
        generalize hSP : str (Bv.pack 4 X L) = SP at *
        generalize hST : str T = ST at *
        generalize hSQ : str (Bv.pack 4 X L ++ T) = SQ at *
        have HST := hid hST
        have HSQ := hid hSQ
        clear hSP hST hSQ
        go_wp2_with fail
        refine (HCU.out _).mono ?_
        rintro e w1 ⟨rfl, rfl⟩
        have S1 := S
        clear S HCU
        go_wp2_with fail
        refine (HPK.out _ S1.out.bs.is).mono ?_
        rintro e w2 ⟨rfl, hb2⟩
        have S2 := hid (S1.out.below hb2)
        clear hb2 S1 HPK
        go_wp2_with fail
        refine (wof_any SQ w2).mono ?_
        rintro e w3 ⟨rfl, hw3⟩
        have hb3 : Below w2.heap.size w2 w3 := by rw [hw3]; exact (Below.refl _ _).alloc (Nat.le_refl _) _
        have hin : InAt w3 w2.heap.size (Bv.pack 4 X L ++ T, 0) := by rw [hw3, ← HSQ.out]; exact heap_alloc_new _ _
        have S3 := hid (S2.out.below hb3)
        have HRD := hid (bread_any S2.out.good HTB.out hin)
        have hbi : w2.heap.size ≠ b := by have := S2.out.bs.is.lt; omega
        have hbv : some w2.heap.size ≠ r.ownBlock := fun e => by have := S2.out.rf.lt e; omega
        have hbz : w2.heap.size ≠ z8 := by have := S2.out.rb.lt; omega
        have hs2 := S2.out.bs.bel.size
        have hG := hid S2.out.good
        clear hw3 hb3 hin S2 hap
        generalize w2.heap.size = i at *
        go_wp2_with fail
        refine HRD.out.mono ?_
        rintro e w4 ⟨c, vc, rfl, hR⟩
        have R4 := hid hR
        have HB4 := hid (S3.out.bs.bel.trans (hR.kept.below hs2 S3.out.bs.bel.size))
        have O4 := hid (S3.out.rf.other hR.kept.q hbv)
        have B4 := hid (S3.out.rb.other hR.kept.q (fun e => hbz e.symm))
        clear hR S3 HRD
        have HIS := hid (is18_any c vc r 4 X L w4 R4.out.is O4.out hG.out)
        unfold rbV at HIS
        obtain ⟨c0, c1, c2⟩ := B4.out.c
        go_wp2_with fail
        refine HIS.out.mono ?_
        rintro e w5 ⟨rfl, hb5⟩
        have HB5 := hid (HB4.out.trans (hb5.mono HB4.out.size))
        have IN5 := R4.out.inn.below hb5
        have HRW := iraw_any i T 0 (T.length : Int) w5 IN5 HTB.out
        rw [show Wx.iraw T 0 (T.length : Int) = (([], 0), T) from by have := Wx.iraw_app T [] 0; rwa [List.append_nil] at this, HST.out] at HRW
        have HRW2 := hid HRW
        clear hb5 IN5 HRW HIS c0 c1 c2 B4 O4 R4 HB4
        go_wp2_with fail
        refine HRW2.out.mono ?_
        rintro e w6 ⟨rfl, hi6, hk6⟩
        have HEN := hid (iend_any i [] 0 w6 hi6)
        rw [if_pos rfl] at HEN
        have HB6 := hid (HB5.out.trans (Below.mono (hk6.below hs2 HB5.out.size) (Nat.le_refl _)))
        clear hi6 hk6 HRW2 HB5
        go_wp2_with fail
        refine HEN.out.mono ?_
        rintro e w7 ⟨rfl, rfl⟩
        go_wp2
        go_ret
        exact ⟨by simp, HB6.out⟩
    · obtain rfl : p = A.length := by omega
      clear HA
      obtain ⟨T, hT⟩ : ∃ T, (nums s).take 40 = T := ⟨_, rfl⟩
      have hTl : T.length ≤ 40 := by rw [← hT]; exact cut_le' s 40
      have hTb : ∀ c ∈ T, c < 256 := by rw [← hT]; exact cut_lt' s 40
      have HTB := hid hTb
      have HCU := hid (fun wx => cut_any s 40 wx hs (by omega))
      rw [hT] at HCU
      clear hT hTb
      have hap := str_append (Bv.pack 4 X L) T
      have hz1 : (str (Bv.pack 4 X L)).size = 24 + 24 * L.length := by rw [str_size, Bv.pack_len]
      have hz2 : (str T).size = T.length := str_size T
      have hl256 := S.out.good.len
      have HPK := hid (fun wx hx => pack_any (b := b) (v := v) (V := 4) (X := X) (L := L) (w := wx) hx (by omega) S.out.good.fits)
      generalize hSP : str (Bv.pack 4 X L) = SP at *
      generalize hST : str T = ST at *
      generalize hSQ : str (Bv.pack 4 X L ++ T) = SQ at *
      have HST := hid hST
      have HSQ := hid hSQ
      clear hSP hST hSQ
      go_wp2_with fail
      refine (HCU.out _).mono ?_
      rintro e w1 ⟨rfl, rfl⟩
      have S1 := S
      clear S HCU
      go_wp2_with fail
      refine (HPK.out _ S1.out.bs.is).mono ?_
      rintro e w2 ⟨rfl, hb2⟩
      have S2 := hid (S1.out.below hb2)
      clear hb2 S1 HPK
      go_wp2_with fail
      refine (wof_any SQ w2).mono ?_
      rintro e w3 ⟨rfl, hw3⟩
      have hb3 : Below w2.heap.size w2 w3 := by rw [hw3]; exact (Below.refl _ _).alloc (Nat.le_refl _) _
      have hin : InAt w3 w2.heap.size (Bv.pack 4 X L ++ T, 0) := by rw [hw3, ← HSQ.out]; exact heap_alloc_new _ _
      have S3 := hid (S2.out.below hb3)
      have HRD := hid (bread_any S2.out.good HTB.out hin)
      have hbi : w2.heap.size ≠ b := by have := S2.out.bs.is.lt; omega
      have hbv : some w2.heap.size ≠ r.ownBlock := fun e => by have := S2.out.rf.lt e; omega
      have hbz : w2.heap.size ≠ z8 := by have := S2.out.rb.lt; omega
      have hs2 := S2.out.bs.bel.size
      have hG := hid S2.out.good
      clear hw3 hb3 hin S2 hap
      generalize w2.heap.size = i at *
      go_wp2_with fail
      refine HRD.out.mono ?_
      rintro e w4 ⟨c, vc, rfl, hR⟩
      have R4 := hid hR
      have HB4 := hid (S3.out.bs.bel.trans (hR.kept.below hs2 S3.out.bs.bel.size))
      have O4 := hid (S3.out.rf.other hR.kept.q hbv)
      have B4 := hid (S3.out.rb.other hR.kept.q (fun e => hbz e.symm))
      clear hR S3 HRD
      have HIS := hid (is18_any c vc r 4 X L w4 R4.out.is O4.out hG.out)
      unfold rbV at HIS
      obtain ⟨c0, c1, c2⟩ := B4.out.c
      go_wp2_with fail
      refine HIS.out.mono ?_
      rintro e w5 ⟨rfl, hb5⟩
      have HB5 := hid (HB4.out.trans (hb5.mono HB4.out.size))
      have IN5 := R4.out.inn.below hb5
      have HRW := iraw_any i T 0 (T.length : Int) w5 IN5 HTB.out
      rw [show Wx.iraw T 0 (T.length : Int) = (([], 0), T) from by have := Wx.iraw_app T [] 0; rwa [List.append_nil] at this, HST.out] at HRW
      have HRW2 := hid HRW
      clear hb5 IN5 HRW HIS c0 c1 c2 B4 O4 R4 HB4
      go_wp2_with fail
      refine HRW2.out.mono ?_
      rintro e w6 ⟨rfl, hi6, hk6⟩
      have HEN := hid (iend_any i [] 0 w6 hi6)
      rw [if_pos rfl] at HEN
      have HB6 := hid (HB5.out.trans (Below.mono (hk6.below hs2 HB5.out.size) (Nat.le_refl _)))
      clear hi6 hk6 HRW2 HB5
      go_wp2_with fail
      refine HEN.out.mono ?_
      rintro e w7 ⟨rfl, rfl⟩
      go_wp2
      go_ret
      exact ⟨by simp, HB6.out⟩

set_option maxRecDepth 100000 in
theorem contract (H : Type) (enc : TypeId × Value → H) (W : World) (base : Nat) (args : Array Value) (ds gs : List (DataW H)) (before : List MemPlace)
    (hval : ∀ (j : Nat) t v, Try.f7.params[j]? = some t → args[j]? = some v → Value.okWide Try.prog W .any base t v)
    (hW : DataW.Whole enc Try.prog Try.f7.params.toList Rows.boxBehindSpec.vars false W args.toList ds gs before) (hL : laidMetH Try.prog Rows.boxBehindRow.laid W) :
    Calls Try.prog 7 args W fun e W' => ∃ v, e = .returned v ∧ Rows.boxBehindSpec.post enc Try.prog Try.f7 false true false false W args v W' := by
  have hW' := hW
  obtain ⟨p, q, hA0, hV, rfl, hfz, hnd⟩ := hW
  have hA : DataW.TrodAll enc Try.prog W 0 (fun _ => true) true Try.f7.params.toList args.toList ds p := hA0
  rw [Try.params7] at hA hval
  obtain ⟨v0, vs0, d0, ds0, p0, q0, hargs, rfl, rfl, h0, r0⟩ := trodAll_cons hA
  obtain ⟨v1, vs1, d1, ds1, p1, q1, rfl, rfl, rfl, h1, r1⟩ := trodAll_cons r0
  obtain ⟨rfl, rfl, rfl⟩ := trodAll_nil r1
  obtain rfl : args = #[v0, v1] := by cases args; simp_all
  obtain ⟨ao0, L0, cap0, rfl, hR0, hL0⟩ := open_acts18 (hval 0 22 v0 rfl rfl) h0
  obtain ⟨s1, rfl, rfl, rfl, hs1⟩ := Go.ChangeMaps.open_string Try.underlying9 (hval 1 9 v1 rfl rfl) h1
  refine (walk ao0 L0 cap0 s1 hs1 W hR0).mono fun e W' ⟨he, hb⟩ => ?_
  subst he
  exact ⟨_, rfl, law_post rfl rfl (by rw [Try.params7]; decide +kernel) hW' rfl hb⟩

theorem laid_met (os : Os) : laidMet Try.prog Rows.boxBehindRow.laid ((laidWorld os).forCall (fun _ _ => 0) ⟨#[], #[.slice none 0 0, .string ByteArray.empty], []⟩).memory :=
  laidMet_of_run' 8 (by kernel_rfl) (by kernel_rfl)
theorem reads (os : Os) {H : Type} (enc : TypeId × Value → H) : ∃ places, DataW.whole enc Try.prog ((laidWorld os).forCall (fun _ _ => 0) ⟨#[], #[.slice none 0 0, .string ByteArray.empty], []⟩).memory Try.f7.params.toList Rows.boxBehindSpec.vars false (#[.slice none 0 0, .string ByteArray.empty] : Array Value).toList 8
    = some ([.nil, .lit (.string [])], [], places) :=
  ⟨[], by kernel_rfl⟩

set_option maxRecDepth 100000 in
theorem lifted (os : Os) (started : os.Started) (H : Type) (enc : TypeId × Value → H) (F : Stop.Interp) :
    ReturnsInHanded {} Try.checked os 7 .any ((OpenSpec.ofChange Rows.boxBehindSpec).preRow enc Try.prog Try.f7 Rows.boxBehindRow.domain false Rows.boxBehindRow.laid) (((OpenSpec.ofChange Rows.boxBehindSpec).at F).post enc Try.prog Try.f7 false true false false) := by
  obtain ⟨places, hx⟩ := reads os enc
  refine returnsInHanded_of_row (C := Try.checked) (s := OpenSpec.ofChange Rows.boxBehindSpec) own started (by kernel_rfl) Try.func7
    (witness_row_at (enc := enc) (C := Try.checked) false (laidWorld os) #[.slice none 0 0, .string ByteArray.empty] rfl (by kernel_rfl) (by kernel_rfl) (by kernel_rfl)
      (OpenSpec.preRow_of_cond 8 hx (by kernel_rfl) (fun k hk => by cases hk) (by kernel_rfl) (laid_met os))) ?_
  intro W base args ds gs before hval hW _ _ _ hL _ _
  exact contract H enc W base args ds gs before hval hW hL

theorem said : Rows.BoxBehindSaid :=
  OpenClaim.holds_of_cond 7 Try.f7 rfl rfl rfl rfl rfl rfl rfl ⟨rfl, rfl, rfl, rfl, rfl⟩ rfl rfl rfl rfl rfl (by kernel_rfl) Try.func7 (by kernel_rfl)
    (of_decide_eq_true (by kernel_rfl)) (by unfold Func.isWrapper; first | (rw [if_pos (by decide +kernel)]; kernel_rfl) | (rw [if_neg (by decide +kernel)]; exact ⟨rfl, rfl⟩))
    (fun os started H enc _ F => by rw [OpenClaim.pre_eq_preRow]; exact lifted os started H enc F)


end BoxBehind
theorem boxBehind_said : Rows.BoxBehindSaid := BoxBehind.said
end Go.Proofs.Ytlfjhpmachblkaa
