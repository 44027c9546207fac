/-
  The reference of layer 2: what sealwaxref02.xored and Of return.
-/
import Derived.Test.YtnhebfafiikilaaDoorMacOf
import Derived.Test.YtnhebfafiikilaaDoorRefOf
namespace Go.Proofs.YtnhebfafiikilaaDoor
open Go.RowKit
open Go.Lib (hid)

theorem maskK_get (K : List Nat) (hK : K.length ≤ 64) (m j : Nat) (hj : j < 64) : (Sx.maskK K m).getD j 0 = (if j < K.length then K.getD j 0 else 0) ^^^ m := by
  unfold Sx.maskK
  rw [List.take_of_length_le hK]
  simp only [List.getD_eq_getElem?_getD, List.getElem?_map, List.getElem?_append]
  by_cases h : j < K.length
  · rw [if_pos h, if_pos h, List.getElem?_eq_getElem h]; simp
  · rw [if_neg h, if_neg h, List.getElem?_replicate, if_pos (by omega)]; simp
theorem take_getD_succ (l : List Nat) (k : Nat) (h : k < l.length) : l.take k ++ [l.getD k 0] = l.take (k + 1) := by
  rw [List.take_succ_eq_append_getElem h, List.getD_eq_getElem?_getD, List.getElem?_eq_getElem h]; rfl
theorem xor_lt256 (a b : Nat) (ha : a < 256) (hb : b < 256) : a ^^^ b < 256 := Nat.xor_lt_two_pow (n := 8) ha hb


theorem xor64' (a b : Nat) (ha : a < 256) (hb : b < 256) : bits .xor .i64 (a : Int) (b : Int) = ((a ^^^ b : Nat) : Int) :=
  xor64 a b (by unfold Sx.M; omega) (by unfold Sx.M; omega)

set_option maxHeartbeats 1000000 in
theorem xored_any (k : List Nat) (hk : ∀ x ∈ k, x < 256) (hl : k.length ≤ 1000000) (m : Nat) (hm : m < 256) (w : World) :
    Calls Tryd.prog 42 #[.string (str k), .int .i64 (m : Int)] w fun e w' => e = .returned (.string (str (Sx.maskK (Sx.shortK k) m))) ∧ Below w.heap.size w w' := by
  have hz := str_size k
  have hKL := shortK_le k
  have HKB := hid (shortK_lt k hk)
  by_cases h : 64 < k.length
  · have h1 : (64 : Int) < ((str k).size : Int) := by omega
    have hsk : Sx.shortK k = Sx.digest k := by unfold Sx.shortK; rw [if_pos h]
    have HO := hid (refof_any k hk (by omega) w)
    rw [← hsk] at HO
    clear hsk hz
    generalize str k = S at *
    generalize Sx.shortK k = K at *
    go_enter Tryd.func42, Tryd.ntmps42
    go_wp2_with fail
    refine HO.out.mono ?_
    rintro e w0 ⟨rfl, hb0⟩
    have HB0 := hid hb0
    clear hb0 HO h1 h
    have hKz : (str K).size = K.length := str_size K
    have hml := maskK_length K m
    obtain ⟨SK, hS⟩ : ∃ SK, SK = str K := ⟨_, rfl⟩
    rw [← hS] at hKz ⊢
    have HSS := hid hS
    have HKZ := hid hKz
    have hKz2 : SK.size ≤ 64 := by omega
    clear hS hKz
    go_upto_region 5 with (fail)
    have HB1 := hid (HB0.out.alloc HB0.out.size (.cells #[] 5))
    have HOW := hid (show Own (w0.alloc (.cells #[] 5)) w.heap.size (.slice (some ⟨w0.heap.size, 0, none⟩) 0 0) [] from
      ⟨rfl, Or.inr ⟨w0.heap.size, 0, _, rfl, HB0.out.size, heap_alloc_new _ _, Nat.zero_le _, by unfold maxLen; omega, rfl, rfl⟩⟩)
    generalize w0.alloc _ = w1 at *
    generalize w0.heap.size = b0 at *
    clear HB0
    go_loopw [5, 6] (fun v i wr => ∃ j : Nat, j ≤ 64 ∧ i = .int .i64 j ∧ Own wr w.heap.size v ((Sx.maskK K m).take j) ∧ Below w.heap.size w wr)
      (fun _ i _ => 64 - (intOf i).toNat)
    case atStart => exact ⟨0, by omega, rfl, HOW.out, HB1.out⟩
    case round =>
      obtain ⟨j, hj, rfl, hown, hbel⟩ := hrel
      have hsz := hbel.size
      have HOWN := hid hown
      have HBEL := hid hbel
      clear hown hbel
      by_cases hlt : j < 64
      · have hmg := maskK_get K hKL m j hlt
        have HTS := hid (take_getD_succ (Sx.maskK K m) j (by omega))
        have HTL := hid (show ((Sx.maskK K m).take j).length = j from by simp; omega)
        by_cases hjk : j < K.length
        · have hx := getD_lt (by omega) HKB.out j
          rw [if_pos hjk] at hmg
          have hget : ∀ h : j < SK.size, (SK[j].toNat : Int) = ((K.getD j 0 : Nat) : Int) := by
            intro h
            have hS := HSS.out
            subst hS
            rw [str_get K HKB.out j h]
          have hjs' : j < SK.size := by rw [HKZ.out]; exact hjk
          have hjs : (j : Int) < (SK.size : Int) := by omega
          have hgt := hget hjs'
          clear hget
          generalize K.getD j 0 = x at *
          have hxo := xor64' x m hx hm
          have hxl := xor_lt256 x m hx hm
          rw [← hmg] at hxo hxl
          clear hmg
          generalize (Sx.maskK K m).getD j 0 = z at *
          have hxm : (z : Int) % 256 = (z : Int) := by omega
          go_wp2_with (refine wpList_app rfl _ _ rfl w.heap.size _ ((Sx.maskK K m).take j) rfl (HOWN.out.below ((Below.refl _ _).alloc (Nat.le_refl _) _)) _ 1 1 [z] rfl rfl (cells_one wr z _) (by rw [HTL.out]; omega) (by simp; omega) ?_; intro v' w' hown' hbel')
          go_roundw
          case rel =>
            rw [HTS.out] at hown'
            first
              | exact ⟨j + 1, by omega, by go_num, hown', (HBEL.out.alloc hsz _).trans hbel'⟩
              | ((repeat apply Exists.intro); refine ⟨?_, rfl⟩; exact ⟨j + 1, by omega, by go_num, hown', (HBEL.out.alloc hsz _).trans hbel'⟩)
          case measure => simp [intOf]; omega
        · rw [if_neg hjk] at hmg
          have hjs : ¬ (j : Int) < (SK.size : Int) := by rw [HKZ.out]; omega
          have hxo := xor64' 0 m (by omega) hm
          have hxl := xor_lt256 0 m (by omega) hm
          rw [← hmg] at hxo hxl
          clear hmg
          rw [Int.natCast_zero] at hxo
          generalize (Sx.maskK K m).getD j 0 = z at *
          have hxm : (z : Int) % 256 = (z : Int) := by omega
          go_wp2_with (refine wpList_app rfl _ _ rfl w.heap.size _ ((Sx.maskK K m).take j) rfl (HOWN.out.below ((Below.refl _ _).alloc (Nat.le_refl _) _)) _ 1 1 [z] rfl rfl (cells_one wr z _) (by rw [HTL.out]; omega) (by simp; omega) ?_; intro v' w' hown' hbel')
          go_roundw
          case rel =>
            rw [HTS.out] at hown'
            first
              | exact ⟨j + 1, by omega, by go_num, hown', (HBEL.out.alloc hsz _).trans hbel'⟩
              | ((repeat apply Exists.intro); refine ⟨?_, rfl⟩; exact ⟨j + 1, by omega, by go_num, hown', (HBEL.out.alloc hsz _).trans hbel'⟩)
          case measure => simp [intOf]; omega
      · obtain rfl : j = 64 := by omega
        have hc := run_ownstr HOWN.out
        rw [List.take_of_length_le (by omega)] at hc
        clear HOWN
        go_wp2
        go_ret
        exact ⟨rfl, HBEL.out⟩
  · have h1 : ¬ (64 : Int) < ((str k).size : Int) := by omega
    have hsk : Sx.shortK k = k := by unfold Sx.shortK; rw [if_neg h]
    rw [hsk] at hKL HKB ⊢
    clear hsk hz
    obtain ⟨K, hKe⟩ : ∃ K, K = k := ⟨_, rfl⟩
    subst hKe
    obtain ⟨w0, hw0⟩ : ∃ w0, w0 = w := ⟨_, rfl⟩
    have HB0 := hid (show Below w.heap.size w w0 from by rw [hw0]; exact Below.refl _ _)
    go_enter Tryd.func42, Tryd.ntmps42
    go_upto_region 3 with (fail)
    rw [← hw0]
    have HW0 := hid hw0
    clear hw0 h1 h
    have hKz : (str K).size = K.length := str_size K
    have hml := maskK_length K m
    obtain ⟨SK, hS⟩ : ∃ SK, SK = str K := ⟨_, rfl⟩
    rw [← hS] at hKz ⊢
    have HSS := hid hS
    have HKZ := hid hKz
    have hKz2 : SK.size ≤ 64 := by omega
    clear hS hKz
    go_upto_region 5 with (fail)
    have HB1 := hid (HB0.out.alloc HB0.out.size (.cells #[] 5))
    have HOW := hid (show Own (w0.alloc (.cells #[] 5)) w.heap.size (.slice (some ⟨w0.heap.size, 0, none⟩) 0 0) [] from
      ⟨rfl, Or.inr ⟨w0.heap.size, 0, _, rfl, HB0.out.size, heap_alloc_new _ _, Nat.zero_le _, by unfold maxLen; omega, rfl, rfl⟩⟩)
    generalize w0.alloc _ = w1 at *
    generalize w0.heap.size = b0 at *
    clear HB0
    go_loopw [5, 6] (fun v i wr => ∃ j : Nat, j ≤ 64 ∧ i = .int .i64 j ∧ Own wr w.heap.size v ((Sx.maskK K m).take j) ∧ Below w.heap.size w wr)
      (fun _ i _ => 64 - (intOf i).toNat)
    case atStart => exact ⟨0, by omega, rfl, HOW.out, HB1.out⟩
    case round =>
      obtain ⟨j, hj, rfl, hown, hbel⟩ := hrel
      have hsz := hbel.size
      have HOWN := hid hown
      have HBEL := hid hbel
      clear hown hbel
      by_cases hlt : j < 64
      · have hmg := maskK_get K hKL m j hlt
        have HTS := hid (take_getD_succ (Sx.maskK K m) j (by omega))
        have HTL := hid (show ((Sx.maskK K m).take j).length = j from by simp; omega)
        by_cases hjk : j < K.length
        · have hx := getD_lt (by omega) HKB.out j
          rw [if_pos hjk] at hmg
          have hget : ∀ h : j < SK.size, (SK[j].toNat : Int) = ((K.getD j 0 : Nat) : Int) := by
            intro h
            have hS := HSS.out
            subst hS
            rw [str_get K HKB.out j h]
          have hjs' : j < SK.size := by rw [HKZ.out]; exact hjk
          have hjs : (j : Int) < (SK.size : Int) := by omega
          have hgt := hget hjs'
          clear hget
          generalize K.getD j 0 = x at *
          have hxo := xor64' x m hx hm
          have hxl := xor_lt256 x m hx hm
          rw [← hmg] at hxo hxl
          clear hmg
          generalize (Sx.maskK K m).getD j 0 = z at *
          have hxm : (z : Int) % 256 = (z : Int) := by omega
          go_wp2_with (refine wpList_app rfl _ _ rfl w.heap.size _ ((Sx.maskK K m).take j) rfl (HOWN.out.below ((Below.refl _ _).alloc (Nat.le_refl _) _)) _ 1 1 [z] rfl rfl (cells_one wr z _) (by rw [HTL.out]; omega) (by simp; omega) ?_; intro v' w' hown' hbel')
          go_roundw
          case rel =>
            rw [HTS.out] at hown'
            first
              | exact ⟨j + 1, by omega, by go_num, hown', (HBEL.out.alloc hsz _).trans hbel'⟩
              | ((repeat apply Exists.intro); refine ⟨?_, rfl⟩; exact ⟨j + 1, by omega, by go_num, hown', (HBEL.out.alloc hsz _).trans hbel'⟩)
          case measure => simp [intOf]; omega
        · rw [if_neg hjk] at hmg
          have hjs : ¬ (j : Int) < (SK.size : Int) := by rw [HKZ.out]; omega
          have hxo := xor64' 0 m (by omega) hm
          have hxl := xor_lt256 0 m (by omega) hm
          rw [← hmg] at hxo hxl
          clear hmg
          rw [Int.natCast_zero] at hxo
          generalize (Sx.maskK K m).getD j 0 = z at *
          have hxm : (z : Int) % 256 = (z : Int) := by omega
          go_wp2_with (refine wpList_app rfl _ _ rfl w.heap.size _ ((Sx.maskK K m).take j) rfl (HOWN.out.below ((Below.refl _ _).alloc (Nat.le_refl _) _)) _ 1 1 [z] rfl rfl (cells_one wr z _) (by rw [HTL.out]; omega) (by simp; omega) ?_; intro v' w' hown' hbel')
          go_roundw
          case rel =>
            rw [HTS.out] at hown'
            first
              | exact ⟨j + 1, by omega, by go_num, hown', (HBEL.out.alloc hsz _).trans hbel'⟩
              | ((repeat apply Exists.intro); refine ⟨?_, rfl⟩; exact ⟨j + 1, by omega, by go_num, hown', (HBEL.out.alloc hsz _).trans hbel'⟩)
          case measure => simp [intOf]; omega
      · obtain rfl : j = 64 := by omega
        have hc := run_ownstr HOWN.out
        rw [List.take_of_length_le (by omega)] at hc
        clear HOWN
        go_wp2
        go_ret
        exact ⟨rfl, HBEL.out⟩

theorem hmac_mid (k t : List Nat) (hk : ∀ x ∈ k, x < 256) (ht : ∀ x ∈ t, x < 256) : ∀ x ∈ Sx.maskK (Sx.shortK k) 54 ++ t, x < 256 := by
  intro x hx
  rcases List.mem_append.1 hx with h | h
  · exact maskK_lt _ _ (shortK_lt k hk) (by decide) x h
  · exact ht x h
theorem hmac_out (k D : List Nat) (hk : ∀ x ∈ k, x < 256) (hD : ∀ x ∈ D, x < 256) : ∀ x ∈ Sx.maskK (Sx.shortK k) 92 ++ D, x < 256 := by
  intro x hx
  rcases List.mem_append.1 hx with h | h
  · exact maskK_lt _ _ (shortK_lt k hk) (by decide) x h
  · exact hD x h
theorem xor54 (k : List Nat) (hk : ∀ x ∈ k, x < 256) (hl : k.length ≤ 1000000) (w : World) :
    Calls Tryd.prog 42 #[.string (str k), .int .i64 54] w fun e w' => e = .returned (.string (str (Sx.maskK (Sx.shortK k) 54))) ∧ Below w.heap.size w w' := xored_any k hk hl 54 (by decide) w
theorem xor92 (k : List Nat) (hk : ∀ x ∈ k, x < 256) (hl : k.length ≤ 1000000) (w : World) :
    Calls Tryd.prog 42 #[.string (str k), .int .i64 92] w fun e w' => e = .returned (.string (str (Sx.maskK (Sx.shortK k) 92))) ∧ Below w.heap.size w w' := xored_any k hk hl 92 (by decide) w

set_option maxHeartbeats 1000000 in
theorem refmac_any (k t : List Nat) (hk : ∀ x ∈ k, x < 256) (hkl : k.length ≤ 1000000) (ht : ∀ x ∈ t, x < 256) (htl : t.length ≤ 100000000) (w : World) :
    Calls Tryd.prog 27 #[.string (str k), .string (str t)] w fun e w' => e = .returned (.string (str (Sx.hmac k t))) ∧ Below w.heap.size w w' := by
  have HX1 := hid (fun wx => xor54 k hk hkl wx)
  have HX2 := hid (fun wx => xor92 k hk hkl wx)
  have a1 := maskK_length (Sx.shortK k) 54
  have a2 := maskK_length (Sx.shortK k) 92
  have i1 := hmac_mid k t hk ht
  have HH : Hid (Sx.digest (Sx.maskK (Sx.shortK k) 92 ++ Sx.digest (Sx.maskK (Sx.shortK k) 54 ++ t)) = Sx.hmac k t) := rfl
  have i2 := hmac_out k (Sx.digest (Sx.maskK (Sx.shortK k) 54 ++ t)) hk (digest_lt _)
  have z4 : (str t).size = t.length := str_size t
  generalize Sx.maskK (Sx.shortK k) 54 = M1 at *
  generalize Sx.maskK (Sx.shortK k) 92 = M2 at *
  have z1 : (str M1).size = 64 := by rw [str_size, a1]
  have z2 : (str M2).size = 64 := by rw [str_size, a2]
  have hd := digest_length (M1 ++ t)
  have HO1 := hid (fun wx => refof_any (M1 ++ t) i1 (by rw [List.length_append]; omega) wx)
  have z3 : (str (Sx.digest (M1 ++ t))).size = 32 := by rw [str_size, hd]
  have e1 : str M1 ++ str t = str (M1 ++ t) := str_append _ _
  generalize Sx.digest (M1 ++ t) = D at *
  have HO2 := hid (fun wx => refof_any (M2 ++ D) i2 (by rw [List.length_append]; omega) wx)
  rw [HH.out] at HO2
  have e2 : str M2 ++ str D = str (M2 ++ D) := str_append _ _
  clear i1 i2 HH hd a1 a2
  generalize Sx.hmac k t = R at *
  generalize str (M1 ++ t) = S1 at *
  generalize str (M2 ++ D) = S2 at *
  generalize str M1 = T1 at *
  generalize str M2 = T2 at *
  generalize str D = TD at *
  generalize str t = T at *
  generalize str k = K at *
  go_enter Tryd.func27, Tryd.ntmps27
  go_wp2_with fail
  refine (HX2.out _).mono ?_
  rintro e w1 ⟨rfl, hb1⟩
  go_wp2_with fail
  refine (HX1.out _).mono ?_
  rintro e w2 ⟨rfl, hb2⟩
  go_wp2_with fail
  refine (HO1.out _).mono ?_
  rintro e w3 ⟨rfl, hb3⟩
  go_wp2_with fail
  refine (HO2.out _).mono ?_
  rintro e w4 ⟨rfl, hb4⟩
  go_wp2_with fail
  go_ret
  exact ⟨rfl, ((hb1.next (Nat.le_refl _) hb2).next (Nat.le_refl _) hb3).next (Nat.le_refl _) hb4⟩
end Go.Proofs.YtnhebfafiikilaaDoor
