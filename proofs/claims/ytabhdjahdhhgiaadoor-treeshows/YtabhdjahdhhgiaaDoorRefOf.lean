/-
  The reference of layer 1: what sealwaxref01.Of returns: the sum of the plain mathematics.
-/
import Derived.Test.YtabhdjahdhhgiaaDoorRefKit
namespace Go.Proofs.YtabhdjahdhhgiaaDoor
open Go.RowKit
open Go.Lib (hid)

set_option maxHeartbeats 40000000 in
set_option maxRecDepth 100000 in
theorem refof_any (t : List Nat) (ht : ∀ x ∈ t, x < 256) (hl : t.length ≤ 1000000000) (w : World) :
    Calls Tryd.prog 32 #[.string (str t)] w fun e w' => e = .returned (.string (str (Sx.digest t))) ∧ Below w.heap.size w w' := by
  have hz := str_size t
  go_enter Tryd.func32, Tryd.ntmps32
  obtain ⟨S, hS⟩ : ∃ S, S = str t := ⟨_, rfl⟩
  rw [← hS] at hz ⊢
  have HS := hid hS
  clear hS
  go_upto_region 3 with (fail)
  have hzl : Sx.zeros t.length < 64 := by unfold Sx.zeros; omega
  go_loopw [4] (fun s wr => w = wr ∧ ∃ j : Nat, j ≤ Sx.zeros t.length ∧ s = .string (str (t ++ 128 :: List.replicate j 0)))
    (fun s _ => 1000000100 - (match s with | .string s => s.size | _ => 0))
  case atStart => exact ⟨by trivial, 0, by omega, by rw [HS.out, show t ++ 128 :: List.replicate 0 0 = t ++ [128] from rfl, ← str_append t [128]]; rfl⟩
  case round =>
    obtain ⟨hw, j, hj, rfl⟩ := hrel
    subst hw
    have hsz : (str (t ++ 128 :: List.replicate j 0)).size = t.length + 1 + j := by rw [str_size]; simp; omega
    have hhit := Sx.zeros_hit t.length j hj
    have HNX := hid (show str (t ++ 128 :: List.replicate j 0) ++ (⟨#[0]⟩ : ByteArray) = str (t ++ 128 :: List.replicate (j + 1) 0) from by
      rw [List.replicate_succ', show t ++ 128 :: (List.replicate j 0 ++ [0]) = (t ++ 128 :: List.replicate j 0) ++ [0] from by simp, ← str_append (t ++ 128 :: List.replicate j 0) [0]]; rfl)
    by_cases hlt : j = Sx.zeros t.length
    · have h56 : ((t.length + 1 + j : Nat) : Int) % 64 = 56 := by have := hhit.2 hlt; omega
      clear hhit HNX
      have HP : Hid (str (t ++ 128 :: List.replicate j 0) = str (t ++ 128 :: List.replicate (Sx.zeros t.length) 0)) := by rw [hlt]; exact rfl
      generalize str (t ++ 128 :: List.replicate j 0) = S1 at *
      have hs1 : (S1.size : Int) % 64 = 56 := by rw [hsz]; exact h56
      go_upto_region 7 with (fail)
      clear hs1 h56
      go_loopw [3, 5, 6] (fun n s i wr => ∃ k : Nat, k ≤ 8 ∧ n = .int .i64 (8 * t.length / 2 ^ (8 * k) : Nat) ∧ s = .string (str (Sx.be (8 * t.length) k)) ∧ i = .int .i64 k ∧ Below w.heap.size w wr)
        (fun _ _ i _ => 8 - (intOf i).toNat)
      case atStart => exact ⟨0, by omega, by simp, rfl, rfl, Below.refl _ _⟩
      case round =>
        obtain ⟨k, hk, rfl, rfl, rfl, hbel⟩ := hrel
        by_cases hlt : k < 8
        · as_aux_lemma =>
            have hq : 8 * t.length / 2 ^ (8 * (k + 1)) = 8 * t.length / 2 ^ (8 * k) / 256 := by
              rw [Nat.div_div_eq_div_mul, show (256 : Nat) = 2 ^ 8 from rfl, ← Nat.pow_add, show 8 * k + 8 = 8 * (k + 1) from by omega]
            have HB := hid (show str [8 * t.length / 2 ^ (8 * k) % 256] ++ str (Sx.be (8 * t.length) k) = str (Sx.be (8 * t.length) (k + 1)) from by rw [Sx.be_cons, str_append]; rfl)
            have hle : 8 * t.length / 2 ^ (8 * k) ≤ 8 * t.length := Nat.div_le_self _ _
            have HQ := hid hq
            have HBL := hid hbel
            clear hq hbel
            generalize 8 * t.length / 2 ^ (8 * k) = q at *
            have hs5 : (str (Sx.be (8 * t.length) k)).size ≤ 8 := by rw [str_size, Sx.be_length]; omega
            generalize str (Sx.be (8 * t.length) k) = S5 at *
            have hc := one_str wr (q % 256)
            have hs6 : (str [q % 256]).size = 1 := rfl
            have hv : (q : Int) % 256 = ((q % 256 : Nat) : Int) := by omega
            have hv2 : ((q % 256 : Nat) : Int) < 256 := by omega
            generalize q % 256 = r at *
            generalize str [r] = S6 at *
            go_wp2_with fail
            go_roundw
            case rel => exact ⟨k + 1, by omega, by rw [HQ.out]; simp, by rw [HB.out], by go_num, HBL.out.alloc HBL.out.size _⟩
            case measure => simp [intOf]; omega
        · obtain rfl : k = 8 := by omega
          obtain ⟨T, hT⟩ : ∃ T, T = t ++ Sx.ending t.length := ⟨_, rfl⟩
          have hcat : S1 ++ str (Sx.be (8 * t.length) 8) = str T := by rw [HP.out, str_append, Sx.ending_eq, hT]
          have hTl : T.length % 64 = 0 ∧ T.length ≤ 1000000200 := by
            rw [hT]; simp [Sx.ending, Sx.be_length]; unfold Sx.zeros; omega
          have hTb : ∀ x ∈ T, x < 256 := by rw [hT]; intro x hx; rcases List.mem_append.1 hx with h | h; exact ht x h; exact ending_lt _ x h
          have HDG := hid (show Sx.digest t = Sx.out (Sx.runB T (T.length / 64)) from by rw [hT]; rfl)
          have hs5 : (str (Sx.be (8 * t.length) 8)).size = 8 := by rw [str_size, Sx.be_length]
          have HTB := hid hTb
          have hs1 : S1.size ≤ 1000000200 := by omega
          clear hT hTb HS HP hz
          generalize str (Sx.be (8 * t.length) 8) = S5 at *
          have HBL := hid hbel
          clear hbel hsz
          rw [show ((8 : Nat) : Int) = 8 from rfl]
          go_upto_region 12 with (fail)
          clear hcat hs1 hs5 hlt hk
          have hST : (str T).size = T.length := str_size T
          go_upto_region 15 with (go_at_call 39; refine (consts_any _).mono ?_; rintro e w' ⟨rfl, rfl⟩)
          have rH : Row ((wr.alloc (.cells (ints .i64 Sx.H0) 3)).alloc (.cells (ints .i64 Sx.K) 3)) wr.heap.size .i64 3 Sx.H0 := heap_alloc2_old _ _ _
          have rK : Row ((wr.alloc (.cells (ints .i64 Sx.H0) 3)).alloc (.cells (ints .i64 Sx.K) 3)) (wr.heap.size + 1) .i64 3 Sx.K := heap_alloc2_new _ _ _
          have hb2 : Below w.heap.size w ((wr.alloc (.cells (ints .i64 Sx.H0) 3)).alloc (.cells (ints .i64 Sx.K) 3)) := (HBL.out.alloc HBL.out.size _).alloc (by have := HBL.out.size; simp; omega) _
          have e0 : (.cells #[.int .i64 1779033703, .int .i64 3144134277, .int .i64 1013904242, .int .i64 2773480762, .int .i64 1359893119, .int .i64 2600822924, .int .i64 528734635, .int .i64 1541459225] 3 : Obj) = .cells (ints .i64 Sx.H0) 3 := rfl
          have hHK : wr.heap.size < wr.heap.size + 1 := by omega
          have hHw : w.heap.size ≤ wr.heap.size := HBL.out.size
          try rw [e0]
          generalize (wr.alloc (.cells (ints .i64 Sx.H0) 3)).alloc _ = w2 at *
          generalize wr.heap.size + 1 = bK at *
          generalize wr.heap.size = bH at *
          have HTL := hid hTl
          obtain ⟨m, hm⟩ : ∃ m, T.length = 64 * m := ⟨T.length / 64, by omega⟩
          have HM := hid hm
          have hml : m ≤ 100000000 := by omega
          rw [hm] at hST
          rw [show T.length / 64 = m from by omega] at HDG
          clear hTl e0 hm
          obtain ⟨ST, heST⟩ : ∃ ST, ST = str T := ⟨_, rfl⟩
          rw [← heST] at hST ⊢
          have HST := hid heST
          have HRH := hid rH
          have HRK := hid rK
          have HB2 := hid hb2
          clear heST rH rK hb2 HBL
          go_loopw [9] (fun i wq => ∃ n : Nat, n ≤ m ∧ i = .int .i64 (64 * (n : Int)) ∧ Row wq bH .i64 3 (Sx.runB T n) ∧ Row wq bK .i64 3 Sx.K ∧ Below w.heap.size w wq)
            (fun i _ => 64 * m - (intOf i).toNat)
          case atStart => exact ⟨0, by omega, rfl, HRH.out, HRK.out, HB2.out⟩
          case round =>
            clear HRH HRK HB2
            obtain ⟨n, hn, rfl, rH, rK, hbel⟩ := hrel
            have hlK := rK.lt
            have HRH := hid rH
            have HRK := hid rK
            have HBL := hid hbel
            clear rH rK hbel
            by_cases hlt : n < m
            · have hlt' : 64 * (n : Int) < (ST.size : Int) := by omega
              go_upto_region 19 with (fail)
              have HB3 := hid (HBL.out.alloc HBL.out.size (.cells #[] 3))
              have HRH3 := hid (HRH.out.alloc (.cells #[] 3))
              have HRK3 := hid (HRK.out.alloc (.cells #[] 3))
              have HO3 := hid (show OwnI (wr.alloc (.cells #[] 3)) wr.heap.size (.slice (some ⟨wr.heap.size, 0, none⟩) 0 0) [] from
                ⟨rfl, Or.inr ⟨wr.heap.size, 0, _, rfl, Nat.le_refl _, heap_alloc_new _ _, Nat.zero_le _, by unfold maxLen; omega, rfl, rfl⟩⟩)
              have hb3 : w.heap.size ≤ wr.heap.size := HBL.out.size
              have hw3 : wr.heap.size ≤ (wr.alloc (.cells #[] 3)).heap.size := by simp
              obtain ⟨B, hB⟩ : ∃ B, B = (T.drop (64 * n)).take 64 := ⟨_, rfl⟩
              have HBK := hid hB
              have HBK2 := hid hB
              clear HBL hlt'
              have HRHo := HRH
              clear HRH HRK hB
              generalize wr.alloc _ = w3 at *
              generalize wr.heap.size = b3 at *
              go_loopw [10, 11] (fun v i wq => ∃ k : Nat, k ≤ 16 ∧ i = .int .i64 k ∧ OwnI wq b3 v (Sx.words B k) ∧ Below b3 w3 wq)
                (fun _ i _ => 16 - (intOf i).toNat)
              case atStart => exact ⟨0, by omega, rfl, HO3.out, Below.refl _ _⟩
              case round =>
                obtain ⟨k, hk, rfl, hown, hbel⟩ := hrel
                have HOW := hid hown
                have HBL := hid hbel
                clear hown hbel
                by_cases hlt4 : k < 16
                · as_aux_lemma =>
                    have g0 : 0 ≤ 64 * (n : Int) + 4 * (k : Int) := by omega
                    have g1 : 64 * (n : Int) + 4 * (k : Int) + 4 ≤ (ST.size : Int) := by omega
                    have hex : ST.extract (64 * n + 4 * k) (64 * n + 4 * k + 4) = str ((T.drop (64 * n + 4 * k)).take 4) := by rw [HST.out]; exact extract_mid T HTB.out _ _
                    have hxb : ∀ x ∈ (T.drop (64 * n + 4 * k)).take 4, x < 256 := fun x hx => HTB.out x (List.mem_of_mem_drop (List.mem_of_mem_take hx))
                    have hxl : ((T.drop (64 * n + 4 * k)).take 4).length = 4 := by have := HM.out; simp; omega
                    have i0 := fun h => str_get _ hxb 0 h
                    have i1 := fun h => str_get _ hxb 1 h
                    have i2 := fun h => str_get _ hxb 2 h
                    have i3 := fun h => str_get _ hxb 3 h
                    have hg : ∀ j, ((T.drop (64 * n + 4 * k)).take 4).getD j 0 < 256 := getD_lt (by omega) hxb
                    have hwd : Sx.word B k = ((((T.drop (64 * n + 4 * k)).take 4).getD 0 0 * 256 + ((T.drop (64 * n + 4 * k)).take 4).getD 1 0) * 256 + ((T.drop (64 * n + 4 * k)).take 4).getD 2 0) * 256 + ((T.drop (64 * n + 4 * k)).take 4).getD 3 0 := by
                      rw [block_get T n k 0 hlt4 (by omega), block_get T n k 1 hlt4 (by omega), block_get T n k 2 hlt4 (by omega), block_get T n k 3 hlt4 (by omega), ← HBK.out]; rfl
                    generalize (T.drop (64 * n + 4 * k)).take 4 = L4 at *
                    have q0 := hg 0
                    have q1 := hg 1
                    have q2 := hg 2
                    have q3 := hg 3
                    have hs12 : (str L4).size = 4 := by rw [str_size, hxl]
                    clear hg hxb hxl
                    generalize L4.getD 0 0 = x0 at *
                    generalize L4.getD 1 0 = x1 at *
                    generalize L4.getD 2 0 = x2 at *
                    generalize L4.getD 3 0 = x3 at *
                    generalize str L4 = S12 at *
                    have HTS := hid (show Sx.words B k ++ [Sx.word B k] = Sx.words B (k + 1) from (Sx.words_succ B k).symm)
                    have HTL4 := hid (Sx.words_length B k)
                    have hsz := HBL.out.size
                    have hz3 : b3 ≤ wr.heap.size := by omega
                    have HWD := hid hwd
                    clear hwd
                    go_upto_region 22 with (fail)
                    rw [hex]
                    clear hex g0 g1
                    refine wp_region_noPanic ?_
                    refine wp_region_any (by kernel_rfl) ?_
                    change wpAny _ _ _ _ 22 _ _ wr.drew
                    refine wpAny_take (i := 0) (oi := ?oi1) (v := u10) ?hi1 (by kernel_rfl) (by kernel_rfl) (by kernel_rfl) (fun _ _ _ h => h) ?hy1 ?rest1
                    case hi1 => simp only [List.getElem?_toArray, List.getElem?_cons_zero]; rfl
                    case hy1 => exact Or.inl ⟨rfl, fun _ => rfl⟩
                    simp only [Act.put, List.setIfInBounds_toArray, List.set_cons_zero, List.set_cons_succ]
                    refine wpAny_take (i := 1) (oi := ?oi2) (v := .string S12) ?hi2 (by kernel_rfl) (by kernel_rfl) (by kernel_rfl) (fun _ _ _ h => h) ?hy2 ?rest2
                    case hi2 => simp only [List.getElem?_toArray, List.getElem?_cons_succ, List.getElem?_cons_zero]; rfl
                    case hy2 => exact Or.inl ⟨rfl, fun _ => rfl⟩
                    simp only [Act.put, List.setIfInBounds_toArray, List.set_cons_zero, List.set_cons_succ]
                    refine wpAny_take (i := 2) (oi := ?oi3) (v := .int .u8 (x0 : Int)) ?hi3 (by kernel_rfl) (by kernel_rfl) (by kernel_rfl) (fun _ _ _ h => h) ?hy3 ?rest3
                    case hi3 => simp only [List.getElem?_toArray, List.getElem?_cons_succ, List.getElem?_cons_zero]; rfl
                    case hy3 => exact Or.inl ⟨rfl, fun _ => by go_simp⟩
                    simp only [Act.put, List.setIfInBounds_toArray, List.set_cons_zero, List.set_cons_succ]
                    refine wpAny_take (i := 3) (oi := ?oi4) (v := .int .i64 (x0 : Int)) ?hi4 (by kernel_rfl) (by kernel_rfl) (by kernel_rfl) (fun _ _ _ h => h) ?hy4 ?rest4
                    case hi4 => simp only [List.getElem?_toArray, List.getElem?_cons_succ, List.getElem?_cons_zero]; rfl
                    case hy4 => exact Or.inl ⟨rfl, fun _ => by go_simp; exact wraps_i64 _ (by omega) (by omega)⟩
                    simp only [Act.put, List.setIfInBounds_toArray, List.set_cons_zero, List.set_cons_succ]
                    refine wpAny_take (i := 4) (oi := ?oi5) (v := .int .i64 ((x0 : Int) * 256)) ?hi5 (by kernel_rfl) (by kernel_rfl) (by kernel_rfl) (fun _ _ _ h => h) ?hy5 ?rest5
                    case hi5 => simp only [List.getElem?_toArray, List.getElem?_cons_succ, List.getElem?_cons_zero]; rfl
                    case hy5 => exact Or.inl ⟨rfl, fun _ => by go_simp; exact wraps_i64 _ (by omega) (by omega)⟩
                    simp only [Act.put, List.setIfInBounds_toArray, List.set_cons_zero, List.set_cons_succ]
                    refine wpAny_take (i := 5) (oi := ?oi6) (v := .string S12) ?hi6 (by kernel_rfl) (by kernel_rfl) (by kernel_rfl) (fun _ _ _ h => h) ?hy6 ?rest6
                    case hi6 => simp only [List.getElem?_toArray, List.getElem?_cons_succ, List.getElem?_cons_zero]; rfl
                    case hy6 => exact Or.inl ⟨rfl, fun _ => rfl⟩
                    simp only [Act.put, List.setIfInBounds_toArray, List.set_cons_zero, List.set_cons_succ]
                    refine wpAny_take (i := 6) (oi := ?oi7) (v := .int .u8 (x1 : Int)) ?hi7 (by kernel_rfl) (by kernel_rfl) (by kernel_rfl) (fun _ _ _ h => h) ?hy7 ?rest7
                    case hi7 => simp only [List.getElem?_toArray, List.getElem?_cons_succ, List.getElem?_cons_zero]; rfl
                    case hy7 => exact Or.inl ⟨rfl, fun _ => by go_simp⟩
                    simp only [Act.put, List.setIfInBounds_toArray, List.set_cons_zero, List.set_cons_succ]
                    refine wpAny_take (i := 7) (oi := ?oi8) (v := .int .i64 (x1 : Int)) ?hi8 (by kernel_rfl) (by kernel_rfl) (by kernel_rfl) (fun _ _ _ h => h) ?hy8 ?rest8
                    case hi8 => simp only [List.getElem?_toArray, List.getElem?_cons_succ, List.getElem?_cons_zero]; rfl
                    case hy8 => exact Or.inl ⟨rfl, fun _ => by go_simp; exact wraps_i64 _ (by omega) (by omega)⟩
                    simp only [Act.put, List.setIfInBounds_toArray, List.set_cons_zero, List.set_cons_succ]
                    refine wpAny_take (i := 8) (oi := ?oi9) (v := .int .i64 ((x0 : Int) * 256 + (x1 : Int))) ?hi9 (by kernel_rfl) (by kernel_rfl) (by kernel_rfl) (fun _ _ _ h => h) ?hy9 ?rest9
                    case hi9 => simp only [List.getElem?_toArray, List.getElem?_cons_succ, List.getElem?_cons_zero]; rfl
                    case hy9 => exact Or.inl ⟨rfl, fun _ => by go_simp; exact wraps_i64 _ (by omega) (by omega)⟩
                    simp only [Act.put, List.setIfInBounds_toArray, List.set_cons_zero, List.set_cons_succ]
                    refine wpAny_take (i := 9) (oi := ?oi10) (v := .int .i64 (((x0 : Int) * 256 + (x1 : Int)) * 256)) ?hi10 (by kernel_rfl) (by kernel_rfl) (by kernel_rfl) (fun _ _ _ h => h) ?hy10 ?rest10
                    case hi10 => simp only [List.getElem?_toArray, List.getElem?_cons_succ, List.getElem?_cons_zero]; rfl
                    case hy10 => exact Or.inl ⟨rfl, fun _ => by go_simp; exact wraps_i64 _ (by omega) (by omega)⟩
                    simp only [Act.put, List.setIfInBounds_toArray, List.set_cons_zero, List.set_cons_succ]
                    refine wpAny_take (i := 10) (oi := ?oi11) (v := .string S12) ?hi11 (by kernel_rfl) (by kernel_rfl) (by kernel_rfl) (fun _ _ _ h => h) ?hy11 ?rest11
                    case hi11 => simp only [List.getElem?_toArray, List.getElem?_cons_succ, List.getElem?_cons_zero]; rfl
                    case hy11 => exact Or.inl ⟨rfl, fun _ => rfl⟩
                    simp only [Act.put, List.setIfInBounds_toArray, List.set_cons_zero, List.set_cons_succ]
                    refine wpAny_take (i := 11) (oi := ?oi12) (v := .int .u8 (x2 : Int)) ?hi12 (by kernel_rfl) (by kernel_rfl) (by kernel_rfl) (fun _ _ _ h => h) ?hy12 ?rest12
                    case hi12 => simp only [List.getElem?_toArray, List.getElem?_cons_succ, List.getElem?_cons_zero]; rfl
                    case hy12 => exact Or.inl ⟨rfl, fun _ => by go_simp⟩
                    simp only [Act.put, List.setIfInBounds_toArray, List.set_cons_zero, List.set_cons_succ]
                    refine wpAny_take (i := 12) (oi := ?oi13) (v := .int .i64 (x2 : Int)) ?hi13 (by kernel_rfl) (by kernel_rfl) (by kernel_rfl) (fun _ _ _ h => h) ?hy13 ?rest13
                    case hi13 => simp only [List.getElem?_toArray, List.getElem?_cons_succ, List.getElem?_cons_zero]; rfl
                    case hy13 => exact Or.inl ⟨rfl, fun _ => by go_simp; exact wraps_i64 _ (by omega) (by omega)⟩
                    simp only [Act.put, List.setIfInBounds_toArray, List.set_cons_zero, List.set_cons_succ]
                    refine wpAny_take (i := 13) (oi := ?oi14) (v := .int .i64 (((x0 : Int) * 256 + (x1 : Int)) * 256 + (x2 : Int))) ?hi14 (by kernel_rfl) (by kernel_rfl) (by kernel_rfl) (fun _ _ _ h => h) ?hy14 ?rest14
                    case hi14 => simp only [List.getElem?_toArray, List.getElem?_cons_succ, List.getElem?_cons_zero]; rfl
                    case hy14 => exact Or.inl ⟨rfl, fun _ => by go_simp; exact wraps_i64 _ (by omega) (by omega)⟩
                    simp only [Act.put, List.setIfInBounds_toArray, List.set_cons_zero, List.set_cons_succ]
                    refine wpAny_take (i := 14) (oi := ?oi15) (v := .int .i64 ((((x0 : Int) * 256 + (x1 : Int)) * 256 + (x2 : Int)) * 256)) ?hi15 (by kernel_rfl) (by kernel_rfl) (by kernel_rfl) (fun _ _ _ h => h) ?hy15 ?rest15
                    case hi15 => simp only [List.getElem?_toArray, List.getElem?_cons_succ, List.getElem?_cons_zero]; rfl
                    case hy15 => exact Or.inl ⟨rfl, fun _ => by go_simp; exact wraps_i64 _ (by omega) (by omega)⟩
                    simp only [Act.put, List.setIfInBounds_toArray, List.set_cons_zero, List.set_cons_succ]
                    refine wpAny_take (i := 15) (oi := ?oi16) (v := .string S12) ?hi16 (by kernel_rfl) (by kernel_rfl) (by kernel_rfl) (fun _ _ _ h => h) ?hy16 ?rest16
                    case hi16 => simp only [List.getElem?_toArray, List.getElem?_cons_succ, List.getElem?_cons_zero]; rfl
                    case hy16 => exact Or.inl ⟨rfl, fun _ => rfl⟩
                    simp only [Act.put, List.setIfInBounds_toArray, List.set_cons_zero, List.set_cons_succ]
                    refine wpAny_take (i := 16) (oi := ?oi17) (v := .int .u8 (x3 : Int)) ?hi17 (by kernel_rfl) (by kernel_rfl) (by kernel_rfl) (fun _ _ _ h => h) ?hy17 ?rest17
                    case hi17 => simp only [List.getElem?_toArray, List.getElem?_cons_succ, List.getElem?_cons_zero]; rfl
                    case hy17 => exact Or.inl ⟨rfl, fun _ => by go_simp⟩
                    simp only [Act.put, List.setIfInBounds_toArray, List.set_cons_zero, List.set_cons_succ]
                    refine wpAny_take (i := 17) (oi := ?oi18) (v := .int .i64 (x3 : Int)) ?hi18 (by kernel_rfl) (by kernel_rfl) (by kernel_rfl) (fun _ _ _ h => h) ?hy18 ?rest18
                    case hi18 => simp only [List.getElem?_toArray, List.getElem?_cons_succ, List.getElem?_cons_zero]; rfl
                    case hy18 => exact Or.inl ⟨rfl, fun _ => by go_simp; exact wraps_i64 _ (by omega) (by omega)⟩
                    simp only [Act.put, List.setIfInBounds_toArray, List.set_cons_zero, List.set_cons_succ]
                    refine wpAny_take (i := 18) (oi := ?oi19) (v := .int .i64 ((((x0 : Int) * 256 + (x1 : Int)) * 256 + (x2 : Int)) * 256 + (x3 : Int))) ?hi19 (by kernel_rfl) (by kernel_rfl) (by kernel_rfl) (fun _ _ _ h => h) ?hy19 ?rest19
                    case hi19 => simp only [List.getElem?_toArray, List.getElem?_cons_succ, List.getElem?_cons_zero]; rfl
                    case hy19 => exact Or.inl ⟨rfl, fun _ => by go_simp; exact wraps_i64 _ (by omega) (by omega)⟩
                    simp only [Act.put, List.setIfInBounds_toArray, List.set_cons_zero, List.set_cons_succ]
                    rw [word_int, ← HWD.out]
                    generalize Sx.word B k = wd at *
                    refine wpAny_tail 19 3 rfl (by kernel_rfl) ?_
                    simp only [List.drop_succ_cons, List.drop_zero]
                    go_wp2_with (refine wpList_appI rfl _ _ rfl b3 _ (Sx.words B k) rfl (HOW.out.below (((Below.refl _ _).drew).alloc (Nat.le_refl _) _)) _ 1 1 [wd] rfl rfl (cells_oneI _ wd _) (by rw [HTL4.out]; omega) (by simp; omega) ?_; intro v' w' hown' hbel')
                    refine NoPanic.normal ?_
                    go_wp2
                    go_roundw
                    case rel =>
                      rw [HTS.out] at hown'
                      exact ⟨k + 1, by omega, by go_num, hown', (HBL.out.drew.alloc hz3 _).trans hbel'⟩
                    case measure => simp [intOf]; omega
                · obtain rfl : k = 16 := by omega
                  rw [show ((16 : Nat) : Int) = 16 from rfl]
                  have HBB := hid (show ∀ i, B.getD i 0 < 256 from getD_lt (by omega) (fun x hx => by rw [HBK.out] at hx; exact HTB.out x (List.mem_of_mem_drop (List.mem_of_mem_take hx))))
                  go_upto_region 24 with (fail)
                  go_loopw [10, 13] (fun v i wq => ∃ k : Nat, k ≤ 48 ∧ i = .int .i64 (k + 16 : Nat) ∧ OwnI wq b3 v (Sx.sched B k) ∧ Below b3 w3 wq)
                    (fun _ i _ => 64 - (intOf i).toNat)
                  case atStart => exact ⟨0, by omega, rfl, HOW.out, HBL.out⟩
                  case round =>
                    clear HOW HBL
                    obtain ⟨k, hk, rfl, hown, hbel⟩ := hrel
                    have hsl := Sx.sched_length B k
                    obtain ⟨g, cap, hv, hcell⟩ := hown.opened (by omega)
                    rw [hsl] at hv hcell
                    by_cases hlt5 : k < 48
                    · as_aux_lemma =>
                        subst hv
                        have c15 := hcell (k + 1) (by omega)
                        have c2 := hcell (k + 14) (by omega)
                        have c16 := fun m' => show (wr.drewN m').cell? ⟨g, k, none⟩ = _ from hcell k (by omega)
                        have c7 := fun m' => show (wr.drewN m').cell? ⟨g, k + 9, none⟩ = _ from hcell (k + 9) (by omega)
                        have hx := Sx.sched_lt B HBB.out k (k + 1)
                        have hy := Sx.sched_lt B HBB.out k (k + 14)
                        have hp := Sx.sched_lt B HBB.out k k
                        have hq := Sx.sched_lt B HBB.out k (k + 9)
                        have en : Sx.nextW (Sx.sched B k) = ((Sx.sched B k).getD k 0 + (Sx.sched B k).getD (k + 9) 0 + Sx.ls0 ((Sx.sched B k).getD (k + 1) 0) + Sx.ls1 ((Sx.sched B k).getD (k + 14) 0)) % Sx.M := by
                          unfold Sx.nextW
                          rw [hsl, show 16 + k - 16 = k from by omega, show 16 + k - 7 = k + 9 from by omega, show 16 + k - 15 = k + 1 from by omega, show 16 + k - 2 = k + 14 from by omega]
                        have HTS := hid (show Sx.sched B k ++ [Sx.nextW (Sx.sched B k)] = Sx.sched B (k + 1) from rfl)
                        have HSL := hid hsl
                        have HOW := hid hown
                        have HBL := hid hbel
                        have hsz := hbel.size
                        have hz3 : b3 ≤ wr.heap.size := by omega
                        have HBd := hid (fun m' => show Below wr.heap.size wr (wr.drewN m') from ⟨rfl, rfl, rfl, Nat.le_refl _, fun _ _ => rfl⟩)
                        clear hown hbel hsl hcell
                        generalize (Sx.sched B k).getD (k + 1) 0 = x at *
                        generalize (Sx.sched B k).getD (k + 14) 0 = y at *
                        generalize (Sx.sched B k).getD k 0 = p at *
                        generalize (Sx.sched B k).getD (k + 9) 0 = q at *
                        generalize Sx.nextW (Sx.sched B k) = nw at *
                        obtain ⟨a1, a2, _, _, a5, _⟩ := Sx.ls_lt x hx
                        obtain ⟨_, _, b3', b4', _, b6⟩ := Sx.ls_lt y hy
                        have e1 := xor64 _ _ a1 a2
                        have e2 := xor64 _ _ b3' b4'
                        have l1 : Sx.ls0 x < Sx.M := xor32_lt _ _ (xor32_lt _ _ a1 a2) a5
                        have l2 : Sx.ls1 y < Sx.M := xor32_lt _ _ (xor32_lt _ _ b3' b4') b6
                        have e3 : bits .xor .i64 ((Sx.rotr x 7 ^^^ Sx.rotr x 18 : Nat) : Int) ((x / 2 ^ 3 : Nat) : Int) = (Sx.ls0 x : Nat) := xor64 _ _ (xor32_lt _ _ a1 a2) a5
                        have e4 : bits .xor .i64 ((Sx.rotr y 17 ^^^ Sx.rotr y 19 : Nat) : Int) ((y / 2 ^ 10 : Nat) : Int) = (Sx.ls1 y : Nat) := xor64 _ _ (xor32_lt _ _ b3' b4') b6
                        generalize Sx.ls0 x = X2 at *
                        generalize Sx.ls1 y = Y2 at *
                        have enw : ((p : Int) + (q : Int) + (X2 : Int) + (Y2 : Int)) % 4294967296 = (nw : Int) := next_int p q X2 Y2 nw en
                        have e3' : bits .xor .i64 ((Sx.rotr x 7 ^^^ Sx.rotr x 18 : Nat) : Int) ((x : Int) / 8) = (X2 : Int) := e3
                        have e4' : bits .xor .i64 ((Sx.rotr y 17 ^^^ Sx.rotr y 19 : Nat) : Int) ((y : Int) / 1024) = (Y2 : Int) := e4
                        have HX := hid hx
                        have HY := hid hy
                        have HP5 := hid hp
                        have HQ5 := hid hq
                        have L1 := hid l1
                        have L2 := hid l2
                        clear en a1 a2 a5 b3' b4' b6 hx hy hp hq l1 l2 e3 e4
                        have w15 : IntKind.i64.wrap ((k : Int) + 16 - 15) = ((k + 1 : Nat) : Int) := by rw [IntKind.wrap_i64]; omega
                        have w2' : IntKind.i64.wrap ((k : Int) + 16 - 2) = ((k + 14 : Nat) : Int) := by rw [IntKind.wrap_i64]; omega
                        go_upto_region 28 with (fail)
                        clear w15 w2' c15 c2
                        refine wp_region_noPanic ?_
                        refine wp_region_any (by kernel_rfl) ?_
                        change wpAny _ _ _ _ 34 _ _ wr.drew
                        refine wpAny_take (i := 0) (oi := ?oi20) (v := .slice (some ⟨g, 0, none⟩) (16 + k) cap) ?hi20 (by kernel_rfl) (by kernel_rfl) (by kernel_rfl) (fun _ _ _ h => h) ?hy20 ?rest20
                        case hi20 => simp only [List.getElem?_toArray, List.getElem?_cons_zero]; rfl
                        case hy20 => exact Or.inl ⟨rfl, fun _ => rfl⟩
                        simp only [Act.put, List.setIfInBounds_toArray, List.set_cons_zero, List.set_cons_succ]
                        refine wpAny_S (S := fun w' => ∃ m', w' = wr.drewN m') (n := 30) (g := 3) (Array.replicate 31 true ++ Array.replicate 3 false) (by kernel_rfl) (⟨1, rfl⟩) ?_
                        refine wpS_take (i := 1) (oi := ?oi22) (v := .slice (some ⟨g, 0, none⟩) (16 + k) cap) (by kernel_rfl) (by kernel_rfl) ?hi22 (by kernel_rfl) (by kernel_rfl) (by kernel_rfl) ?hy22 ?rest22
                        case hi22 => simp only [List.getElem?_toArray, List.getElem?_cons_succ, List.getElem?_cons_zero]; rfl
                        case hy22 => exact Or.inl ⟨rfl, fun wS hSw => Or.inl ⟨wS, rfl, hSw⟩⟩
                        simp only [Act.put, List.setIfInBounds_toArray, List.set_cons_zero, List.set_cons_succ]
                        refine wpS_take (i := 2) (oi := ?oi23) (v := .int .i64 ((k : Int) + 16)) (by kernel_rfl) (by kernel_rfl) ?hi23 (by kernel_rfl) (by kernel_rfl) (by kernel_rfl) ?hy23 ?rest23
                        case hi23 => simp only [List.getElem?_toArray, List.getElem?_cons_succ, List.getElem?_cons_zero]; rfl
                        case hy23 => exact Or.inl ⟨rfl, fun wS hSw => Or.inl ⟨wS, rfl, hSw⟩⟩
                        simp only [Act.put, List.setIfInBounds_toArray, List.set_cons_zero, List.set_cons_succ]
                        refine wpS_take (i := 3) (oi := ?oi24) (v := .int .i64 (k : Int)) (by kernel_rfl) (by kernel_rfl) ?hi24 (by kernel_rfl) (by kernel_rfl) (by kernel_rfl) ?hy24 ?rest24
                        case hi24 => simp only [List.getElem?_toArray, List.getElem?_cons_succ, List.getElem?_cons_zero]; rfl
                        case hy24 => exact Or.inl ⟨rfl, fun wS hSw => Or.inl ⟨wS, by (go_simp) <;> (try (rw [IntKind.wrap_i64]; omega)), hSw⟩⟩
                        simp only [Act.put, List.setIfInBounds_toArray, List.set_cons_zero, List.set_cons_succ]
                        refine wpS_take (i := 4) (oi := ?oi25) (v := .pointer (some ⟨g, k, none⟩)) (by kernel_rfl) (by kernel_rfl) ?hi25 (by kernel_rfl) (by kernel_rfl) (by kernel_rfl) ?hy25 ?rest25
                        case hi25 => simp only [List.getElem?_toArray, List.getElem?_cons_succ, List.getElem?_cons_zero]; rfl
                        case hy25 => exact Or.inl ⟨rfl, fun wS hSw => Or.inl ⟨wS, by go_simp; intro h; omega, hSw⟩⟩
                        simp only [Act.put, List.setIfInBounds_toArray, List.set_cons_zero, List.set_cons_succ]
                        refine wpS_take (i := 5) (oi := ?oi26) (v := .int .i64 (p : Int)) (by kernel_rfl) (by kernel_rfl) ?hi26 (by kernel_rfl) (by kernel_rfl) (by kernel_rfl) ?hy26 ?rest26
                        case hi26 => simp only [List.getElem?_toArray, List.getElem?_cons_succ, List.getElem?_cons_zero]; rfl
                        case hy26 => exact Or.inl ⟨rfl, fun wS hSw => Or.inl ⟨wS, by obtain ⟨m', rfl⟩ := hSw; go_simp, hSw⟩⟩
                        simp only [Act.put, List.setIfInBounds_toArray, List.set_cons_zero, List.set_cons_succ]
                        refine wpS_take (i := 6) (oi := ?oi27) (v := .slice (some ⟨g, 0, none⟩) (16 + k) cap) (by kernel_rfl) (by kernel_rfl) ?hi27 (by kernel_rfl) (by kernel_rfl) (by kernel_rfl) ?hy27 ?rest27
                        case hi27 => simp only [List.getElem?_toArray, List.getElem?_cons_succ, List.getElem?_cons_zero]; rfl
                        case hy27 => exact Or.inl ⟨rfl, fun wS hSw => Or.inl ⟨wS, rfl, hSw⟩⟩
                        simp only [Act.put, List.setIfInBounds_toArray, List.set_cons_zero, List.set_cons_succ]
                        refine wpS_take (i := 7) (oi := ?oi28) (v := .int .i64 ((k : Int) + 16)) (by kernel_rfl) (by kernel_rfl) ?hi28 (by kernel_rfl) (by kernel_rfl) (by kernel_rfl) ?hy28 ?rest28
                        case hi28 => simp only [List.getElem?_toArray, List.getElem?_cons_succ, List.getElem?_cons_zero]; rfl
                        case hy28 => exact Or.inl ⟨rfl, fun wS hSw => Or.inl ⟨wS, rfl, hSw⟩⟩
                        simp only [Act.put, List.setIfInBounds_toArray, List.set_cons_zero, List.set_cons_succ]
                        refine wpS_take (i := 8) (oi := ?oi29) (v := .int .i64 ((k : Int) + 9)) (by kernel_rfl) (by kernel_rfl) ?hi29 (by kernel_rfl) (by kernel_rfl) (by kernel_rfl) ?hy29 ?rest29
                        case hi29 => simp only [List.getElem?_toArray, List.getElem?_cons_succ, List.getElem?_cons_zero]; rfl
                        case hy29 => exact Or.inl ⟨rfl, fun wS hSw => Or.inl ⟨wS, by (go_simp) <;> (try (rw [IntKind.wrap_i64]; omega)), hSw⟩⟩
                        simp only [Act.put, List.setIfInBounds_toArray, List.set_cons_zero, List.set_cons_succ]
                        refine wpS_take (i := 9) (oi := ?oi30) (v := .pointer (some ⟨g, k + 9, none⟩)) (by kernel_rfl) (by kernel_rfl) ?hi30 (by kernel_rfl) (by kernel_rfl) (by kernel_rfl) ?hy30 ?rest30
                        case hi30 => simp only [List.getElem?_toArray, List.getElem?_cons_succ, List.getElem?_cons_zero]; rfl
                        case hy30 => exact Or.inl ⟨rfl, fun wS hSw => Or.inl ⟨wS, by go_simp; rw [if_pos (by omega), show ((k : Int) + 9).toNat = k + 9 from by omega], hSw⟩⟩
                        simp only [Act.put, List.setIfInBounds_toArray, List.set_cons_zero, List.set_cons_succ]
                        refine wpS_take (i := 10) (oi := ?oi31) (v := .int .i64 (q : Int)) (by kernel_rfl) (by kernel_rfl) ?hi31 (by kernel_rfl) (by kernel_rfl) (by kernel_rfl) ?hy31 ?rest31
                        case hi31 => simp only [List.getElem?_toArray, List.getElem?_cons_succ, List.getElem?_cons_zero]; rfl
                        case hy31 => exact Or.inl ⟨rfl, fun wS hSw => Or.inl ⟨wS, by obtain ⟨m', rfl⟩ := hSw; go_simp, hSw⟩⟩
                        simp only [Act.put, List.setIfInBounds_toArray, List.set_cons_zero, List.set_cons_succ]
                        refine wpS_take (i := 11) (oi := ?oi32) (v := .int .i64 ((p : Int) + (q : Int))) (by kernel_rfl) (by kernel_rfl) ?hi32 (by kernel_rfl) (by kernel_rfl) (by kernel_rfl) ?hy32 ?rest32
                        case hi32 => simp only [List.getElem?_toArray, List.getElem?_cons_succ, List.getElem?_cons_zero]; rfl
                        case hy32 => exact Or.inl ⟨rfl, fun wS hSw => Or.inl ⟨wS, by go_simp; exact wsum2 _ _ HP5.out HQ5.out, hSw⟩⟩
                        simp only [Act.put, List.setIfInBounds_toArray, List.set_cons_zero, List.set_cons_succ]
                        refine wpS_take (i := 12) (oi := ?oi33) (v := .int .i64 (x : Int)) (by kernel_rfl) (by kernel_rfl) ?hi33 (by kernel_rfl) (by kernel_rfl) (by kernel_rfl) ?hy33 ?rest33
                        case hi33 => simp only [List.getElem?_toArray, List.getElem?_cons_succ, List.getElem?_cons_zero]; rfl
                        case hy33 => exact Or.inl ⟨rfl, fun wS hSw => Or.inl ⟨wS, rfl, hSw⟩⟩
                        simp only [Act.put, List.setIfInBounds_toArray, List.set_cons_zero, List.set_cons_succ]
                        refine wpS_take (i := 13) (oi := ?oi34) (v := .int .i64 (Sx.rotr x 7 : Nat)) (by kernel_rfl) (by kernel_rfl) ?hi34 (by kernel_rfl) (by kernel_rfl) (by kernel_rfl) ?hy34 ?rest34
                        case hi34 => simp only [List.getElem?_toArray, List.getElem?_cons_succ, List.getElem?_cons_zero]; rfl
                        case hy34 => exact yieldsS_call rfl rfl rfl (fun wS => by go_simp) (fun wS hSw => (turn_any x 7 (by decide) HX.out wS).mono (fun e w'' h => ⟨h.1, by obtain ⟨m', rfl⟩ := hSw; obtain ⟨n', hn'⟩ := h.2; exact ⟨m' + n', by rw [hn', World.drewN_drewN]⟩⟩))
                        simp only [Act.put, List.setIfInBounds_toArray, List.set_cons_zero, List.set_cons_succ]
                        refine wpS_take (i := 14) (oi := ?oi35) (v := .int .i64 (x : Int)) (by kernel_rfl) (by kernel_rfl) ?hi35 (by kernel_rfl) (by kernel_rfl) (by kernel_rfl) ?hy35 ?rest35
                        case hi35 => simp only [List.getElem?_toArray, List.getElem?_cons_succ, List.getElem?_cons_zero]; rfl
                        case hy35 => exact Or.inl ⟨rfl, fun wS hSw => Or.inl ⟨wS, rfl, hSw⟩⟩
                        simp only [Act.put, List.setIfInBounds_toArray, List.set_cons_zero, List.set_cons_succ]
                        refine wpS_take (i := 15) (oi := ?oi36) (v := .int .i64 (Sx.rotr x 18 : Nat)) (by kernel_rfl) (by kernel_rfl) ?hi36 (by kernel_rfl) (by kernel_rfl) (by kernel_rfl) ?hy36 ?rest36
                        case hi36 => simp only [List.getElem?_toArray, List.getElem?_cons_succ, List.getElem?_cons_zero]; rfl
                        case hy36 => exact yieldsS_call rfl rfl rfl (fun wS => by go_simp) (fun wS hSw => (turn_any x 18 (by decide) HX.out wS).mono (fun e w'' h => ⟨h.1, by obtain ⟨m', rfl⟩ := hSw; obtain ⟨n', hn'⟩ := h.2; exact ⟨m' + n', by rw [hn', World.drewN_drewN]⟩⟩))
                        simp only [Act.put, List.setIfInBounds_toArray, List.set_cons_zero, List.set_cons_succ]
                        refine wpS_take (i := 16) (oi := ?oi37) (v := .int .i64 (Sx.rotr x 7 ^^^ Sx.rotr x 18 : Nat)) (by kernel_rfl) (by kernel_rfl) ?hi37 (by kernel_rfl) (by kernel_rfl) (by kernel_rfl) ?hy37 ?rest37
                        case hi37 => simp only [List.getElem?_toArray, List.getElem?_cons_succ, List.getElem?_cons_zero]; rfl
                        case hy37 => exact Or.inl ⟨rfl, fun wS hSw => Or.inl ⟨wS, by go_simp, hSw⟩⟩
                        simp only [Act.put, List.setIfInBounds_toArray, List.set_cons_zero, List.set_cons_succ]
                        refine wpS_take (i := 17) (oi := ?oi38) (v := .int .i64 (x : Int)) (by kernel_rfl) (by kernel_rfl) ?hi38 (by kernel_rfl) (by kernel_rfl) (by kernel_rfl) ?hy38 ?rest38
                        case hi38 => simp only [List.getElem?_toArray, List.getElem?_cons_succ, List.getElem?_cons_zero]; rfl
                        case hy38 => exact Or.inl ⟨rfl, fun wS hSw => Or.inl ⟨wS, rfl, hSw⟩⟩
                        simp only [Act.put, List.setIfInBounds_toArray, List.set_cons_zero, List.set_cons_succ]
                        refine wpS_take (i := 18) (oi := ?oi39) (v := .int .i64 (x / 2 ^ 3 : Nat)) (by kernel_rfl) (by kernel_rfl) ?hi39 (by kernel_rfl) (by kernel_rfl) (by kernel_rfl) ?hy39 ?rest39
                        case hi39 => simp only [List.getElem?_toArray, List.getElem?_cons_succ, List.getElem?_cons_zero]; rfl
                        case hy39 => exact yieldsS_call rfl rfl rfl (fun wS => by go_simp) (fun wS hSw => (shift_any x 3 HX.out (by decide) wS).mono (fun e w'' h => ⟨h.1, h.2 ▸ hSw⟩))
                        simp only [Act.put, List.setIfInBounds_toArray, List.set_cons_zero, List.set_cons_succ]
                        refine wpS_take (i := 19) (oi := ?oi40) (v := .int .i64 (X2 : Int)) (by kernel_rfl) (by kernel_rfl) ?hi40 (by kernel_rfl) (by kernel_rfl) (by kernel_rfl) ?hy40 ?rest40
                        case hi40 => simp only [List.getElem?_toArray, List.getElem?_cons_succ, List.getElem?_cons_zero]; rfl
                        case hy40 => exact Or.inl ⟨rfl, fun wS hSw => Or.inl ⟨wS, by go_simp, hSw⟩⟩
                        simp only [Act.put, List.setIfInBounds_toArray, List.set_cons_zero, List.set_cons_succ]
                        refine wpS_take (i := 20) (oi := ?oi41) (v := .int .i64 ((p : Int) + (q : Int) + (X2 : Int))) (by kernel_rfl) (by kernel_rfl) ?hi41 (by kernel_rfl) (by kernel_rfl) (by kernel_rfl) ?hy41 ?rest41
                        case hi41 => simp only [List.getElem?_toArray, List.getElem?_cons_succ, List.getElem?_cons_zero]; rfl
                        case hy41 => exact Or.inl ⟨rfl, fun wS hSw => Or.inl ⟨wS, by go_simp; exact wsum3 _ _ _ HP5.out HQ5.out L1.out, hSw⟩⟩
                        simp only [Act.put, List.setIfInBounds_toArray, List.set_cons_zero, List.set_cons_succ]
                        refine wpS_take (i := 21) (oi := ?oi42) (v := .int .i64 (y : Int)) (by kernel_rfl) (by kernel_rfl) ?hi42 (by kernel_rfl) (by kernel_rfl) (by kernel_rfl) ?hy42 ?rest42
                        case hi42 => simp only [List.getElem?_toArray, List.getElem?_cons_succ, List.getElem?_cons_zero]; rfl
                        case hy42 => exact Or.inl ⟨rfl, fun wS hSw => Or.inl ⟨wS, rfl, hSw⟩⟩
                        simp only [Act.put, List.setIfInBounds_toArray, List.set_cons_zero, List.set_cons_succ]
                        refine wpS_take (i := 22) (oi := ?oi43) (v := .int .i64 (Sx.rotr y 17 : Nat)) (by kernel_rfl) (by kernel_rfl) ?hi43 (by kernel_rfl) (by kernel_rfl) (by kernel_rfl) ?hy43 ?rest43
                        case hi43 => simp only [List.getElem?_toArray, List.getElem?_cons_succ, List.getElem?_cons_zero]; rfl
                        case hy43 => exact yieldsS_call rfl rfl rfl (fun wS => by go_simp) (fun wS hSw => (turn_any y 17 (by decide) HY.out wS).mono (fun e w'' h => ⟨h.1, by obtain ⟨m', rfl⟩ := hSw; obtain ⟨n', hn'⟩ := h.2; exact ⟨m' + n', by rw [hn', World.drewN_drewN]⟩⟩))
                        simp only [Act.put, List.setIfInBounds_toArray, List.set_cons_zero, List.set_cons_succ]
                        refine wpS_take (i := 23) (oi := ?oi44) (v := .int .i64 (y : Int)) (by kernel_rfl) (by kernel_rfl) ?hi44 (by kernel_rfl) (by kernel_rfl) (by kernel_rfl) ?hy44 ?rest44
                        case hi44 => simp only [List.getElem?_toArray, List.getElem?_cons_succ, List.getElem?_cons_zero]; rfl
                        case hy44 => exact Or.inl ⟨rfl, fun wS hSw => Or.inl ⟨wS, rfl, hSw⟩⟩
                        simp only [Act.put, List.setIfInBounds_toArray, List.set_cons_zero, List.set_cons_succ]
                        refine wpS_take (i := 24) (oi := ?oi45) (v := .int .i64 (Sx.rotr y 19 : Nat)) (by kernel_rfl) (by kernel_rfl) ?hi45 (by kernel_rfl) (by kernel_rfl) (by kernel_rfl) ?hy45 ?rest45
                        case hi45 => simp only [List.getElem?_toArray, List.getElem?_cons_succ, List.getElem?_cons_zero]; rfl
                        case hy45 => exact yieldsS_call rfl rfl rfl (fun wS => by go_simp) (fun wS hSw => (turn_any y 19 (by decide) HY.out wS).mono (fun e w'' h => ⟨h.1, by obtain ⟨m', rfl⟩ := hSw; obtain ⟨n', hn'⟩ := h.2; exact ⟨m' + n', by rw [hn', World.drewN_drewN]⟩⟩))
                        simp only [Act.put, List.setIfInBounds_toArray, List.set_cons_zero, List.set_cons_succ]
                        refine wpS_take (i := 25) (oi := ?oi46) (v := .int .i64 (Sx.rotr y 17 ^^^ Sx.rotr y 19 : Nat)) (by kernel_rfl) (by kernel_rfl) ?hi46 (by kernel_rfl) (by kernel_rfl) (by kernel_rfl) ?hy46 ?rest46
                        case hi46 => simp only [List.getElem?_toArray, List.getElem?_cons_succ, List.getElem?_cons_zero]; rfl
                        case hy46 => exact Or.inl ⟨rfl, fun wS hSw => Or.inl ⟨wS, by go_simp, hSw⟩⟩
                        simp only [Act.put, List.setIfInBounds_toArray, List.set_cons_zero, List.set_cons_succ]
                        refine wpS_take (i := 26) (oi := ?oi47) (v := .int .i64 (y : Int)) (by kernel_rfl) (by kernel_rfl) ?hi47 (by kernel_rfl) (by kernel_rfl) (by kernel_rfl) ?hy47 ?rest47
                        case hi47 => simp only [List.getElem?_toArray, List.getElem?_cons_succ, List.getElem?_cons_zero]; rfl
                        case hy47 => exact Or.inl ⟨rfl, fun wS hSw => Or.inl ⟨wS, rfl, hSw⟩⟩
                        simp only [Act.put, List.setIfInBounds_toArray, List.set_cons_zero, List.set_cons_succ]
                        refine wpS_take (i := 27) (oi := ?oi48) (v := .int .i64 (y / 2 ^ 10 : Nat)) (by kernel_rfl) (by kernel_rfl) ?hi48 (by kernel_rfl) (by kernel_rfl) (by kernel_rfl) ?hy48 ?rest48
                        case hi48 => simp only [List.getElem?_toArray, List.getElem?_cons_succ, List.getElem?_cons_zero]; rfl
                        case hy48 => exact yieldsS_call rfl rfl rfl (fun wS => by go_simp) (fun wS hSw => (shift_any y 10 HY.out (by decide) wS).mono (fun e w'' h => ⟨h.1, h.2 ▸ hSw⟩))
                        simp only [Act.put, List.setIfInBounds_toArray, List.set_cons_zero, List.set_cons_succ]
                        refine wpS_take (i := 28) (oi := ?oi49) (v := .int .i64 (Y2 : Int)) (by kernel_rfl) (by kernel_rfl) ?hi49 (by kernel_rfl) (by kernel_rfl) (by kernel_rfl) ?hy49 ?rest49
                        case hi49 => simp only [List.getElem?_toArray, List.getElem?_cons_succ, List.getElem?_cons_zero]; rfl
                        case hy49 => exact Or.inl ⟨rfl, fun wS hSw => Or.inl ⟨wS, by go_simp, hSw⟩⟩
                        simp only [Act.put, List.setIfInBounds_toArray, List.set_cons_zero, List.set_cons_succ]
                        refine wpS_take (i := 29) (oi := ?oi50) (v := .int .i64 ((p : Int) + (q : Int) + (X2 : Int) + (Y2 : Int))) (by kernel_rfl) (by kernel_rfl) ?hi50 (by kernel_rfl) (by kernel_rfl) (by kernel_rfl) ?hy50 ?rest50
                        case hi50 => simp only [List.getElem?_toArray, List.getElem?_cons_succ, List.getElem?_cons_zero]; rfl
                        case hy50 => exact Or.inl ⟨rfl, fun wS hSw => Or.inl ⟨wS, by go_simp; exact wsum4 _ _ _ _ HP5.out HQ5.out L1.out L2.out, hSw⟩⟩
                        simp only [Act.put, List.setIfInBounds_toArray, List.set_cons_zero, List.set_cons_succ]
                        refine wpS_take (i := 30) (oi := ?oi51) (v := .int .i64 (nw : Int)) (by kernel_rfl) (by kernel_rfl) ?hi51 (by kernel_rfl) (by kernel_rfl) (by kernel_rfl) ?hy51 ?rest51
                        case hi51 => simp only [List.getElem?_toArray, List.getElem?_cons_succ, List.getElem?_cons_zero]; rfl
                        case hy51 => exact Or.inl ⟨rfl, fun wS hSw => Or.inl ⟨wS, by go_simp; exact next_tmod p q X2 Y2 nw enw, hSw⟩⟩
                        simp only [Act.put, List.setIfInBounds_toArray, List.set_cons_zero, List.set_cons_succ]
                        refine ⟨by kernel_rfl, fun wL hSw => ?_⟩
                        refine wpAny_tail 31 3 rfl (by kernel_rfl) ?_
                        simp only [List.drop_succ_cons, List.drop_zero]
                        obtain ⟨m', rfl⟩ := hSw
                        go_wp2_with (refine wpList_appI rfl _ _ rfl b3 _ (Sx.sched B k) rfl (HOW.out.below ((HBd.out m').alloc (Nat.le_refl _) _)) _ 1 1 [nw] rfl rfl (cells_oneI _ nw _) (by rw [HSL.out]; omega) (by simp; omega) ?_; intro v' w' hown' hbel')
                        refine NoPanic.normal ?_
                        go_wp2
                        go_roundw
                        case rel =>
                          rw [HTS.out] at hown'
                          exact ⟨k + 1, by omega, by go_num, hown', ((HBL.out.trans ((HBd.out m').mono hz3)).alloc hz3 _).trans hbel'⟩
                        case measure => simp [intOf]; omega
                    · obtain rfl : k = 48 := by omega
                      subst hv
                      rw [show ((48 + 16 : Nat) : Int) = 64 from rfl]
                      have rH := HRH3.out.below hbel (show bH < b3 by omega)
                      have rK := HRK3.out.below hbel (show bK < b3 by omega)
                      have hl8 := runB_length T n
                      have hok := runB_ok T n
                      have c0 := rH.cell 0 (by omega)
                      have c1 := rH.cell 1 (by omega)
                      have c2 := rH.cell 2 (by omega)
                      have c3 := rH.cell 3 (by omega)
                      have c4 := rH.cell 4 (by omega)
                      have c5 := rH.cell 5 (by omega)
                      have c6 := rH.cell 6 (by omega)
                      have c7 := rH.cell 7 (by omega)
                      obtain ⟨hv, ehv⟩ : ∃ hv, hv = Sx.runB T n := ⟨_, rfl⟩
                      rw [← ehv] at c0 c1 c2 c3 c4 c5 c6 c7 hok rH hl8
                      have HOK := hid hok
                      have EHV := hid ehv
                      have HRH6 := hid rH
                      have HRK6 := hid rK
                      have HBL6 := hid hbel
                      have HCL := hid hcell
                      have HL8 := hid hl8
                      clear ehv hok rH rK hbel hcell hl8 hown hsl
                      generalize e0 : hv.getD 0 0 = h0 at *
                      generalize e1 : hv.getD 1 0 = h1 at *
                      generalize e2 : hv.getD 2 0 = h2 at *
                      generalize e3 : hv.getD 3 0 = h3 at *
                      generalize e4 : hv.getD 4 0 = h4 at *
                      generalize e5 : hv.getD 5 0 = h5 at *
                      generalize e6 : hv.getD 6 0 = h6 at *
                      generalize e7 : hv.getD 7 0 = h7 at *
                      have ES : Hid (Sx.St.of hv = ⟨h0, h1, h2, h3, h4, h5, h6, h7⟩) := by
                        show Sx.St.of hv = _
                        unfold Sx.St.of; rw [e0, e1, e2, e3, e4, e5, e6, e7]
                      clear e0 e1 e2 e3 e4 e5 e6 e7 hk
                      go_upto_region 29 with (fail)
                      go_quiet (fail)
                      clear c0 c1 c2 c3 c4 c5 c6 c7
                      go_upto_region 31 with (fail)
                      go_loopw [16, 17, 18, 19, 20, 21, 22, 23, 24] (fun a b c d e f g h i wq => ∃ k : Nat, k ≤ 64 ∧ i = .int .i64 k ∧ StRelI (Sx.rounds (Sx.sched B 48) (Sx.St.of hv) k) a b c d e f g h ∧ ∃ n' : Nat, wq = wr.drewN n')
                        (fun _ _ _ _ _ _ _ _ i _ => 64 - (intOf i).toNat)
                      case atStart => exact ⟨0, by omega, rfl, by show StRelI (Sx.St.of hv) _ _ _ _ _ _ _ _; rw [ES.out]; exact ⟨rfl, rfl, rfl, rfl, rfl, rfl, rfl, rfl⟩, nq, rfl⟩
                      case round =>
                        obtain ⟨k, hk, rfl, hst, n', hwr⟩ := hrel
                        by_cases hlt6 : k < 64
                        · as_aux_lemma =>
                            have hok := HOK.out.rounds (Sx.sched B 48) k
                            have hstep : Sx.rounds (Sx.sched B 48) (Sx.St.of hv) (k + 1) = Sx.rnd (Sx.rounds (Sx.sched B 48) (Sx.St.of hv) k) (Sx.K.getD k 0) ((Sx.sched B 48).getD k 0) := rfl
                            have cK := fun m' => show (wr.drewN m').cell? ⟨bK, k, none⟩ = some (.int .i64 (Sx.K.getD k 0 : Nat)) from by rw [hwr]; exact HRK6.out.cell k hlt6
                            have cW := fun m' => show (wr.drewN m').cell? ⟨g, k, none⟩ = some (.int .i64 ((Sx.sched B 48).getD k 0 : Nat)) from by rw [hwr]; exact HCL.out k (by omega)
                            have HWR := hid hwr
                            clear hwr
                            have hkk := K_lt k
                            have hww := Sx.sched_lt B HBB.out 48 k
                            generalize Sx.rounds (Sx.sched B 48) (Sx.St.of hv) k = s at *
                            generalize Sx.K.getD k 0 = kk at *
                            generalize (Sx.sched B 48).getD k 0 = ww at *
                            obtain ⟨sa, sb, sc, sd, se, sf, sg, sh⟩ := s
                            obtain ⟨rfl, rfl, rfl, rfl, rfl, rfl, rfl, rfl⟩ := hst
                            obtain ⟨oa, ob, oc, od, oe, of, og, oh⟩ := hok
                            dsimp only at oa ob oc od oe of og oh
                            have OA := hid oa
                            have OE := hid oe
                            have hX := rnd_xI se sf sg sh kk ww oe of og oh hkk hww
                            have hy := rnd_yI sa sb sc oa ob oc
                            have lX := rndX_lt se sf sg sh kk ww oe of og oh hkk hww
                            have lY := rndY_lt sa sb sc oa ob oc
                            have lD := M_lt40 sd od
                            clear ob oc od of og oh hkk hww oa oe
                            obtain ⟨X, hXe⟩ : ∃ X, X = sh + Sx.bs1 se + Sx.chs se sf sg + kk + ww := ⟨_, rfl⟩
                            obtain ⟨Y, hYe⟩ : ∃ Y, Y = Sx.bs0 sa + Sx.maj sa sb sc := ⟨_, rfl⟩
                            rw [← hXe] at hX lX
                            rw [← hYe] at hy lY
                            have HX := hid hX
                            have s1 := sumI sd X lD lX
                            have s2 := sumI X Y lX lY
                            have q1 := modI (sd + X)
                            have q2 := modI (X + Y)
                            have p1 := tmodI (sd + X)
                            have p2 := tmodI (X + Y)
                            have HST : Hid (StRelI (Sx.rounds (Sx.sched B 48) (Sx.St.of hv) (k + 1)) (.int .i64 ((X + Y) % Sx.M : Nat)) (.int .i64 sa) (.int .i64 sb) (.int .i64 sc) (.int .i64 ((sd + X) % Sx.M : Nat)) (.int .i64 se) (.int .i64 sf) (.int .i64 sg)) := by
                              show StRelI _ _ _ _ _ _ _ _ _
                              rw [hstep, hXe, hYe]; exact ⟨rfl, rfl, rfl, rfl, rfl, rfl, rfl, rfl⟩
                            generalize (X + Y) % Sx.M = na at *
                            generalize (sd + X) % Sx.M = ne at *
                            generalize X + Y = XY at *
                            generalize sd + X = DX at *
                            clear hX lX lY lD hstep hXe hYe
                            go_upto_region 33 with (fail)
                            go_quiet ((go_at_call 40; exact Calls.quiet_of (turnI _ _ _ (by decide) (by decide) OE.out)))
                            go_upto_region 34 with (fail)
                            rw [HX.out]
                            clear cK cW HX
                            go_wp2_with (go_at_call 40; refine (turnI _ _ _ (by decide) (by decide) OA.out).mono ?_; rintro e w' ⟨rfl, n1, rfl⟩)
                            go_roundw
                            case rel =>
                              (repeat apply Exists.intro)
                              refine ⟨?_, rfl⟩
                              exact ⟨k + 1, by omega, by go_num, HST.out, _, by rw [HWR.out, World.drewN_drewN]⟩
                            case measure => simp [intOf]; omega
                        · obtain rfl : k = 64 := by omega
                          rw [show ((64 : Nat) : Int) = 64 from rfl]
                          have hmx : Sx.mixed hv B = (Sx.rounds (Sx.sched B 48) (Sx.St.of hv) 64).list := rfl
                          generalize Sx.rounds (Sx.sched B 48) (Sx.St.of hv) 64 = s at *
                          obtain ⟨sa, sb, sc, sd, se, sf, sg, sh⟩ := s
                          obtain ⟨rfl, rfl, rfl, rfl, rfl, rfl, rfl, rfl⟩ := hst
                          have hml : (Sx.mixed hv B).length = 8 := by rw [hmx]; rfl
                          have rH : Row wr bH .i64 3 hv := by rw [hwr]; exact HRH6.out
                          have rK : Row wr bK .i64 3 Sx.K := by rw [hwr]; exact HRK6.out
                          have hb7 : Below b3 w3 wr := by rw [hwr]; exact HBL6.out.trans ⟨rfl, rfl, rfl, Nat.le_refl _, fun _ _ => rfl⟩
                          have hbw : Below w.heap.size w wr := HB3.out.trans (hb7.mono hb3)
                          have hHs := rH.lt
                          have hKs := rK.lt
                          have HH8 := hid (rH.alloc (.cells (ints .i64 (Sx.mixed hv B)) 3))
                          have HK8 := hid (rK.alloc (.cells (ints .i64 (Sx.mixed hv B)) 3))
                          have HV8 := hid (show Row (wr.alloc (.cells (ints .i64 (Sx.mixed hv B)) 3)) wr.heap.size .i64 3 (Sx.mixed hv B) from heap_alloc_new _ _)
                          have HB8 := hid (hbw.alloc hbw.size (.cells (ints .i64 (Sx.mixed hv B)) 3))
                          have hHw7 := hbw.size
                          have EC : Hid ((.cells #[.int .i64 (sa : Int), .int .i64 (sb : Int), .int .i64 (sc : Int), .int .i64 (sd : Int), .int .i64 (se : Int), .int .i64 (sf : Int), .int .i64 (sg : Int), .int .i64 (sh : Int)] 3 : Obj) = .cells (ints .i64 (Sx.mixed hv B)) 3) := by rw [hmx]; exact rfl
                          clear hmx hwr rH rK hb7 hbw HRH6 HRK6 HBL6 HCL ES HOK HBB HBK
                          go_upto_region 37 with (fail)
                          rw [EC.out]
                          clear EC
                          generalize wr.alloc _ = w8 at *
                          generalize wr.heap.size = bV at *
                          go_loopw [252] (fun i wq => ∃ k : Nat, k ≤ 8 ∧ i = .int .i64 k ∧ Row wq bH .i64 3 (Sx.stepS hv (Sx.mixed hv B) k) ∧ Row wq bK .i64 3 Sx.K ∧ Row wq bV .i64 3 (Sx.mixed hv B) ∧ Below w.heap.size w wq)
                            (fun i _ => 8 - (intOf i).toNat)
                          case atStart => exact ⟨0, by omega, rfl, by rw [Sx.stepS_zero]; exact HH8.out, HK8.out, HV8.out, HB8.out⟩
                          case round =>
                            clear HH8 HK8 HV8 HB8
                            obtain ⟨k, hk, rfl, rH, rK, rV, hbel⟩ := hrel
                            by_cases hlt7 : k < 8
                            · as_aux_lemma =>
                                have cH := rH.cell k (by rw [Sx.stepS_length hv _ k hk HL8.out hml]; exact hlt7)
                                rw [Sx.stepS_get hv _ k hlt7 HL8.out hml] at cH
                                have cV := rV.cell k (by omega)
                                have hf := rH.free k
                                have r' := rH.set k ((hv.getD k 0 + (Sx.mixed hv B).getD k 0) % Sx.M)
                                rw [Sx.stepS_set hv _ k hlt7 HL8.out hml] at r'
                                have rK' := rK.set_other ⟨bH, k, none⟩ (.int .i64 ((hv.getD k 0 + (Sx.mixed hv B).getD k 0) % Sx.M : Nat)) (by simp; omega)
                                have rV' := rV.set_other ⟨bH, k, none⟩ (.int .i64 ((hv.getD k 0 + (Sx.mixed hv B).getD k 0) % Sx.M : Nat)) (by simp; omega)
                                have hb' := hbel.setCell (p := ⟨bH, k, none⟩) hHw (.int .i64 ((hv.getD k 0 + (Sx.mixed hv B).getD k 0) % Sx.M : Nat))
                                have hx1 : hv.getD k 0 < 2 ^ 40 := by have := getD_lt (by decide) (runB_lt T n) k; rw [← EHV.out] at this; exact M_lt40 _ this
                                have hx2 : (Sx.mixed hv B).getD k 0 < 2 ^ 40 := by have := mixed_lt T n B k; rw [← EHV.out] at this; exact M_lt40 _ this
                                have s1 := sumI _ _ hx1 hx2
                                have q1 := modI (hv.getD k 0 + (Sx.mixed hv B).getD k 0)
                                have p1 := tmodI (hv.getD k 0 + (Sx.mixed hv B).getD k 0)
                                have R' := hid r'
                                have RK' := hid rK'
                                have RV' := hid rV'
                                have HB' := hid hb'
                                clear r' rK' rV' hb' rH rK rV hbel hx1 hx2
                                generalize (hv.getD k 0 + (Sx.mixed hv B).getD k 0) % Sx.M = z at *
                                generalize hv.getD k 0 + (Sx.mixed hv B).getD k 0 = xy at *
                                generalize hv.getD k 0 = x at *
                                generalize (Sx.mixed hv B).getD k 0 = y at *
                                go_wp2
                                go_roundw
                                case rel => exact ⟨k + 1, by omega, by go_num, R'.out, RK'.out, RV'.out, HB'.out⟩
                                case measure => simp [intOf]; omega
                            · obtain rfl : k = 8 := by omega
                              rw [Sx.stepS_full hv _ HL8.out hml] at rH
                              have hrun : Sx.addM hv (Sx.mixed hv B) = Sx.runB T (n + 1) := by rw [EHV.out, HBK2.out]; rfl
                              rw [hrun] at rH
                              have RH9 := hid rH
                              have RK9 := hid rK
                              have HB9 := hid hbel
                              clear rH rK rV hbel hrun hml
                              go_wp2
                              go_roundw
                              case rel => exact ⟨n + 1, by omega, by go_num, RH9.out, RK9.out, HB9.out⟩
                              case measure => simp [intOf]; omega
            · obtain rfl : n = m := by omega
              have hge : ¬ 64 * (n : Int) < (ST.size : Int) := by omega
              have hl8 := runB_length T n
              have hH3 := HRH.out.lt
              have HRH1 := hid (HRH.out.alloc (.cells #[] 5))
              have HB1 := hid (HBL.out.alloc HBL.out.size (.cells #[] 5))
              have HO1 := hid (show Own (wr.alloc (.cells #[] 5)) wr.heap.size (.slice (some ⟨wr.heap.size, 0, none⟩) 0 0) [] from
                ⟨rfl, Or.inr ⟨wr.heap.size, 0, _, rfl, Nat.le_refl _, heap_alloc_new _ _, Nat.zero_le _, by unfold maxLen; omega, rfl, rfl⟩⟩)
              have hw1 : wr.heap.size ≤ (wr.alloc (.cells #[] 5)).heap.size := by simp
              have hwb : w.heap.size ≤ wr.heap.size := HBL.out.size
              have HLT := hid (runB_lt T n)
              obtain ⟨R, hR⟩ : ∃ R, R = Sx.runB T n := ⟨_, rfl⟩
              rw [← hR] at hl8 HRH1 HLT HDG
              clear HRH HRK HBL hR
              go_upto_region 43 with (fail)
              clear hge
              generalize wr.alloc _ = w1 at *
              generalize wr.heap.size = bO at *
              go_loopw [29, 271] (fun v i wq => ∃ k : Nat, k ≤ 8 ∧ i = .int .i64 k ∧ Own wq bO v (Sx.out (R.take k)) ∧ Row wq bH .i64 3 R ∧ bO ≤ wq.heap.size ∧ Below w.heap.size w wq)
                (fun _ i _ => 8 - (intOf i).toNat)
              case atStart => exact ⟨0, by omega, rfl, HO1.out, HRH1.out, hw1, HB1.out⟩
              case round =>
                obtain ⟨k, hk, rfl, hown, rH, hO, hbel⟩ := hrel
                by_cases hlt8 : k < 8
                · as_aux_lemma =>
                    have cH := rH.cell k (by omega)
                    have hx := getD_lt (by decide) HLT.out k
                    have HTS := hid (out_take R k (by omega))
                    have HTL := hid (show (Sx.out (R.take k)).length = 4 * k from by rw [Sx.out_length]; simp; omega)
                    have HOWN := hid hown
                    have HR8 := hid rH
                    have HB8 := hid hbel
                    clear hown rH hbel
                    generalize R.getD k 0 = x at *
                    unfold Sx.M at hx
                    have d0 : (x : Int) / 16777216 = ((x / 16777216 : Nat) : Int) := by omega
                    have d1 : (x : Int) / 65536 % 256 = ((x / 65536 % 256 : Nat) : Int) := by omega
                    have d2 : (x : Int) / 256 % 256 = ((x / 256 % 256 : Nat) : Int) := by omega
                    have d3 : (x : Int) % 256 = ((x % 256 : Nat) : Int) := by omega
                    have l0 : x / 16777216 < 256 := by omega
                    have l1 : x / 65536 % 256 < 256 := by omega
                    have l2 : x / 256 % 256 < 256 := by omega
                    have l3 : x % 256 < 256 := by omega
                    have HB4 := hid (show Sx.bytes4 x = [x / 16777216, x / 65536 % 256, x / 256 % 256, x % 256] from rfl)
                    generalize x / 16777216 = x0 at *
                    generalize x / 65536 % 256 = x1 at *
                    generalize x / 256 % 256 = x2 at *
                    generalize x % 256 = x3 at *
                    have w0' := wrap_u8_nat x0 l0
                    have w1' := wrap_u8_nat x1 l1
                    have w2' := wrap_u8_nat x2 l2
                    have w3' := wrap_u8_nat x3 l3
                    go_wp2_with (refine wpList_app rfl _ _ rfl bO _ (Sx.out (R.take k)) rfl (HOWN.out.below ((Below.refl _ _).alloc (Nat.le_refl _) _)) _ 4 4 [x0, x1, x2, x3] rfl rfl (cells_four wr x0 x1 x2 x3 _) (by rw [HTL.out]; omega) (by simp; omega) ?_; intro v' w' hown' hbel')
                    go_roundw
                    case rel =>
                      rw [← HB4.out, HTS.out] at hown'
                      exact ⟨k + 1, by omega, by go_num, hown', (HR8.out.alloc _).below hbel' (by omega), Nat.le_trans (by simp; omega) hbel'.size, (HB8.out.alloc HB8.out.size _).trans (hbel'.mono hwb)⟩
                    case measure => simp [intOf]; omega
                · obtain rfl : k = 8 := by omega
                  have hc := run_ownstr hown
                  rw [List.take_of_length_le (by omega), ← HDG.out] at hc
                  have HB9 := hid hbel
                  clear hown rH hbel
                  go_wp2
                  go_ret
                  exact ⟨rfl, HB9.out⟩
    · as_aux_lemma =>
        have h56 : ((t.length + 1 + j : Nat) : Int) % 64 ≠ 56 := by have := mt hhit.1 hlt; omega
        clear hhit
        generalize str (t ++ 128 :: List.replicate j 0) = S1 at *
        have hs1 : (S1.size : Int) % 64 ≠ 56 := by rw [hsz]; exact h56
        go_wp2_with fail
        go_roundw
        case rel => exact ⟨by trivial, j + 1, by omega, by rw [HNX.out]⟩
        case measure => show 1000000100 - (S1 ++ (⟨#[0]⟩ : ByteArray)).size < 1000000100 - S1.size; rw [ByteArray.size_append, show (⟨#[0]⟩ : ByteArray).size = 1 from rfl]; omega
end Go.Proofs.YtabhdjahdhhgiaaDoor
