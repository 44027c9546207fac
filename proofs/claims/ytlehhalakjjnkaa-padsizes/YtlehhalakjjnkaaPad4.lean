/-
  Layer 12: what the reference's Pack and Unpack return.
-/
import Derived.Test.YtlehhalakjjnkaaPad3
import Derived.Test.YtlehhalakjjnkaaRef6b
namespace Go.Proofs.Ytlehhalakjjnkaa
open Go.RowKit
open Go.Lib (hid)

theorem OwnS.empty0 (w : World) (base : Nat) (hb : base ≤ w.heap.size) : OwnS (w.alloc (.cells #[] 9)) base (.slice (some ⟨w.heap.size, 0, none⟩) 0 0) [] :=
  ⟨rfl, Or.inr ⟨w.heap.size, 0, #[], rfl, hb, heap_alloc_new _ _, Nat.le_refl _, by unfold maxLen; omega, rfl, rfl⟩⟩
theorem Pd.fix_cut (s : List Nat) (k : Nat) : Wx.fix (s.take k) k = Wx.fix s k := by
  unfold Wx.fix
  rw [List.take_take, Nat.min_self, List.length_take]
  congr 2
  omega

set_option maxHeartbeats 2000000 in
set_option maxRecDepth 100000 in
theorem rpack_any (t : List Nat) (tb : ∀ x ∈ t, x < 256) (tl : t.length ≤ 900000) (w : World) :
    Calls Try.prog 10 #[.string (str t)] w fun e w' => ∃ v, e = .returned v ∧ OwnS w' w.heap.size v (Pd.pages t) ∧ Below w.heap.size w w' := by
  have hz := str_size t
  have HCL := hid (fun wx => rclass_any (t.length : Int) wx)
  have HTX := hid (fun wx => rtext_any t (by omega) wx)
  rw [show Wx.num8 t.length ++ t = Pd.all t from rfl] at HTX
  have hc32 := Pd.cls_le t.length
  have hal := Pd.all_length t
  have HAB := hid (Pd.all_lt t tb)
  have HPN := hid (Pd.pagesN_succ t)
  have HPL := hid (Pd.pagesN_length t)
  have HPP : Hid (∀ i, Pd.page t i = Wx.fix ((Pd.all t).drop (240 * i)) 240) := fun i => rfl
  have HPG := hid (show Pd.pages t = Pd.pagesN t (Pd.cls t.length) from rfl)
  rw [HPG.out]
  have hzA := str_size (Pd.all t)
  have hal' : (Pd.all t).length ≤ 900008 := by omega
  clear tb HPG hal
  generalize Pd.all t = A at *
  generalize Pd.cls t.length = c at *
  generalize str t = S at *
  generalize hSA : str A = SA at *
  have HSA := hid hSA
  clear hSA
  go_enter Try.func10, Try.ntmps10
  go_upto_region 2 with (fail)
  have HB1 := hid ((Below.refl w.heap.size w).alloc (Nat.le_refl _) (.cells #[] 9))
  have HO1 := hid (OwnS.empty0 w w.heap.size (Nat.le_refl _))
  generalize w.alloc _ = w1 at *
  go_wp2_with fail
  refine (HTX.out _).mono ?_
  rintro e w2 ⟨rfl, hb2⟩
  have HB2 := hid (HB1.out.trans (hb2.mono HB1.out.size))
  have HO2 := hid (HO1.out.below hb2)
  clear hb2 HB1 HO1 HTX
  go_upto_region 4 with (fail)
  go_loopw [3, 5, 6] (fun v i p wr => ∃ k : Nat, k ≤ c ∧ i = .int .i64 k ∧ OwnS wr w.heap.size v (Pd.pagesN t k) ∧ Below w.heap.size w wr)
    (fun _ i _ _ => c - (intOf i).toNat)
  case atStart => exact ⟨0, by omega, rfl, HO2.out, HB2.out⟩
  case round =>
    clear HO2 HB2
    obtain ⟨k, hk, rfl, hown, hbel⟩ := hrel
    go_wp2_with fail
    refine (HCL.out _).mono ?_
    rintro e w3 ⟨rfl, hb3⟩
    have HOWN := hid (hown.below hb3)
    have HBEL := hid (hbel.trans (hb3.mono hbel.size))
    have hsz := HBEL.out.size
    clear hown hbel hb3
    by_cases hlt : k < c
    · obtain ⟨a, ha⟩ : ∃ a, a = 240 * k := ⟨_, rfl⟩
      have hai : 240 * (k : Int) = (a : Int) := by omega
      have hal2 : a ≤ 7680 := by omega
      have HAK := hid ha
      clear ha
      by_cases hin : a < A.length
      · obtain ⟨n, hn⟩ : ∃ n, n = min 240 (A.length - a) := ⟨_, rfl⟩
        obtain ⟨b, hb⟩ : ∃ b, b = a + n := ⟨_, rfl⟩
        have hmn : min (A.length : Int) ((a : Int) + 240) = (b : Int) := by omega
        have hex := extract_mid A HAB.out a n
        rw [HSA.out, ← hb] at hex
        have hini : (a : Int) < (A.length : Int) := by omega
        have hle2 : b ≤ A.length := by omega
        have hab : a ≤ b := by omega
        have hPb : ∀ x ∈ (A.drop a).take n, x < 256 := fun x hx => HAB.out x (List.mem_of_mem_drop (List.mem_of_mem_take hx))
        have hPl : ((A.drop a).take n).length ≤ 1000000 := by rw [List.length_take]; omega
        have HPF := hid (show Wx.fix ((A.drop a).take n) 240 = Pd.page t k from by
          rw [HPP.out, ← HAK.out, ← Pd.fix_cut (A.drop a)]
          congr 1
          by_cases h : 240 ≤ A.length - a
          · rw [show n = 240 from by omega]
          · rw [List.take_of_length_le (by rw [List.length_drop]; omega), List.take_of_length_le (by rw [List.length_drop]; omega)])
        clear hn hb
        generalize (A.drop a).take n = P at *
        have HRF := hid (fun wx => rfixed_any P hPb hPl 240 240 (by omega) wx)
        rw [HPF.out] at HRF
        have HOW7 := hid (HOWN.out.below ((Below.refl w3.heap.size w3).alloc (Nat.le_refl _) (.cells #[.string (str (Pd.page t k))] 9)))
        have HB7 := hid (HBEL.out.alloc hsz (.cells #[.string (str (Pd.page t k))] 9))
        have HC7 := hid (cell_str_new w3 (Pd.page t k) 9)
        have HS7 := hid HB7.out.size
        generalize hSP : str P = SP at *
        clear hPb hPl HPF HOWN HBEL hsz
        go_wp2_with fail
        refine (HRF.out _).mono ?_
        rintro e w4 ⟨rfl, hw4⟩
        obtain rfl : w3 = w4 := hw4.symm
        go_wp2_with (refine wpList_appS rfl _ _ rfl w.heap.size _ (Pd.pagesN t k) rfl HOW7.out _ (Pd.page t k) rfl HC7.out (by rw [HPL.out]; omega) HS7.out ?_; intro v' w' hown' hbel')
        go_roundw
        case rel =>
          rw [HPN.out] at hown'
          first
            | exact ⟨k + 1, by omega, by go_num, hown', HB7.out.trans hbel'⟩
            | ((repeat apply Exists.intro); refine ⟨?_, rfl⟩; exact ⟨k + 1, by omega, by go_num, hown', HB7.out.trans hbel'⟩)
        case measure => simp [intOf]; omega
      · have hPb : ∀ x ∈ ([] : List Nat), x < 256 := by simp
        have hPl : ([] : List Nat).length ≤ 1000000 := by simp
        have HPF := hid (show Wx.fix [] 240 = Pd.page t k from by
          rw [HPP.out, ← HAK.out, List.drop_eq_nil_of_le (by omega)])
        have hini : ¬ (a : Int) < (A.length : Int) := by omega
        have he : str [] = ⟨#[]⟩ := rfl
        generalize hP : ([] : List Nat) = P at hPb hPl HPF he
        clear hP
        have HRF := hid (fun wx => rfixed_any P hPb hPl 240 240 (by omega) wx)
        rw [HPF.out] at HRF
        have HOW7 := hid (HOWN.out.below ((Below.refl w3.heap.size w3).alloc (Nat.le_refl _) (.cells #[.string (str (Pd.page t k))] 9)))
        have HB7 := hid (HBEL.out.alloc hsz (.cells #[.string (str (Pd.page t k))] 9))
        have HC7 := hid (cell_str_new w3 (Pd.page t k) 9)
        have HS7 := hid HB7.out.size
        generalize hSP : str P = SP at *
        clear hPb hPl HPF HOWN HBEL hsz
        subst he
        go_wp2_with fail
        refine (HRF.out _).mono ?_
        rintro e w4 ⟨rfl, hw4⟩
        obtain rfl : w3 = w4 := hw4.symm
        go_wp2_with (refine wpList_appS rfl _ _ rfl w.heap.size _ (Pd.pagesN t k) rfl HOW7.out _ (Pd.page t k) rfl HC7.out (by rw [HPL.out]; omega) HS7.out ?_; intro v' w' hown' hbel')
        go_roundw
        case rel =>
          rw [HPN.out] at hown'
          first
            | exact ⟨k + 1, by omega, by go_num, hown', HB7.out.trans hbel'⟩
            | ((repeat apply Exists.intro); refine ⟨?_, rfl⟩; exact ⟨k + 1, by omega, by go_num, hown', HB7.out.trans hbel'⟩)
        case measure => simp [intOf]; omega
    · obtain rfl : k = c := by omega
      go_wp2
      go_ret
      exact ⟨_, rfl, HOWN.out, HBEL.out⟩
end Go.Proofs.Ytlehhalakjjnkaa
