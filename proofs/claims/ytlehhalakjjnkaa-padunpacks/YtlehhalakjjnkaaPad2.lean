/-
  Layer 12: what Pack returns.
-/
import Derived.Test.YtlehhalakjjnkaaPad1
namespace Go.Proofs.Ytlehhalakjjnkaa
open Go.RowKit
open Go.Lib (hid)

/-- No text yet, room for n. -/
theorem run_madeS0 (n : Nat) (hn : n ≤ 1000000) (w : World) : (Instr.makeSlice 24 (.int .i64 0) (.int .i64 (n : Int))).run Try.prog w = .ok (.slice (some ⟨w.heap.size, 0, none⟩) 0 n) (w.alloc (.cells (madeCells #[.string ByteArray.empty] n) 9)) := by
  obtain ⟨i, hi, hz0, hz1, hz2⟩ := info_parts info9
  have h := run_make (P := Try.prog) w 24 9 i (.string ByteArray.empty) Try.underlying24 hi hz0 .i64 .i64 0 n (by omega) (by omega) (by rw [hz2]; omega) (by omega)
  rw [h, hz1]
  simp only [Int.toNat_natCast, Nat.mul_one]
  rfl
theorem OwnS.made (w : World) (base n : Nat) (hb : base ≤ w.heap.size) (hn : n ≤ 1000000) : OwnS (w.alloc (.cells (madeCells #[.string ByteArray.empty] n) 9)) base (.slice (some ⟨w.heap.size, 0, none⟩) 0 n) [] :=
  ⟨rfl, Or.inr ⟨w.heap.size, n, _, rfl, hb, heap_alloc_new _ _, Nat.zero_le _, by unfold maxLen; omega, by rw [size_madeCells]; simp, rfl⟩⟩
theorem cell_str_new (w : World) (x : List Nat) (t : TypeId) : (w.alloc (.cells #[.string (str x)] t)).cell? ((⟨w.heap.size, 0, none⟩ : Addr).add 0) = some (.string (str x)) := by
  rw [Addr.add_mid, cell_of_row _ _ _ _ _ _ (heap_alloc_new _ _)]; rfl
theorem ext_rest (s : List Nat) (hs : ∀ x ∈ s, x < 256) (m : Nat) (hm : m ≤ s.length) : (str s).extract m s.length = str (s.drop m) := by
  have := extract_mid s hs m (s.length - m)
  rwa [show m + (s.length - m) = s.length from by omega, List.take_of_length_le (by simp)] at this

set_option maxHeartbeats 2000000 in
set_option maxRecDepth 100000 in
theorem pack_any (t : List Nat) (tb : ∀ x ∈ t, x < 256) (tl : t.length ≤ 900000) (w : World) :
    Calls Try.prog 9 #[.string (str t)] w fun e w' => ∃ v, e = .returned (.tuple #[v, .bool (decide (0 < Pd.cls t.length))]) ∧ OwnS w' w.heap.size v (Pd.pages t) ∧ Below w.heap.size w w' := by
  have hz := str_size t
  have HCL := hid (fun wx => class_any (t.length : Int) wx)
  have HPG := hid (show Pd.pages t = Pd.pagesN t (Pd.cls t.length) from rfl)
  have hc32 := Pd.cls_le t.length
  have HFT := hid (Pd.cls_fits t.length)
  by_cases hc0 : Pd.cls t.length = 0
  · rw [hc0] at HCL HPG
    have hd0 : decide (0 < Pd.cls t.length) = false := by rw [hc0]; rfl
    rw [hd0]
    clear hd0
    rw [show Pd.pagesN t 0 = [] from rfl] at HPG
    rw [HPG.out]
    clear hc0 HFT HPG
    generalize str t = S at *
    go_enter Try.func9, Try.ntmps9
    go_wp2_with (go_at_call 11; refine (HCL.out _).mono ?_; rintro e w1 ⟨rfl, hw1⟩; obtain rfl : w = w1 := hw1.symm)
    go_ret2
    exact ⟨_, rfl, OwnS.nil _ _, Below.refl _ _⟩
  · have hd1 : decide (0 < Pd.cls t.length) = true := by simp; omega
    rw [hd1] at HCL ⊢
    clear hd1
    rw [HPG.out]
    have HT := hid (fun o wb wx hx hy => otext_any o [] (some ⟨wb, 0, none⟩) 1 [t] wx hx hy (by simp) (by simp; omega) (by simp))
    rw [show [t].length = 1 from rfl, show [] ++ Wx.texts [t] = Pd.all t from by simp [Wx.texts, Pd.all]] at HT
    have hal := Pd.all_length t
    have HAB := hid (Pd.all_lt t tb)
    have HBY := hid (fun o wx hx => obytes_any o (Pd.all t) wx hx HAB.out (by omega))
    have HPB := hid (Pd.page_lt t tb)
    have HPN := hid (Pd.pagesN_succ t)
    have HPL := hid (Pd.pagesN_length t)
    have HPP : Hid (∀ i, Pd.page t i = Wx.fix ((Pd.all t).drop (240 * i)) 240) := fun i => rfl
    have HPW := hid (Pd.page_length t)
    have HST := hid (fun wx => strs_one wx t 9)
    clear tb
    generalize Pd.all t = A at *
    generalize hcc : Pd.cls t.length = c at *
    clear hcc HPG HFT hc0
    generalize str t = S at *
    have hmk := fun wx => run_madeS0 c (by omega) wx
    go_enter Try.func9, Try.ntmps9
    go_upto_region 4 with (go_at_call 11; refine (HCL.out _).mono ?_; rintro e w1 ⟨rfl, hw1⟩; obtain rfl : w = w1 := hw1.symm)
    have HO1 := hid ((OutAt.zero w).below ((Below.refl _ (w.alloc (.cells #[.pointer none, .int .i64 0] 43))).alloc (Nat.le_refl _) (.cells #[.string S] 9)))
    have HS1 := hid (HST.out (w.alloc (.cells #[.pointer none, .int .i64 0] 43)))
    rw [show (w.alloc (.cells #[.pointer none, .int .i64 0] 43)).heap.size = w.heap.size + 1 from by simp] at HS1
    have HB1 := hid (((Below.refl w.heap.size w).alloc (Nat.le_refl _) (.cells #[.pointer none, .int .i64 0] 43)).alloc (by simp) (.cells #[.string S] 9))
    go_wp2_with fail
    refine (HT.out _ _ _ HO1.out HS1.out).mono ?_
    rintro e w2 ⟨rfl, ho2, hk2⟩
    go_wp2_with fail
    refine (HBY.out _ _ ho2).mono ?_
    rintro e w3 ⟨rfl, hb3⟩
    have HB3 := hid (show Below w.heap.size w w3 from by
      have b2 := HB1.out.trans (hk2.below (Nat.le_refl _) HB1.out.size)
      exact b2.trans (hb3.mono b2.size))
    clear hb3 hk2 ho2 HO1 HS1 HB1 HT HBY HST HCL
    go_upto_region 6 with (fail)
    have HB4 := hid (HB3.out.alloc HB3.out.size (.cells (madeCells #[.string ByteArray.empty] c) 9))
    have HOW := hid (OwnS.made w3 w.heap.size c HB3.out.size (by omega))
    clear hmk HB3
    generalize w3.alloc _ = w4 at *
    go_upto_region 7 with (fail)
    go_loopw [6, 7, 24] (fun l v i wr => ∃ k : Nat, k ≤ c ∧ i = .int .i64 k ∧ l = .string (str (A.drop (240 * k))) ∧ OwnS wr w.heap.size v (Pd.pagesN t k) ∧ Below w.heap.size w wr)
      (fun _ _ i _ => c - (intOf i).toNat)
    case atStart => exact ⟨0, by omega, rfl, by rw [Nat.mul_zero, List.drop_zero], HOW.out, HB4.out⟩
    case round =>
      clear HOW HB4
      obtain ⟨k, hk, rfl, rfl, hown, hbel⟩ := hrel
      have HOWN := hid hown
      have HBEL := hid hbel
      have hsz := hbel.size
      clear hown hbel
      by_cases hlt : k < c
      · have hsb : ∀ x ∈ A.drop (240 * k), x < 256 := fun x hx => HAB.out x (List.mem_of_mem_drop hx)
        have hsl : (A.drop (240 * k)).length ≤ 1000000 := by rw [List.length_drop]; omega
        have HFX := hid (fun o wx hx => ofixed_any o [] (A.drop (240 * k)) 240 240 wx hx hsb hsl (by omega) (by simp))
        rw [List.nil_append, ← HPP.out k] at HFX
        have HBP := hid (fun o wx hx => obytes_any o (Pd.page t k) wx hx (HPB.out k) (by rw [HPW.out]; omega))
        have hzs := str_size (A.drop (240 * k))
        obtain ⟨m, hm⟩ : ∃ m : Nat, min (240 : Int) ((A.drop (240 * k)).length : Int) = (m : Int) := ⟨min 240 (A.drop (240 * k)).length, by omega⟩
        have hml : m ≤ (A.drop (240 * k)).length := by omega
        have hex := ext_rest (A.drop (240 * k)) hsb m hml
        have HDR := hid (show (A.drop (240 * k)).drop m = A.drop (240 * (k + 1)) from by
          rw [List.drop_drop]
          by_cases h240 : 240 ≤ (A.drop (240 * k)).length
          · rw [show m = 240 from by omega]
            rfl
          · rw [List.length_drop] at h240 hm
            rw [List.drop_eq_nil_of_le (show A.length ≤ 240 * k + m by omega), List.drop_eq_nil_of_le (show A.length ≤ 240 * (k + 1) by omega)])
        rw [HDR.out] at hex
        clear hsb hsl HDR
        generalize A.drop (240 * k) = s at *
        generalize hS2 : str (A.drop (240 * (k + 1))) = S2 at *
        have HS2 := hid hS2
        clear hS2
        generalize str s = SS at *
        have hle : (m : Int) ≤ (s.length : Int) := by omega
        have HO := hid (OutAt.zero wr)
        have HB5 := hid ((Below.refl wr.heap.size wr).alloc (Nat.le_refl _) (.cells #[.pointer none, .int .i64 0] 43))
        go_wp2_with fail
        refine (HFX.out _ _ HO.out).mono ?_
        rintro e w5 ⟨rfl, ho5, hk5⟩
        go_wp2_with fail
        refine (HBP.out _ _ ho5).mono ?_
        rintro e w6 ⟨rfl, hb6⟩
        have HB6 := hid (show Below wr.heap.size wr w6 from by
          have b5 := HB5.out.trans (hk5.below (Nat.le_refl _) HB5.out.size)
          exact b5.trans (hb6.mono b5.size))
        have HOW7 := hid ((HOWN.out.below HB6.out).below ((Below.refl w6.heap.size w6).alloc (Nat.le_refl _) (.cells #[.string (str (Pd.page t k))] 9)))
        have HB7 := hid ((HBEL.out.trans (HB6.out.mono hsz)).alloc (Nat.le_trans hsz HB6.out.size) (.cells #[.string (str (Pd.page t k))] 9))
        have HC7 := hid (cell_str_new w6 (Pd.page t k) 9)
        have HS7 := hid HB7.out.size
        clear hb6 hk5 ho5 HO HB5 HB6 HFX HBP HOWN HBEL hsz
        go_wp2_with (refine wpList_appS rfl _ _ rfl w.heap.size _ (Pd.pagesN t k) rfl HOW7.out _ (Pd.page t k) rfl HC7.out (by rw [HPL.out]; omega) HS7.out ?_; intro v' w' hown' hbel')
        go_roundw
        case rel =>
          rw [HPN.out] at hown'
          first
            | exact ⟨k + 1, by omega, by go_num, by rw [HS2.out], hown', HB7.out.trans hbel'⟩
            | ((repeat apply Exists.intro); refine ⟨?_, rfl⟩; exact ⟨k + 1, by omega, by go_num, by rw [HS2.out], hown', HB7.out.trans hbel'⟩)
        case measure => simp [intOf]; omega
      · obtain rfl : k = c := by omega
        go_wp2
        go_ret2
        exact ⟨_, rfl, HOWN.out, HBEL.out⟩
end Go.Proofs.Ytlehhalakjjnkaa
