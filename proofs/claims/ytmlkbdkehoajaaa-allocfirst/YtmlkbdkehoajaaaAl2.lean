/-
  Layer 11: pages are turned: Index, Contains, turn, Mark, Give.
-/
import Derived.Test.YtmlkbdkehoajaaaAl1
namespace Go.Proofs.Ytmlkbdkehoajaaa
open Go.RowKit
open Go.Lib (hid)

namespace Al
/-- Is there a t among the C from F on? -/
def has_ (L : List Bool) (F C : Nat) (t : Bool) : Bool := ((L.drop F).take C).contains t
theorem has_no (L : List Bool) (F C : Nat) (t : Bool) (_h : F + C ≤ L.length) : has_ L F C t = false ↔ C ≤ run L F (!t) := by
  unfold has_
  rw [← Bool.not_eq_true, List.contains_iff_mem]
  constructor
  · intro hn
    rcases Nat.lt_or_ge (run L F (!t)) C with hlt | hge
    · exfalso
      have ho := run_out L F (!t)
      obtain ⟨x, hx⟩ : ∃ x, L[F + run L F (!t)]? = some x := ⟨_, List.getElem?_eq_getElem (by omega)⟩
      have hxt : x = t := by
        rw [hx] at ho
        cases x <;> cases t <;> simp_all
      apply hn
      rw [← hxt]
      refine List.mem_of_getElem? (i := run L F (!t)) ?_
      rw [List.getElem?_take_of_lt hlt, List.getElem?_drop, hx]
    · exact hge
  · intro hle hm
    obtain ⟨i, hi⟩ := List.mem_iff_getElem?.1 hm
    have hic : i < C := by
      rcases Nat.lt_or_ge i C with h | h
      · exact h
      · rw [List.getElem?_eq_none (by rw [List.length_take]; omega)] at hi; cases hi
    rw [List.getElem?_take_of_lt hic, List.getElem?_drop, run_has L F (!t) i (by omega)] at hi
    cases t <;> simp at hi
end Al

set_option maxHeartbeats 1000000 in
set_option maxRecDepth 100000 in
theorem index_any (g c F C cc : Nat) (L : List Bool) (t : Bool) (w : World) (h : BRow w g c L) (hF : F + C ≤ L.length) (hle : L.length ≤ 4096) :
    Calls Try.prog 33 #[.slice (some ⟨g, F, none⟩) C cc, .bool t] w fun e w' => (∃ i : Int, e = .returned (.int .i64 i) ∧ (decide (0 ≤ i) = Al.has_ L F C t)) ∧ ∃ q, w' = w.drewN q := by
  have HR := hid h
  have HHT := hid (show ∀ k, k < C → L.getD (F + k) false = t → Al.has_ L F C t = true from fun k hk e => by
    unfold Al.has_
    rw [List.contains_iff_mem]
    refine List.mem_of_getElem? (i := k) ?_
    rw [List.getElem?_take_of_lt hk, List.getElem?_drop, List.getElem?_eq_getElem (by omega), ← e, List.getD_eq_getElem?_getD, List.getElem?_eq_getElem (by omega)]
    rfl)
  have HHF := hid (show (∀ k, k < C → L.getD (F + k) false ≠ t) → Al.has_ L F C t = false from fun hn => by
    unfold Al.has_
    rw [← Bool.not_eq_true, List.contains_iff_mem]
    intro hm
    obtain ⟨i, hi⟩ := List.mem_iff_getElem?.1 hm
    have hic : i < C := by
      rcases Nat.lt_or_ge i C with h | h
      · exact h
      · rw [List.getElem?_eq_none (by rw [List.length_take]; omega)] at hi; cases hi
    rw [List.getElem?_take_of_lt hic, List.getElem?_drop] at hi
    exact hn i hic (by rw [List.getD_eq_getElem?_getD, hi]; rfl))
  clear h
  go_enter Try.func33, Try.ntmps33
  go_upto_region 2 with (fail)
  go_loopw [5, 8] (fun x i wr => (∃ q, wr = w.drewN q) ∧ ∃ k : Nat, k ≤ C ∧ i = .int .i64 k ∧ ∀ j, j < k → L.getD (F + j) false ≠ t)
    (fun _ i _ => C - (intOf i).toNat)
  case atStart => exact ⟨⟨0, rfl⟩, 0, by omega, rfl, fun j hj => absurd hj (by omega)⟩
  case round =>
    obtain ⟨⟨q, rfl⟩, k, hk, rfl, hno⟩ := hrel
    have HNO := hid hno
    clear hno
    by_cases hlt : k < C
    · have c0 : w.cell? ⟨g, F + k, none⟩ = _ := HR.out.cell (F + k) (by omega)
      have HT := hid (HHT.out k hlt)
      have HN2 := hid (show L.getD (F + k) false ≠ t → ∀ j, j < k + 1 → L.getD (F + j) false ≠ t from fun h j hj => by
        by_cases hjk : j < k
        · exact HNO.out j hjk
        · obtain rfl : j = k := by omega
          exact h)
      generalize L.getD (F + k) false = y at *
      by_cases hy : y = t
      · have HTT := hid (HT.out hy)
        subst hy
        have hyy : (y == y) = true := beq_self_eq_true y
        clear HNO HT HN2
        go_wp2
        go_ret
        exact ⟨⟨_, rfl, by rw [HTT.out]; simp⟩, q, rfl⟩
      · have HN3 := hid (HN2.out hy)
        have hyy : (t == y) = false := by rw [beq_eq_false_iff_ne]; exact fun e => hy e.symm
        clear HNO HT HN2 hy
        go_wp2
        exact ⟨⟨⟨q, rfl⟩, k + 1, by omega, by go_num, HN3.out⟩, by simp [intOf]; omega⟩
    · obtain rfl : k = C := by omega
      have HE := hid (HHF.out HNO.out)
      go_wp2
      go_ret
      exact ⟨⟨_, rfl, by rw [HE.out]; rfl⟩, q, rfl⟩

set_option maxHeartbeats 1000000 in
set_option maxRecDepth 100000 in
theorem contains_any (g c F C cc : Nat) (L : List Bool) (t : Bool) (w : World) (h : BRow w g c L) (hF : F + C ≤ L.length) (hle : L.length ≤ 4096) :
    Calls Try.prog 31 #[.slice (some ⟨g, F, none⟩) C cc, .bool t] w fun e w' => e = .returned (.bool (Al.has_ L F C t)) ∧ Below w.heap.size w w' := by
  have HI := hid (index_any g c F C cc L t w h hF hle)
  clear h
  go_enter Try.func31, Try.ntmps31
  go_wp2_with fail
  refine HI.out.mono ?_
  rintro e w1 ⟨⟨i, rfl, hi⟩, q, hw⟩
  have HHI := hid hi
  have HW := hid (show Below w.heap.size w w1 from by rw [hw]; exact ⟨rfl, rfl, rfl, Nat.le_refl _, fun _ _ => rfl⟩)
  clear hi hw
  go_wp2
  go_ret
  exact ⟨by rw [← HHI.out]; rfl, HW.out⟩

set_option maxHeartbeats 2000000 in
set_option maxRecDepth 100000 in
theorem turn_any (b g c : Nat) (L : List Bool) (F C : Int) (hF : F ≤ 9223372036854775807) (t : Bool) (w : World) (h : MapAt w b g c L) :
    Calls Try.prog 26 #[.pointer (some ⟨b, 0, none⟩), .agg #[.int .i64 F, .int .i64 C], .bool t] w fun e w' => e = .returned (.bool (Al.ch L F C t)) ∧ MapAt w' b g c (Al.after L F C t) ∧ KeptB g w w' := by
  have HM := hid h
  have HH := hid (fun wx hx => has_any b g c L F C hF wx hx)
  have HCH : Hid (Al.ch L F C t = (Al.fits L.length F C && decide (C ≤ (Al.run L F.toNat (!t) : Int)))) := rfl
  have HAF : Hid (Al.after L F C t = if Al.ch L F C t = true then Al.setN L F.toNat t C.toNat else L) := rfl
  have hle := h.le
  have HM1 := hid (h.below ((Below.refl w.heap.size w).alloc (Nat.le_refl _) (.cells #[.int .i64 F, .int .i64 C] 40)))
  have HB1 := hid ((Below.refl w.heap.size w).alloc (Nat.le_refl _) (.cells #[.int .i64 F, .int .i64 C] 40))
  have HX1 := hid (heap_alloc_new w (.cells #[.int .i64 F, .int .i64 C] 40))
  clear h HM
  generalize hch : Al.ch L F C t = q at *
  generalize haf : Al.after L F C t = L2 at *
  clear hch haf
  cases hf : Al.fits L.length F C with
  | false =>
    rw [hf] at HH HCH
    clear hf
    go_enter Try.func26, Try.ntmps26
    go_wp2_with (go_at_call 29; refine (HH.out _ HM1.out).mono ?_; rintro e w1 ⟨rfl, hb1⟩)
    go_ret
    have hq : q = false := by rw [HCH.out]; rfl
    have h2 : L2 = L := by rw [HAF.out, hq]; rfl
    exact ⟨by rw [hq]; rfl, by rw [h2]; exact HM1.out.below hb1, KeptB.of_below (HB1.out.trans (hb1.mono HB1.out.size))⟩
  | true =>
    rw [hf, Bool.true_and] at HCH
    rw [hf] at HH
    obtain ⟨h1, h0, h2⟩ := (Al.fits_iff _ _ _).1 hf
    obtain ⟨f, rfl⟩ : ∃ f : Nat, F = (f : Int) := ⟨F.toNat, by omega⟩
    obtain ⟨n, rfl⟩ : ∃ n : Nat, C = (n : Int) := ⟨C.toNat, by omega⟩
    rw [Int.toNat_natCast] at HCH HAF
    rw [Int.toNat_natCast] at HAF
    have hfn : f + n ≤ L.length := by omega
    have hn1 : 1 ≤ n := by omega
    clear hf h1 h0 h2
    go_enter Try.func26, Try.ntmps26
    go_wp2_with fail
    refine (HH.out _ HM1.out).mono ?_
    rintro e w1 ⟨rfl, hb1⟩
    have HM2 := hid (HM1.out.below hb1)
    have HB2 := hid (HB1.out.trans (hb1.mono HB1.out.size))
    have hx2 : w1.heap[w.heap.size]? = _ := (hb1.block w.heap.size (Array.getElem?_eq_some_iff.1 HX1.out).1).trans HX1.out
    have x0 : w1.cell? ⟨w.heap.size, 0, none⟩ = some (.int .i64 (f : Int)) := by rw [Lib.cell_of_heap hx2]; rfl
    have x1 : w1.cell? ⟨w.heap.size, 1, none⟩ = some (.int .i64 (n : Int)) := by rw [Lib.cell_of_heap hx2]; rfl
    have m0 := HM2.out.cell
    have hcc := HM2.out.row.cap
    clear hb1 hx2 HX1 HM1 HB1 HH
    have hfi : (f : Int) ≤ (f : Int) + (n : Int) := by omega
    have hfc : (f : Int) + (n : Int) ≤ (c : Int) := by omega
    have hcf : ¬ c = f := by omega
    have hfnf : f + n - f = n := by omega
    go_upto_region 3 with (fail)
    go_quiet (fail)
    have HB3 := hid (show Below w.heap.size w (w1.drewN nq) from HB2.out.trans ⟨rfl, rfl, rfl, Nat.le_refl _, fun _ _ => rfl⟩)
    have HM3 := hid (show MapAt (w1.drewN nq) b g c L from HM2.out.below ⟨rfl, rfl, rfl, Nat.le_refl _, fun _ _ => rfl⟩)
    clear HM2 HB2 x0 x1 m0
    generalize w1.drewN nq = w2 at *
    go_wp2_with fail
    refine (contains_any g c f n (c - f) L t w2 HM3.out.row hfn hle).mono ?_
    rintro e w3 ⟨rfl, hb3⟩
    have HB4 := hid (HB3.out.trans (hb3.mono HB3.out.size))
    have HM4 := hid (HM3.out.below hb3)
    clear hb3 HM3 HB3
    have hno := Al.has_no L f n t hfn
    cases hh : Al.has_ L f n t with
    | true =>
      have hq : q = false := by
        rw [HCH.out]
        refine decide_eq_false fun e => ?_
        have := hno.2 (by omega)
        rw [hh] at this
        cases this
      have HQ := hid hq
      have H2 := hid (show L2 = L from by rw [HAF.out, hq]; rfl)
      clear hno hh hq
      go_wp2
      go_ret
      exact ⟨by rw [HQ.out]; rfl, by rw [H2.out]; exact HM4.out, KeptB.of_below HB4.out⟩
    | false =>
      have hq : q = true := by
        rw [HCH.out]
        refine decide_eq_true ?_
        have := hno.1 hh
        omega
      have HQ := hid hq
      have H2 := hid (show L2 = Al.setN L f t n from by rw [HAF.out, hq]; rfl)
      have HK4 := hid (show KeptB g w w3 from KeptB.of_below HB4.out)
      clear hno hh hq HCH HAF HB4
      go_upto_region 7 with (fail)
      go_loopw [8, 30] (fun x i wr => ∃ k : Nat, k ≤ n ∧ i = .int .i64 k ∧ MapAt wr b g c (Al.setN L f t k) ∧ KeptB g w wr)
        (fun _ i _ => n - (intOf i).toNat)
      case atStart => exact ⟨0, by omega, rfl, HM4.out, HK4.out⟩
      case round =>
        clear HM4 HK4
        obtain ⟨k, hk, rfl, hm, hkp⟩ := hrel
        have HM := hid hm
        have HK := hid hkp
        by_cases hlt : k < n
        · have c0 := hm.row.cell (f + k) (by rw [Al.setN_length]; omega)
          have f0 := hm.row.free (f + k)
          have HR := hid (show MapAt (wr.setCell ⟨g, f + k, none⟩ (.bool t)) b g c (Al.setN L f t (k + 1)) from
            ⟨by rw [heap_setCell_other wr ⟨g, f + k, none⟩ b _ hm.ne, Al.setN_length]; have := hm.ptr; rwa [Al.setN_length] at this,
              hm.row.set (f + k) (by rw [Al.setN_length]; omega) t, by rw [Al.setN_length]; have := hm.pos; rwa [Al.setN_length] at this, by rw [Al.setN_length]; exact hle⟩)
          have HK2 := hid (hkp.setCell (o := f + k) (.bool t))
          clear hm hkp
          go_wp2
          exact ⟨⟨k + 1, by omega, by go_num, HR.out, HK2.out⟩, by simp [intOf]; omega⟩
        · obtain rfl : k = n := by omega
          clear hm hkp
          go_wp2
          go_ret
          exact ⟨by rw [HQ.out]; rfl, by rw [H2.out]; exact HM.out, HK.out⟩

set_option maxHeartbeats 1000000 in
set_option maxRecDepth 100000 in
theorem mark_any (b g c : Nat) (L : List Bool) (F C : Int) (hF : F ≤ 9223372036854775807) (w : World) (h : MapAt w b g c L) :
    Calls Try.prog 17 #[.pointer (some ⟨b, 0, none⟩), .agg #[.int .i64 F, .int .i64 C]] w fun e w' => e = .returned (.bool (Al.ch L F C true)) ∧ MapAt w' b g c (Al.after L F C true) ∧ KeptB g w w' := by
  obtain ⟨tt, htt⟩ : ∃ tt, tt = true := ⟨_, rfl⟩
  rw [← htt]
  have HT := hid (fun wx hx => turn_any b g c L F C hF tt wx hx)
  have HM1 := hid (h.below ((Below.refl w.heap.size w).alloc (Nat.le_refl _) (.cells #[.int .i64 F, .int .i64 C] 40)))
  have HB1 := hid ((Below.refl w.heap.size w).alloc (Nat.le_refl _) (.cells #[.int .i64 F, .int .i64 C] 40))
  clear h
  generalize Al.after L F C tt = L2 at *
  generalize Al.ch L F C tt = q at *
  subst htt
  go_enter Try.func17, Try.ntmps17
  go_wp2_with fail
  refine (HT.out _ HM1.out).mono ?_
  rintro e w1 ⟨rfl, hm1, hk1⟩
  go_wp2
  go_ret
  exact ⟨rfl, hm1, (KeptB.of_below HB1.out).trans hk1⟩

set_option maxHeartbeats 1000000 in
set_option maxRecDepth 100000 in
theorem give_any (b g c : Nat) (L : List Bool) (F C : Int) (hF : F ≤ 9223372036854775807) (w : World) (h : MapAt w b g c L) :
    Calls Try.prog 15 #[.pointer (some ⟨b, 0, none⟩), .agg #[.int .i64 F, .int .i64 C]] w fun e w' => e = .returned (.bool (Al.ch L F C false)) ∧ MapAt w' b g c (Al.after L F C false) ∧ KeptB g w w' := by
  obtain ⟨tt, htt⟩ : ∃ tt, tt = false := ⟨_, rfl⟩
  rw [← htt]
  have HT := hid (fun wx hx => turn_any b g c L F C hF tt wx hx)
  have HM1 := hid (h.below ((Below.refl w.heap.size w).alloc (Nat.le_refl _) (.cells #[.int .i64 F, .int .i64 C] 40)))
  have HB1 := hid ((Below.refl w.heap.size w).alloc (Nat.le_refl _) (.cells #[.int .i64 F, .int .i64 C] 40))
  clear h
  generalize Al.after L F C tt = L2 at *
  generalize Al.ch L F C tt = q at *
  subst htt
  go_enter Try.func15, Try.ntmps15
  go_wp2_with fail
  refine (HT.out _ HM1.out).mono ?_
  rintro e w1 ⟨rfl, hm1, hk1⟩
  go_wp2
  go_ret
  exact ⟨rfl, hm1, (KeptB.of_below HB1.out).trans hk1⟩
end Go.Proofs.Ytmlkbdkehoajaaa
