/-
  Layer 11: what the reference's functions return.
-/
import Derived.Test.YtmlkbdkehoajaaaAl7
namespace Go.Proofs.Ytmlkbdkehoajaaa
open Go.RowKit
open Go.Lib (hid)

set_option maxHeartbeats 1000000 in
set_option maxRecDepth 100000 in
theorem rnew_any (n : Int) (k : Nat) (hk : max 1 (min n 4096) = (k : Int)) (w : World) :
    Calls Try.prog 9 #[.int .i64 n] w fun e w' => ∃ g, e = .returned (.slice (some ⟨g, 0, none⟩) k k) ∧ BRow w' g k (List.replicate k false) ∧ w.heap.size ≤ g ∧ Below w.heap.size w w' := by
  have hk1 : 1 ≤ k ∧ k ≤ 4096 := by omega
  obtain ⟨m, hm⟩ : ∃ m : Int, min n 4096 = m := ⟨_, rfl⟩
  rw [hm] at hk
  have hmk := fun wx => run_mkB k (by omega) wx
  go_enter Try.func9, Try.ntmps9
  go_wp2
  go_ret
  exact ⟨w.heap.size, rfl, ⟨[], by rw [heap_alloc_new, madeB], by simp⟩, Nat.le_refl _, (Below.refl _ _).alloc (Nat.le_refl _) _⟩

set_option maxHeartbeats 1000000 in
set_option maxRecDepth 100000 in
theorem run_any (g c : Nat) (L : List Bool) (p : Nat) (hp : p ≤ 4096) (t : Bool) (w : World) (h : BRow w g c L) (hle : L.length ≤ 4096) :
    Calls Try.prog 22 #[.slice (some ⟨g, 0, none⟩) L.length c, .int .i64 (p : Int), .bool t] w fun e w' => e = .returned (.int .i64 (Al.run L p t : Int)) ∧ w' = w := by
  have HR := hid h
  have HRI := hid (Al.run_has L p t)
  have HRO := hid (Al.run_out L p t)
  have hrl := Al.run_le L p t
  generalize Al.run L p t = R at *
  clear h
  go_enter Try.func22, Try.ntmps22
  go_upto_region 2 with (fail)
  go_loopw [7] (fun i wr => wr = w ∧ ∃ r : Nat, r ≤ R ∧ i = .int .i64 r)
    (fun i _ => R - (intOf i).toNat)
  case atStart => exact ⟨by trivial, 0, by omega, rfl⟩
  case round =>
    obtain ⟨hwr, r, hr, rfl⟩ := hrel
    obtain rfl : w = wr := hwr.symm
    by_cases hrR : r < R
    · have hri := HRI.out r hrR
      have hzl : p + r < L.length := by omega
      have c0 : w.cell? ⟨g, p + r, none⟩ = some (.bool t) := by
        rw [HR.out.cell (p + r) hzl, List.getD_eq_getElem?_getD, hri]; rfl
      have hzi : (p : Int) + (r : Int) < (L.length : Int) := by omega
      have htt : (t == t) = true := beq_self_eq_true t
      clear hri
      go_wp2
      exact ⟨⟨by trivial, r + 1, by omega, by go_num⟩, by simp [intOf]; omega⟩
    · obtain rfl : r = R := by omega
      have hro := HRO.out
      by_cases hzl : p + r < L.length
      · obtain ⟨y, hy⟩ : ∃ y, L[p + r]? = some y := ⟨_, List.getElem?_eq_getElem hzl⟩
        have hyt : (y == t) = false := by rw [beq_eq_false_iff_ne]; exact fun e => hro (by rw [hy, e])
        have c0 : w.cell? ⟨g, p + r, none⟩ = some (.bool y) := by
          rw [HR.out.cell (p + r) hzl, List.getD_eq_getElem?_getD, hy]; rfl
        have hzi : (p : Int) + (r : Int) < (L.length : Int) := by omega
        clear hro hy
        go_wp2
        go_ret
        exact ⟨rfl, by trivial⟩
      · have hzd2 : ¬ (p : Int) + (r : Int) < (L.length : Int) := by omega
        have hzd : decide ((p : Int) + (r : Int) < (L.length : Int)) = false := decide_eq_false hzd2
        clear hro
        go_wp2
        go_ret
        exact ⟨rfl, by trivial⟩

set_option maxHeartbeats 1000000 in
set_option maxRecDepth 100000 in
theorem set_any (g c : Nat) (L : List Bool) (F n : Nat) (t : Bool) (w : World) (h : BRow w g c L) (h1 : 1 ≤ L.length) (hle : L.length ≤ 4096) (hF : F + n ≤ L.length) :
    Calls Try.prog 27 #[.slice (some ⟨g, 0, none⟩) L.length c, .agg #[.int .i64 (F : Int), .int .i64 (n : Int)], .bool t] w fun e w' => ∃ g' c', e = .returned (.slice (some ⟨g', 0, none⟩) L.length c') ∧ BRow w' g' c' (Al.setN L F t n) ∧ w.heap.size ≤ g' ∧ Below w.heap.size w w' := by
  have hb1 : Below w.heap.size w ((w.alloc (.cells #[.int .i64 (F : Int), .int .i64 (n : Int)] 31)).alloc (.cells #[] 4)) := ((Below.refl _ w).alloc (Nat.le_refl _) _).alloc (by simp) _
  have HR := hid (h.at (hb1.block g h.lt))
  have HO := hid (show ((w.alloc (.cells #[.int .i64 (F : Int), .int .i64 (n : Int)] 31)).alloc (.cells #[] 4)).ownsRow (w.heap.size + 1) 4 1 (.slice (some ⟨w.heap.size + 1, 0, none⟩) 0 0) 0 [] from
    ⟨rfl, Or.inr ⟨w.heap.size + 1, 0, #[], rfl, Nat.le_refl _, heap_alloc2_new _ _ _, Nat.le_refl _, by unfold maxLen; omega, rfl, rfl⟩⟩)
  have HX := hid (heap_alloc2_old w (.cells #[.int .i64 (F : Int), .int .i64 (n : Int)] 31) (.cells #[] 4))
  have HB := hid hb1
  have hsz : w.heap.size + 1 ≤ ((w.alloc (.cells #[.int .i64 (F : Int), .int .i64 (n : Int)] 31)).alloc (.cells #[] 4)).heap.size := by simp
  obtain ⟨m, hm⟩ : ∃ m, L.length = m := ⟨_, rfl⟩
  have HM := hid hm
  rw [hm] at h1 hle hF ⊢
  clear h hm hb1
  go_enter Try.func27, Try.ntmps27
  go_upto_region 3 with (refine wpList_appB rfl _ _ rfl (w.heap.size + 1) _ rfl HO.out g m c L rfl HM.out HR.out h1 hle hsz ?_; intro g' c' w2 hr' hg' hb')
  have hx2 : w2.heap[w.heap.size]? = _ := (hb'.block w.heap.size (by omega)).trans HX.out
  have HX2 := hid hx2
  have HB2 := hid (HB.out.trans (hb'.mono (Nat.le_succ _)))
  have HR2 := hid hr'
  have hgs := hg'
  clear hx2 hr' hb' HX HB HO HR hsz hg'
  go_loopw [8] (fun i wr => ∃ k : Nat, k ≤ n ∧ i = .int .i64 k ∧ BRow wr g' c' (Al.setN L F t k) ∧ wr.heap[w.heap.size]? = some (.cells #[.int .i64 (F : Int), .int .i64 (n : Int)] 31 (0, 0)) ∧ Below w.heap.size w wr)
    (fun i _ => n - (intOf i).toNat)
  case atStart => exact ⟨0, by omega, rfl, HR2.out, HX2.out, HB2.out⟩
  case round =>
    clear HR2 HX2 HB2
    obtain ⟨k, hk, rfl, hr, hx, hbel⟩ := hrel
    have x0 : wr.cell? ⟨w.heap.size, 0, none⟩ = some (.int .i64 (F : Int)) := by rw [Lib.cell_of_heap hx]; rfl
    have x1 : wr.cell? ⟨w.heap.size, 1, none⟩ = some (.int .i64 (n : Int)) := by rw [Lib.cell_of_heap hx]; rfl
    have HR := hid hr
    have HBEL := hid hbel
    by_cases hlt : k < n
    · have hml := HM.out
      have c0 := hr.cell (F + k) (by rw [Al.setN_length]; omega)
      have f0 := hr.free (F + k)
      have hfk : (F : Int) + (k : Int) < (m : Int) := by omega
      have HR3 := hid (show BRow (wr.setCell ⟨g', F + k, none⟩ (.bool t)) g' c' (Al.setN L F t (k + 1)) from hr.set (F + k) (by rw [Al.setN_length]; omega) t)
      have HX3 := hid ((heap_setCell_other wr ⟨g', F + k, none⟩ w.heap.size (.bool t) (by show w.heap.size ≠ g'; omega)).trans hx)
      have HB3 := hid (hbel.setCell (p := ⟨g', F + k, none⟩) (by show w.heap.size ≤ g'; omega) (.bool t))
      clear hr hx hbel hml
      go_wp2
      exact ⟨⟨k + 1, by omega, by go_num, HR3.out, HX3.out, HB3.out⟩, by simp [intOf]; omega⟩
    · obtain rfl : k = n := by omega
      clear hr hx hbel
      go_wp2
      go_ret
      exact ⟨g', c', rfl, HR.out, by omega, HBEL.out⟩

/-- A reference's Span in a block of its own. -/
def RBox (W : World) (B : Nat) (F C : Int) : Prop := W.heap[B]? = some (.cells #[.int .i64 F, .int .i64 C] 31 (0, 0))
theorem RBox.c0 {W : World} {B : Nat} {F C : Int} (h : RBox W B F C) : W.cell? ⟨B, 0, none⟩ = some (.int .i64 F) := by rw [Lib.cell_of_heap h]; rfl
theorem RBox.c1 {W : World} {B : Nat} {F C : Int} (h : RBox W B F C) : W.cell? ⟨B, 1, none⟩ = some (.int .i64 C) := by rw [Lib.cell_of_heap h]; rfl
theorem RBox.f {W : World} {B : Nat} {F C : Int} (h : RBox W B F C) (i : Nat) : W.frozen? ⟨B, i, none⟩ = false := Lib.frozen_of_heap h i
theorem RBox.set2 {W : World} {B : Nat} {F C : Int} (h : RBox W B F C) (F' C' : Int) : RBox ((W.setCell ⟨B, 0, none⟩ (.int .i64 F')).setCell ⟨B, 1, none⟩ (.int .i64 C')) B F' C' := by
  unfold RBox
  rw [heap_setCell_same _ B 1 _ _ _ (heap_setCell_same _ B 0 _ _ _ h)]
  rfl
theorem results_rtake (tmps : Array Value) (V : World) (B5 : Nat) (F C : Int) (v q : Value) (hp4 : tmps[4]?.getD undef = v) (hp5 : tmps[5]?.getD undef = .pointer (some ⟨B5, 0, none⟩)) (hp6 : tmps[6]?.getD undef = q) (h5 : RBox V B5 F C) :
    (results Try.f20 tmps).run Try.prog V = .ok (.tuple #[v, .agg #[.int .i64 F, .int .i64 C], q]) V := by
  have hr : V.rangeAt B5 0 [Value.int .i64 F, .int .i64 C] := by
    intro j x hj
    rw [Nat.zero_add, cell_of_row V B5 j _ _ _ h5, ← hj, List.getElem?_toArray]
  have l5 := run_loadVar_mid V B5 0 31 _ _ hr Try.underlying31 rfl (by kernel_rfl)
  simp only [results, Try.results20]
  simp [hp4, hp5, hp6, asAddr, l5, Result.andThen]

set_option maxHeartbeats 2000000 in
set_option maxRecDepth 100000 in
theorem rtake_any (g c : Nat) (L : List Bool) (k : Int) (w : World) (h : BRow w g c L) (h1 : 1 ≤ L.length) (hle : L.length ≤ 4096) :
    Calls Try.prog 20 #[.slice (some ⟨g, 0, none⟩) L.length c, .int .i64 k] w fun e w' =>
      ((k < 1 ∨ Al.first L k = none) ∧ e = .returned (.tuple #[.slice (some ⟨g, 0, none⟩) L.length c, .agg #[.int .i64 0, .int .i64 0], .bool false]) ∧ Below w.heap.size w w') ∨
      (∃ x g' c', 1 ≤ k ∧ Al.first L k = some x ∧ e = .returned (.tuple #[.slice (some ⟨g', 0, none⟩) L.length c', .agg #[.int .i64 (x.1 : Int), .int .i64 k], .bool true]) ∧ BRow w' g' c' (Al.setN L x.1 true k.toNat) ∧ w.heap.size ≤ g' ∧ Below w.heap.size w w') := by
  have hgl := h.lt
  have HX0 := hid (show RBox (w.alloc (.cells #[.int .i64 0, .int .i64 0] 31)) w.heap.size 0 0 from heap_alloc_new _ _)
  have HR0 := hid (h.at (Below.heap_alloc w (.cells #[.int .i64 0, .int .i64 0] 31) g hgl))
  have HB0 := hid ((Below.refl w.heap.size w).alloc (Nat.le_refl _) (.cells #[.int .i64 0, .int .i64 0] 31))
  have HFA := hid (fun hk p hp hr hq => Al.first_at L k hk p hp hr hq)
  have HFN := hid (Al.first_no L k)
  have HRL := hid (fun p => Al.run_le L p false)
  clear h
  go_enter Try.func20, Try.ntmps20
  go_upto_region 2 with (fail)
  generalize w.alloc (.cells #[.int .i64 0, .int .i64 0] 31) = w0 at *
  go_loopw [7, 10] (fun x i wr => wr = w0 ∧ ∃ p : Nat, p ≤ L.length ∧ i = .int .i64 p ∧ ∀ q, q < p → k < 1 ∨ (Al.run L q false : Int) < k)
    (fun _ i _ => L.length - (intOf i).toNat)
  case atStart => exact ⟨by trivial, 0, by omega, rfl, fun q hq => absurd hq (by omega)⟩
  case round =>
    obtain ⟨hwr, p, hp, rfl, hq⟩ := hrel
    obtain rfl : w0 = wr := hwr.symm
    have HQ := hid hq
    clear hq
    by_cases hlt : p < L.length
    · have HRU := hid (run_any g c L p (by omega) false w0 HR0.out hle)
      by_cases hk : 1 ≤ k
      · have hkp : (0 : Int) < k := by omega
        have HQ2 := hid (show (Al.run L p false : Int) < k → ∀ q, q < p + 1 → k < 1 ∨ (Al.run L q false : Int) < k from fun h q hq => by
          by_cases hqp : q < p
          · exact HQ.out q hqp
          · obtain rfl : q = p := by omega
            exact Or.inr h)
        have HF := hid (show k ≤ (Al.run L p false : Int) → Al.first L k = some (p, Al.run L p false) from fun h => HFA.out hk p hlt h (fun q hq => (HQ.out q hq).resolve_left (by omega)))
        have hrl := HRL.out p
        generalize Al.run L p false = R at *
        by_cases hkR : k ≤ (R : Int)
        · obtain ⟨n, rfl⟩ : ∃ n : Nat, k = (n : Int) := ⟨k.toNat, by omega⟩
          have HFF := hid (HF.out hkR)
          have HST := hid (fun wx hx => set_any g c L p n true wx hx h1 hle (by omega))
          clear HQ HQ2 HF
          go_wp2_with fail
          refine HRU.out.mono ?_
          rintro e w1 ⟨rfl, hw1⟩
          obtain rfl : w0 = w1 := hw1.symm
          go_wp2_with fail
          refine (HST.out _ HR0.out).mono ?_
          rintro e w2 ⟨g', c', rfl, hr2, hg2, hb2⟩
          have hx2 : RBox w2 w.heap.size 0 0 := (hb2.block w.heap.size (Array.getElem?_eq_some_iff.1 HX0.out).1).trans HX0.out
          have x0 := hx2.c0
          have x1 := hx2.c1
          have f0 := hx2.f 0
          have f1 := hx2.f 1
          have HX2 := hid hx2
          have HR2 := hid hr2
          have HB2 := hid (HB0.out.trans (hb2.mono HB0.out.size))
          have hgs := HB0.out.size
          have hx0l := (Array.getElem?_eq_some_iff.1 HX0.out).1
          clear hx2 hr2 hb2
          go_wp2
          refine bodyPost_ret (results_rtake _ _ w.heap.size (p : Int) (n : Int) _ _ rfl rfl rfl (HX2.out.set2 _ _)) rfl ?_
          refine Or.inr ⟨(p, R), g', c', hk, HFF.out, rfl, ?_, by omega, ?_⟩
          · rw [Int.toNat_natCast]
            exact HR2.out.at (by rw [heap_setCell_other _ ⟨w.heap.size, 1, none⟩ g' _ (by show g' ≠ w.heap.size; omega), heap_setCell_other _ ⟨w.heap.size, 0, none⟩ g' _ (by show g' ≠ w.heap.size; omega)])
          · exact (HB2.out.setCell (p := ⟨w.heap.size, 0, none⟩) (Nat.le_refl _) _).setCell (p := ⟨w.heap.size, 1, none⟩) (Nat.le_refl _) _
        · have HQ3 := hid (HQ2.out (by omega))
          clear HQ HQ2 HF
          go_wp2_with fail
          refine HRU.out.mono ?_
          rintro e w1 ⟨rfl, hw1⟩
          obtain rfl : w0 = w1 := hw1.symm
          go_wp2
          exact ⟨⟨by trivial, p + 1, by omega, by go_num, HQ3.out⟩, by simp [intOf]; omega⟩
      · have hkp : ¬ (0 : Int) < k := by omega
        have hkd : decide ((0 : Int) < k) = false := decide_eq_false hkp
        have hk1 : k < 1 := by omega
        go_wp2
        exact ⟨⟨by trivial, p + 1, by omega, by go_num, fun q hq => Or.inl hk1⟩, by simp [intOf]; omega⟩
    · obtain rfl : p = L.length := by omega
      have x0 := HX0.out.c0
      have x1 := HX0.out.c1
      have f0 := HX0.out.f 0
      have f1 := HX0.out.f 1
      go_wp2
      refine bodyPost_ret (results_rtake _ _ w.heap.size 0 0 _ _ rfl rfl rfl (HX0.out.set2 _ _)) rfl ?_
      refine Or.inl ⟨?_, rfl, (HB0.out.setCell (p := ⟨w.heap.size, 0, none⟩) (Nat.le_refl _) _).setCell (p := ⟨w.heap.size, 1, none⟩) (Nat.le_refl _) _⟩
      by_cases hk : k < 1
      · exact Or.inl hk
      · exact Or.inr (HFN.out fun q hq => (HQ.out q hq).resolve_left hk)
end Go.Proofs.Ytmlkbdkehoajaaa
