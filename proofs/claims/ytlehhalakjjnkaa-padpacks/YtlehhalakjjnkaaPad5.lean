/-
  Layer 12: what the reference's Unpack returns.
-/
import Derived.Test.YtlehhalakjjnkaaPad4
namespace Go.Proofs.Ytlehhalakjjnkaa
open Go.RowKit
open Go.Lib (hid)

namespace Pd
theorem out_no (L : List (List Nat)) (h : uok L = false) : out L = [] := by unfold out; rw [h]; rfl
theorem out_yes (L : List (List Nat)) (h : uok L = true) : out L = un L := by unfold out; rw [h]; rfl
theorem not_240 (L : List (List Nat)) (k : Nat) (hk : k < L.length) (h : (L.getD k []).length ≠ 240) : uok L = false := by
  rw [← rok_uok]
  unfold rok
  rw [Bool.and_eq_false_iff]
  left
  simp only [decide_eq_false_iff_not]
  intro ha
  refine h (ha _ ?_)
  rw [List.getD_eq_getElem?_getD, List.getElem?_eq_getElem hk]
  exact List.getElem_mem hk
theorem err_no (L : List (List Nat)) (h : (Wx.itext L.flatten 0).1.2 ≠ 0) : uok L = false := by
  rw [← rok_uok]
  unfold rok
  rw [decide_eq_false h]
  simp
theorem differ_no (L : List (List Nat)) (h : pages (un L) ≠ L) : uok L = false := by
  rw [← rok_uok]
  unfold rok
  rw [beq_eq_false_iff_ne.2 h]
  simp
theorem all_yes (L : List (List Nat)) (h1 : ∀ j, j < L.length → (L.getD j []).length = 240) (h2 : (Wx.itext L.flatten 0).1.2 = 0) (h3 : pages (un L) = L) : uok L = true := by
  rw [← rok_uok]
  unfold rok
  rw [decide_eq_true h2, h3]
  simp only [beq_self_eq_true, Bool.and_true, decide_eq_true_eq]
  intro l hl
  obtain ⟨j, hj, rfl⟩ := List.mem_iff_getElem.1 hl
  have := h1 j hj
  rwa [List.getD_eq_getElem?_getD, List.getElem?_eq_getElem hj] at this
end Pd
theorem list_ext_getD {A B : List (List Nat)} (hl : A.length = B.length) (h : ∀ j, j < A.length → A.getD j [] = B.getD j []) : A = B := by
  apply List.ext_getElem hl
  intro i h1 h2
  have := h i h1
  simpa [List.getD_eq_getElem?_getD, List.getElem?_eq_getElem h1, List.getElem?_eq_getElem h2] using this

set_option maxHeartbeats 2000000 in
set_option maxRecDepth 100000 in
theorem runpack_any (ao : Option Addr) (L : List (List Nat)) (cap : Nat) (w : World) (hA : Strs w ao L) (hL : L.length ≤ 1000) (hb : ∀ x ∈ L.flatten, x < 256) (hl : L.flatten.length ≤ 900000) :
    Calls Try.prog 15 #[.slice ao L.length cap] w fun e w' => e = .returned (.tuple #[.string (str (Pd.out L)), .bool (Pd.uok L)]) ∧ Below w.heap.size w w' := by
  have HA := hid hA
  have HLB := hid hb
  have HN2 := hid (Pd.not_240 L)
  have HON := hid (Pd.out_no L)
  have HRT := hid (fun wx => rtextr_any L.flatten 0 (Or.inl rfl) hb wx)
  have HRP := hid (fun wx => rpack_any (Pd.un L) (Pd.un_lt L hb) (Nat.le_trans (Pd.un_le L) hl) wx)
  have h0 : str [] = ⟨#[]⟩ := rfl
  have hlz : ∀ k, ((L.take k).flatten).length ≤ 900000 := fun k => Nat.le_trans (flatten_take_le L k) hl
  have HLZ := hid hlz
  clear hA hb hl hlz
  go_enter Try.func15, Try.ntmps15
  go_upto_region 3 with (fail)
  go_loopw [4, 6, 13] (fun s p i wr => wr = w ∧ ∃ k : Nat, k ≤ L.length ∧ i = .int .i64 k ∧ s = .string (str ((L.take k).flatten)) ∧ ∀ j, j < k → (L.getD j []).length = 240)
    (fun _ _ i _ => L.length - (intOf i).toNat)
  case atStart => exact ⟨by trivial, 0, by omega, rfl, rfl, fun j hj => absurd hj (by omega)⟩
  case round =>
    obtain ⟨hwr, k, hk, rfl, rfl, hall⟩ := hrel
    obtain rfl : w = wr := hwr.symm
    have HALL := hid hall
    clear hall
    by_cases hlt : k < L.length
    · obtain ⟨sb, so, hao, hc⟩ := HA.out k hlt
      subst hao
      have hz := str_size (L.getD k [])
      have HN := hid (HN2.out k hlt)
      have HTS := hid (flatten_take_succ L k hlt)
      have hap := str_append ((L.take k).flatten) (L.getD k [])
      have hz1 := str_size ((L.take k).flatten)
      have hz2 := HLZ.out k
      have hz3 := HLZ.out (k + 1)
      rw [HTS.out, List.length_append] at hz3
      rw [← HTS.out] at hap
      have HG := hid (show ∀ j, j < k + 1 → (L.getD k []).length = 240 → (L.getD j []).length = 240 from fun j hj h => by
        by_cases hjk : j < k
        · exact HALL.out j hjk
        · obtain rfl : j = k := by omega
          exact h)
      by_cases h240 : (L.getD k []).length = 240
      · generalize L.getD k [] = g at *
        generalize hS2 : str ((L.take (k + 1)).flatten) = S2 at *
        have HS2 := hid hS2
        clear hS2
        generalize ((L.take k).flatten) = f at *
        rw [h240] at hz hz3
        generalize str f = SF at *
        generalize str g = SG at *
        have HG2 := hid (fun j hj => HG.out j hj h240)
        clear HTS HG HALL h240
        go_wp2
        exact ⟨⟨by trivial, k + 1, by omega, by go_num, by rw [HS2.out], HG2.out⟩, by simp [intOf]; omega⟩
      · have HU := hid (HN.out h240)
        generalize L.getD k [] = g at *
        generalize str g = SG at *
        have hne : ((g.length : Int) == 240) = false := by simp; omega
        have hne2 : ((g.length : Int) != 240) = true := by simp; omega
        clear hz1 hz2 hz3 hap h240
        go_wp2
        go_ret2
        exact ⟨by rw [HON.out HU.out, HU.out]; rfl, Below.refl _ _⟩
    · obtain rfl : k = L.length := by omega
      rw [List.take_of_length_le (Nat.le_refl _)]
      have HER := hid (Pd.err_no L)
      have HDF := hid (Pd.differ_no L)
      have HYE := hid (Pd.all_yes L HALL.out)
      have HOY := hid (Pd.out_yes L)
      have HPL := hid (Pd.pages_length (Pd.un L))
      have HPB := hid (Pd.pages_lt (Pd.un L) (Pd.un_lt L HLB.out))
      rw [show (Wx.itext L.flatten 0).2 = Pd.un L from rfl] at HRT
      clear HALL HN2 hlt HLZ
      generalize (Wx.itext L.flatten 0).1 = R1 at *
      obtain ⟨s1, e1⟩ := R1
      generalize Pd.un L = u at *
      unfold inV at HRT
      simp only at HRT HER HYE
      go_wp2_with fail
      refine (HRT.out _).mono ?_
      rintro e w1 ⟨rfl, hb1⟩
      go_upto_region 10 with (fail)
      have HB2 := hid (hb1.alloc hb1.size (.cells #[.string (str s1), .int .i64 e1] 54))
      by_cases he : e1 = 0
      · subst he
        have HYE2 := hid (HYE.out rfl)
        clear HER HYE
        go_wp2_with fail
        refine (HRP.out _).mono ?_
        rintro e w3 ⟨v, rfl, hown3, hb3⟩
        have HB3 := hid (HB2.out.trans (hb3.mono HB2.out.size))
        obtain ⟨a3, c3, hv3, hst3⟩ := hown3.strs
        subst hv3
        have HS3 := hid hst3
        have HA3 := hid (HA.out.below HB3.out)
        clear hb3 hown3 hst3 HB2 hb1 HRP HRT HA
        have hpl : (Pd.pages u).length ≤ 1000 := by rw [HPL.out]; exact Nat.le_trans (Pd.cls_le _) (by omega)
        generalize Pd.pages u = B at *
        by_cases hn : B.length = L.length
        · have hnb : ((B.length : Int) != (L.length : Int)) = false := by simp [hn]
          go_upto_region 16 with (fail)
          clear hnb
          go_loopw [10, 42] (fun x i wr => ∃ k : Nat, k ≤ L.length ∧ i = .int .i64 k ∧ Strs wr a3 B ∧ Strs wr ao L ∧ Below w.heap.size w wr ∧ ∀ j, j < k → B.getD j [] = L.getD j [])
            (fun _ i _ => L.length - (intOf i).toNat)
          case atStart => exact ⟨0, by omega, rfl, HS3.out, HA3.out, HB3.out, fun j hj => absurd hj (by omega)⟩
          case round =>
            obtain ⟨k, hk, rfl, hs, ha, hbel, hsame⟩ := hrel
            have HSAME := hid hsame
            have HBEL := hid hbel
            have HS := hid hs
            have HA := hid ha
            clear hsame hbel
            by_cases hlt : k < L.length
            · obtain ⟨sb, so, hao, hc⟩ := ha k hlt
              obtain ⟨tb, tq, hbo, hd⟩ := hs k (by omega)
              subst hao hbo
              clear ha hs
              have hq : ((str (L.getD k [])).toList == (str (B.getD k [])).toList) = (L.getD k [] == B.getD k []) :=
                str_beq _ _ (fun x hx => HLB.out x (getD_mem_flatten L k x hx)) (fun x hx => HPB.out x (getD_mem_flatten B k x hx))
              have HG := hid (show L.getD k [] = B.getD k [] → ∀ j, j < k + 1 → B.getD j [] = L.getD j [] from fun h j hj => by
                by_cases hjk : j < k
                · exact HSAME.out j hjk
                · obtain rfl : j = k := by omega
                  exact h.symm)
              have HNE := hid (show L.getD k [] ≠ B.getD k [] → Pd.uok L = false from fun h => HDF.out fun e => h (by rw [e]))
              have hkb : k < B.length := by omega
              by_cases hsm : L.getD k [] = B.getD k []
              · have HG2 := hid (HG.out hsm)
                have hqt : (L.getD k [] == B.getD k []) = true := by rw [hsm]; exact beq_self_eq_true _
                rw [hqt] at hq
                clear hqt hsm HG HNE HSAME
                generalize L.getD k [] = x at *
                generalize B.getD k [] = y at *
                go_upto_region 18 with (fail)
                go_quiet (fail)
                go_wp2
                exact ⟨⟨k + 1, by omega, by go_num, HS.out.below ⟨rfl, rfl, rfl, Nat.le_refl _, fun _ _ => rfl⟩, HA.out.below ⟨rfl, rfl, rfl, Nat.le_refl _, fun _ _ => rfl⟩, HBEL.out.trans ⟨rfl, rfl, rfl, Nat.le_refl _, fun _ _ => rfl⟩, HG2.out⟩, by simp [intOf]; omega⟩
              · have HU := hid (HNE.out hsm)
                have hqt : (L.getD k [] == B.getD k []) = false := beq_eq_false_iff_ne.2 hsm
                rw [hqt] at hq
                clear hqt hsm HG HNE HSAME
                generalize L.getD k [] = x at *
                generalize B.getD k [] = y at *
                go_upto_region 18 with (fail)
                go_quiet (fail)
                go_wp2
                go_ret2
                exact ⟨by rw [HON.out HU.out, HU.out]; rfl, HBEL.out.trans ⟨rfl, rfl, rfl, Nat.le_refl _, fun _ _ => rfl⟩⟩
            · obtain rfl : k = L.length := by omega
              have HU := hid (HYE2.out (list_ext_getD hn fun j hj => HSAME.out j (by omega)))
              clear ha hs
              go_wp2
              go_ret2
              exact ⟨by rw [HOY.out HU.out, HU.out]; rfl, HBEL.out⟩
        · have hnb : ((B.length : Int) != (L.length : Int)) = true := by simp; omega
          have HU := hid (HDF.out fun e => hn (by rw [e]))
          go_wp2
          go_ret2
          exact ⟨by rw [HON.out HU.out, HU.out]; rfl, HB3.out⟩
      · have HU := hid (HER.out he)
        have heb : (e1 != 0) = true := by simp [he]
        go_wp2
        go_ret2
        exact ⟨by rw [HON.out HU.out, HU.out]; rfl, HB2.out⟩
end Go.Proofs.Ytlehhalakjjnkaa
