/-
  Layer 17: what the calls on names do: wants, Create, Delete, Rename.
-/
import Derived.Test.YthmhbefbjbkabaaNm2
namespace Go.Proofs.Ythmhbefbjbkabaa
open Go.ChangeShapes Go.WideShapes Go.ChangeAt Go.RowKit Go.Shelf
open Go.ChangeMaps (setBlock heap_setBlock_same heap_setBlock_other)
open Go.Maps (Keyed)
open Go.Lib (hid)

attribute [local go_sem] Oper.semAt_some

theorem okN (T : List Nat) (h : T.length ≤ 1000000) : wayN.ok (str T) := by
  show (str T).size ≤ maxLen
  rw [str_size]; unfold maxLen; omega
set_option maxRecDepth 100000 in
set_option maxHeartbeats 2000000 in
theorem wants_any (b m : Nat) (v : Nx.V) (T : List Nat) (hT : ∀ x ∈ T, x < 256) (hTl : T.length ≤ 1000000) (w : World) (h : IsN w b m v) (hm : MxL w) :
    Calls Try.prog 33 #[.pointer (some ⟨b, 0, none⟩), .string (str T)] w fun e w' => e = .returned (.int .i64 (Nx.wants v T : Nat)) ∧ w' = w := by
  have HC := hid (check_any T hT hTl w hm)
  have hok := okN T hTl
  have c0 := h.c0
  have HH := hid h
  obtain ⟨r, hr⟩ : ∃ r, r = Nx.wants v T := ⟨_, rfl⟩
  rw [← hr]
  have HR := hid hr
  clear hr h hm hT
  cases hc : Nx.chk T with
  | false =>
    rw [hc] at HC
    have HF := hid (show r = 4 from by rw [HR.out, Nx.wants, if_pos hc])
    clear hok HR
    go_enter Try.func33, Try.ntmps33
    go_wp2_with (go_at_call 11; refine HC.out.mono ?_; rintro e wz ⟨rfl, hwz⟩; subst hwz)
    exact bodyPost_ret (results_tmp rfl _ _ _) rfl ⟨by rw [HF.out]; rfl, rfl⟩
  | true =>
    rw [hc] at HC
    cases hg : Mp.get v.M (str T) with
    | none =>
      have HF := hid (show r = 0 from by rw [HR.out, Nx.wants, if_neg (by rw [hc]; simp), Nx.of, hg]; rfl)
      clear HR
      go_enter Try.func33, Try.ntmps33
      go_wp2_with (first
        | (go_at_call 11; refine HC.out.mono ?_; rintro e wz ⟨rfl, hwz⟩; subst hwz)
        | (refine wpList_look_none _ rfl _ _ _ _ rfl wayN _ keyedN Try.underlying46 (zeroN _) m v.M rfl HH.out.map (str T) rfl hok hg ?_; rw [if_pos rfl]))
      exact bodyPost_ret (results_tmp rfl _ _ _) rfl ⟨by rw [HF.out]; rfl, rfl⟩
    | some y =>
      have HF := hid (show r = 6 from by rw [HR.out, Nx.wants, if_neg (by rw [hc]; simp), Nx.of, hg]; rfl)
      clear HR
      go_enter Try.func33, Try.ntmps33
      go_wp2_with (first
        | (go_at_call 11; refine HC.out.mono ?_; rintro e wz ⟨rfl, hwz⟩; subst hwz)
        | (refine wpList_look_some _ rfl _ _ _ _ rfl wayN _ keyedN Try.underlying46 m v.M rfl HH.out.map (str T) rfl hok y hg ?_; rw [if_pos rfl]))
      exact bodyPost_ret (results_tmp rfl _ _ _) rfl ⟨by rw [HF.out]; rfl, rfl⟩
theorem IsN.kept {w w' : World} {b m : Nat} {v : Nx.V} {p : Nat → Prop} (h : IsN w b m v) (hk : KeptQ p w w') (hb : ¬ p b) (hm : ¬ p m) : IsN w' b m v :=
  h.at (hk.block _ (Array.getElem?_eq_some_iff.1 h.row).1 hb) (hk.block _ h.map.lt hm)
theorem MxL.kept {w w' : World} {p : Nat → Prop} (h : MxL w) (hk : KeptQ p w w') (hb : ¬ p 0) : MxL w' := h.at (hk.block _ h.lt hb)
theorem KeptB.toQ {i : Nat} {w w' : World} {p : Nat → Prop} (h : KeptB i w w') (hp : p i) : KeptQ p w w' := ⟨h.os, h.tape, h.output, h.size, fun k hk hn => h.block k hk (fun e => hn (e ▸ hp))⟩
set_option maxRecDepth 100000 in
set_option maxHeartbeats 4000000 in
theorem create_any (b m : Nat) (v : Nx.V) (T : List Nat) (hT : ∀ x ∈ T, x < 256) (hTl : T.length ≤ 1000000) (hn : v.n < 4611686018427387904) (hl : v.M.length ≤ 1000000) (w : World) (h : IsN w b m v) (hm : MxL w) :
    Calls Try.prog 15 #[.pointer (some ⟨b, 0, none⟩), .string (str T)] w fun e w' =>
      e = .returned (.tuple #[.int .i64 ((Nx.create v T).2.1 : Nat), .int .i64 ((Nx.create v T).2.2 : Nat)]) ∧ IsN w' b m (Nx.create v T).1 ∧ KeptQ (fun k => k = b ∨ k = m) w w' := by
  have HW := hid (wants_any b m v T hT hTl w h hm)
  have hok := okN T hTl
  have c0 := h.c0
  have HH := hid h
  obtain ⟨r, hr⟩ : ∃ r, r = Nx.create v T := ⟨_, rfl⟩
  rw [← hr]
  have HR := hid hr
  clear hr hm hT
  obtain ⟨q, hq⟩ : ∃ q, q = Nx.wants v T := ⟨_, rfl⟩
  rw [← hq] at HW
  have hq2 : q = 0 ∨ q = 4 ∨ q = 6 := by rw [hq]; unfold Nx.wants; split; exact Or.inr (Or.inl rfl); split; exact Or.inr (Or.inr rfl); exact Or.inl rfl
  by_cases hq0 : q = 0
  · subst hq0
    by_cases h16 : 16 ≤ v.M.length
    · have HF := hid (show r = (v, 0, 8) from by rw [HR.out, Nx.create, if_neg (by rw [← hq]; simp), if_pos h16])
      have g1 : (16 : Int) ≤ (v.M.length : Nat) := by omega
      clear hq HR hq2
      clear h h16
      generalize hM : v.M.length = N at *
      go_enter Try.func15, Try.ntmps15
      go_wp2_with (first
        | (go_at_call 33; refine HW.out.mono ?_; rintro e wz ⟨rfl, hwz⟩; subst hwz)
        | (refine wpList_maplen _ rfl _ _ rfl wayN _ Try.underlying46 m v.M rfl HH.out.map ?_; rw [hM]))
      exact bodyPost_ret (results_tmp2 rfl _ _ _) rfl ⟨by rw [HF.out]; rfl, by rw [HF.out]; exact HH.out, KeptQ.refl _ _⟩
    · have HF := hid (show r = (⟨Mp.put v.M (str T) v.n, v.n + 1⟩, v.n, 0) from by rw [HR.out, Nx.create, if_neg (by rw [← hq]; simp), if_neg h16])
      have g1 : ¬ (16 : Int) ≤ (v.M.length : Nat) := by omega
      have c1 := h.c1
      clear hq HR hq2 h h16
      generalize hM : v.M.length = N at *
      go_enter Try.func15, Try.ntmps15
      go_upto_region 8 with (first
        | (go_at_call 33; refine HW.out.mono ?_; rintro e wz ⟨rfl, hwz⟩; subst hwz)
        | (refine wpList_maplen _ rfl _ _ rfl wayN _ Try.underlying46 m v.M rfl HH.out.map ?_; rw [hM])
        | (refine wpList_put _ rfl _ _ _ _ rfl wayN _ keyedN Try.underlying46 m v.M rfl HH.out.map (str T) rfl hok v.n rfl ?_; intro w1 hm1 hk1))
      have HM1 := hid hm1
      have hrow : w1.heap[b]? = _ := (hk1.block b (Array.getElem?_eq_some_iff.1 HH.out.row).1 HH.out.ne.symm).trans HH.out.row
      have HK1 := hid hk1
      have HROW := hid hrow
      have d1 : w1.cell? ⟨b, 1, none⟩ = some (.int .i64 (v.n : Int)) := by rw [cell_of_row _ _ _ _ _ _ hrow]; rfl
      have d2 : w1.frozen? ⟨b, 1, none⟩ = false := frozen_of_row _ _ _ _ _ hrow
      clear hm1 hk1 hrow c0 c1
      go_wp2
      refine bodyPost_ret (results_tmp2 rfl _ _ _) rfl ⟨by rw [HF.out]; rfl, ?_, ?_⟩
      · rw [HF.out]
        refine ⟨?_, HM1.out.setCell _ _ HH.out.ne⟩
        rw [show ((v.n : Nat) : Int) + 1 = ((v.n + 1 : Nat) : Int) from by omega]
        exact heap_setCell_same w1 b 1 _ _ _ HROW.out
      · exact (HK1.out.toQ (Or.inr rfl)).trans (KeptQ.setCell _ _ _ (Or.inl rfl))
  · have HF := hid (show r = (v, 0, q) from by rw [HR.out, Nx.create, if_pos (by rw [← hq]; exact hq0), ← hq])
    have g1 : ((q : Nat) : Int) ≠ 0 := by omega
    have HQ := hid hq
    clear hq hq2 hq0 HR h
    go_enter Try.func15, Try.ntmps15
    go_wp2_with (go_at_call 33; refine HW.out.mono ?_; rintro e wz ⟨rfl, hwz⟩; subst hwz)
    exact bodyPost_ret (results_tmp2 rfl _ _ _) rfl ⟨by rw [HF.out]; rfl, by rw [HF.out]; exact HH.out, KeptQ.refl _ _⟩
set_option maxRecDepth 100000 in
set_option maxHeartbeats 4000000 in
theorem rename_any (b m : Nat) (v : Nx.V) (T U : List Nat) (hTl : T.length ≤ 1000000) (hU : ∀ x ∈ U, x < 256) (hUl : U.length ≤ 1000000) (w : World) (h : IsN w b m v) (hm : MxL w) :
    Calls Try.prog 17 #[.pointer (some ⟨b, 0, none⟩), .string (str T), .string (str U)] w fun e w' =>
      e = .returned (.tuple #[.int .i64 ((Nx.rename v T U).2.1 : Nat), .int .i64 ((Nx.rename v T U).2.2 : Nat)]) ∧ IsN w' b m (Nx.rename v T U).1 ∧ KeptQ (fun k => k = b ∨ k = m) w w' := by
  have HW := hid (wants_any b m v U hU hUl w h hm)
  have hok := okN T hTl
  have hok' := okN U hUl
  have c0 := h.c0
  have HH := hid h
  obtain ⟨r, hr⟩ : ∃ r, r = Nx.rename v T U := ⟨_, rfl⟩
  rw [← hr]
  have HR := hid hr
  clear hr hm hU
  obtain ⟨q, hq⟩ : ∃ q, q = Nx.wants v U := ⟨_, rfl⟩
  rw [← hq] at HW
  cases hg : Mp.get v.M (str T) with
  | none =>
    have HF := hid (show r = (v, 0, 5) from by rw [HR.out, Nx.rename, Nx.of, hg])
    clear hq HR h HW
    go_enter Try.func17, Try.ntmps17
    go_wp2_with (refine wpList_look_none _ rfl _ _ _ _ rfl wayN _ keyedN Try.underlying46 (zeroN _) m v.M rfl HH.out.map (str T) rfl hok hg ?_; rw [if_pos rfl])
    exact bodyPost_ret (results_tmp2 rfl _ _ _) rfl ⟨by rw [HF.out]; rfl, by rw [HF.out]; exact HH.out, KeptQ.refl _ _⟩
  | some y =>
    by_cases hq0 : q = 0
    · subst hq0
      have HF := hid (show r = (⟨Mp.put (Mp.del v.M (str T)) (str U) y, v.n⟩, y, 0) from by rw [HR.out, Nx.rename, Nx.of, hg]; simp only []; rw [if_neg (by rw [← hq]; simp)])
      clear hq HR h
      go_enter Try.func17, Try.ntmps17
      go_upto_region 8 with (first
        | (go_at_call 33; refine HW.out.mono ?_; rintro e wz ⟨rfl, hwz⟩; subst hwz)
        | (refine wpList_look_some _ rfl _ _ _ _ rfl wayN _ keyedN Try.underlying46 m v.M rfl HH.out.map (str T) rfl hok y hg ?_; rw [if_pos rfl])
        | (refine wpList_mapdel _ rfl _ _ _ rfl wayN _ keyedN Try.underlying46 m v.M rfl HH.out.map (str T) rfl hok ?_; intro w1 hm1 hk1))
      have HM1 := hid hm1
      have hrow : w1.heap[b]? = _ := (hk1.block b (Array.getElem?_eq_some_iff.1 HH.out.row).1 HH.out.ne.symm).trans HH.out.row
      have HK1 := hid hk1
      have HROW := hid hrow
      have d0 : w1.cell? ⟨b, 0, none⟩ = some (.map (some m)) := by rw [cell_of_row _ _ _ _ _ _ hrow]; rfl
      clear hm1 hk1 hrow c0
      go_wp2_with (refine wpList_put _ rfl _ _ _ _ rfl wayN _ keyedN Try.underlying46 m _ rfl HM1.out (str U) rfl hok' y rfl ?_; intro w2 hm2 hk2)
      refine bodyPost_ret (results_tmp2 rfl _ _ _) rfl ⟨by rw [HF.out]; rfl, ?_, ?_⟩
      · rw [HF.out]
        exact ⟨(hk2.block b (Array.getElem?_eq_some_iff.1 HROW.out).1 HH.out.ne.symm).trans HROW.out, hm2⟩
      · exact (HK1.out.toQ (Or.inr rfl)).trans (hk2.toQ (Or.inr rfl))
    · have HF := hid (show r = (v, 0, q) from by rw [HR.out, Nx.rename, Nx.of, hg]; simp only []; rw [if_pos (by rw [← hq]; exact hq0), ← hq])
      have g1 : ((q : Nat) : Int) ≠ 0 := by omega
      clear hq hq0 HR h
      go_enter Try.func17, Try.ntmps17
      go_wp2_with (first
        | (go_at_call 33; refine HW.out.mono ?_; rintro e wz ⟨rfl, hwz⟩; subst hwz)
        | (refine wpList_look_some _ rfl _ _ _ _ rfl wayN _ keyedN Try.underlying46 m v.M rfl HH.out.map (str T) rfl hok y hg ?_; rw [if_pos rfl]))
      exact bodyPost_ret (results_tmp2 rfl _ _ _) rfl ⟨by rw [HF.out]; rfl, by rw [HF.out]; exact HH.out, KeptQ.refl _ _⟩
end Go.Proofs.Ythmhbefbjbkabaa
