/-
  Layer 18: an entry is deleted; Remove.
-/
import Derived.Test.YtlfjhpmachblkaaBx5
import Derived.Deep.RegionLaw
import Derived.Lib.SliceRun
namespace Go.Proofs.Ytlfjhpmachblkaa
open Go.ChangeShapes Go.WideShapes Go.ChangeAt Go.RowKit
open Go.Lib (hid)

namespace Kx
theorem heap_setCells_other (b : Nat) : ∀ (vs : List Value) (o : Nat) (w : World) (k : Nat), k ≠ b → (w.setCells b o vs).heap[k]? = w.heap[k]?
  | [], _, _, _, _ => rfl
  | v :: r, o, w, k, h => by
    rw [World.setCells, heap_setCells_other b r _ _ k h, heap_setCell_other _ _ _ _ h]
theorem heap_setCells_size (b : Nat) : ∀ (vs : List Value) (o : Nat) (w : World), (w.setCells b o vs).heap.size = w.heap.size
  | [], _, _ => rfl
  | v :: r, o, w => by rw [World.setCells, heap_setCells_size b r]; simp [World.setCell]
theorem setCells_rest (b : Nat) : ∀ (vs : List Value) (o : Nat) (w : World), (w.setCells b o vs).os = w.os ∧ (w.setCells b o vs).tape = w.tape ∧ (w.setCells b o vs).output = w.output
  | [], _, _ => ⟨rfl, rfl, rfl⟩
  | v :: r, o, w => by rw [World.setCells]; exact setCells_rest b r _ _
theorem setCells_kept (b : Nat) (vs : List Value) (o : Nat) (w : World) : KeptQ (fun k => k = b) w (w.setCells b o vs) :=
  ⟨(setCells_rest b vs o w).1, (setCells_rest b vs o w).2.1, (setCells_rest b vs o w).2.2, Nat.le_of_eq (heap_setCells_size b vs o w).symm, fun k _ h => heap_setCells_other b vs o w k h⟩
theorem heap_setCells_same (g : Nat) (T : TypeId) : ∀ (vs : List Value) (o : Nat) (w : World) (pre mid post : List Value), w.heap[g]? = some (.cells (pre ++ mid ++ post).toArray T (0, 0)) → pre.length = o → mid.length = vs.length →
    (w.setCells g o vs).heap[g]? = some (.cells (pre ++ vs ++ post).toArray T (0, 0))
  | [], o, w, pre, mid, post, h, _, hm => by
    rw [List.length_nil] at hm
    rw [List.eq_nil_of_length_eq_zero hm] at h
    exact h
  | v :: r, o, w, pre, mid, post, h, ho, hm => by
    cases mid with
    | nil => simp at hm
    | cons x mid =>
      rw [World.setCells]
      have h1 := heap_setCell_same w g o _ _ v h
      have e : ((pre ++ x :: mid ++ post).toArray.setIfInBounds o v) = ((pre ++ [v]) ++ mid ++ post).toArray := by
        apply Array.toList_inj.1
        rw [Array.toList_setIfInBounds]
        simp only [List.append_assoc]
        subst ho
        simp
      rw [e] at h1
      have h2 := heap_setCells_same g T r (o + 1) _ (pre ++ [v]) mid post h1 (by simp [ho]) (by simpa using hm)
      rw [h2]
      simp
end Kx
theorem run_clear_ent (w : World) (ty : TypeId) (g o c : Nat) (hc : ∀ j, j < 3 → (w.cell? ⟨g, o + j, none⟩).isSome = true) (hf : ∀ j, j < 3 → w.frozen? ⟨g, o + j, none⟩ = false) :
    (Builtin.clear_ #[43] ty #[.slice (some ⟨g, o, none⟩) 1 c]).run Try.prog w = .ok (.tuple #[]) (w.setCells g o [.int .i64 0, .int .i64 0, .int .i64 0]) := by
  have hst := run_storeCells_cells (P := Try.prog) g o [.int .i64 0, .int .i64 0, .int .i64 0] 0 w (by simpa using hc) (by simpa using hf) (by intro v hv; simp only [List.mem_cons, List.not_mem_nil, or_false] at hv; rcases hv with rfl | rfl | rfl <;> rfl)
  simp only [Nat.add_zero] at hst
  have hz : ∀ w, (zeroValue 38).run Try.prog w = .ok (.agg #[.int .i64 0, .int .i64 0, .int .i64 0]) w := fun w => by go_simp
  have hzc : (Builtin.zeroCells (Value.agg #[.int .i64 0, .int .i64 0, .int .i64 0]).cells 1).toList = [.int .i64 0, .int .i64 0, .int .i64 0] := by simp [Builtin.zeroCells, Value.cells, List.range_succ]
  simp [Builtin.clear_, run_underlying Try.underlying43, hz, hzc, hst]

set_option maxHeartbeats 4000000 in
set_option maxRecDepth 1000000 in
theorem edelete_any (g cap m i : Nat) (L : List Bv.E) (w : World) (h : OwnB w 38 (.slice (some ⟨g, 0, none⟩) (m + 1) cap) L) (hn : L.length = m + 1) (hm : m ≤ 1000) (hi : i ≤ m) :
    Calls Try.prog 41 #[.slice (some ⟨g, 0, none⟩) (m + 1 : Nat) cap, .int .i64 (i : Int), .int .i64 ((i + 1 : Nat) : Int)] w fun e w' =>
      e = .returned (.slice (some ⟨g, 0, none⟩) m cap) ∧ OwnB w' 38 (.slice (some ⟨g, 0, none⟩) m cap) (L.take i ++ L.drop (i + 1)) ∧ KeptQ (fun k => k = g) w w' := by
  obtain ⟨ti, hti, hz0, hz1, hz2⟩ := info_parts eBox.info
  obtain ⟨h1, ⟨hv, h0⟩ | ⟨g', cap', cur, hv, _, hh, hcp, hmx, hs, hc⟩⟩ := h
  · cases hv
  obtain ⟨rfl, rfl⟩ : g' = g ∧ cap' = cap := by injection hv with e1 e2 e3; injection e1 with e1; injection e1 with e1; exact ⟨e1.symm, e3.symm⟩
  rw [hn] at hcp hc
  -- the row in parts
  obtain ⟨ex, hex⟩ : ∃ ex, ex = cur.toList.drop ((m + 1) * 3) := ⟨_, rfl⟩
  have hcur : cur = (besC L ++ ex).toArray := by
    apply Array.toList_inj.1
    rw [hex, ← hc]
    simp
  have hLs : L = L.take i ++ (L.getD i (0, 0, 0) :: L.drop (i + 1)) := by
    have hil : i < L.length := by omega
    rw [List.getD_eq_getElem?_getD, List.getElem?_eq_getElem hil, Option.getD_some, List.getElem_cons_drop hil, List.take_append_drop]
  obtain ⟨A, hA⟩ : ∃ A, L.take i = A := ⟨_, rfl⟩
  obtain ⟨D, hD⟩ : ∃ D, L.drop (i + 1) = D := ⟨_, rfl⟩
  obtain ⟨y, hy⟩ : ∃ y, L.getD i (0, 0, 0) = y := ⟨_, rfl⟩
  have hAl : A.length = i := by rw [← hA, List.length_take]; omega
  have hDl : D.length = m - i := by rw [← hD, List.length_drop]; omega
  rw [hA, hD, hy] at hLs
  rw [hA, hD]
  have hrow : w.heap[g']? = some (.cells (besC A ++ (beC y ++ besC D) ++ ex).toArray 38 (0, 0)) := by
    rw [hh, hcur, hLs, besC_append]
    simp [besC]
  have hAc : (besC A).length = i * 3 := by rw [besC_length, hAl]
  have hDc : (besC D).length = (m - i) * 3 := by rw [besC_length, hDl]
  have hyc : (beC y).length = 3 := rfl
  obtain ⟨z, hz⟩ : ∃ z : Addr, (if cap' = i + 1 then (⟨g', 0, none⟩ : Addr) else ⟨g', (i + 1) * 3, none⟩) = z := ⟨_, rfl⟩
  have hsrc : ∀ j u, (besC D)[j]? = some u → w.drew.cell? (z.add j) = some u := by
    intro j u hj
    have hjl : j < (m - i) * 3 := by rw [← hDc]; exact (List.getElem?_eq_some_iff.1 hj).1
    have hcm : cap' ≠ i + 1 := by omega
    rw [← hz, if_neg hcm, Addr.add_lit]
    show w.cell? _ = _
    rw [cell_of_row _ _ _ _ _ _ hrow, List.getElem?_toArray, List.append_assoc, List.getElem?_append_right (by omega), List.append_assoc, List.getElem?_append_right (by omega), List.getElem?_append_left (by omega)]
    rw [← hj]
    congr 1
    omega
  have hSRC := hid hsrc
  have hspare : ∀ j, j < (besC D).length → (w.drew.cell? ⟨g', 0 + i * 3 + j, none⟩).isSome = true ∧ w.drew.frozen? ⟨g', 0 + i * 3 + j, none⟩ = false := by
    intro j hj
    refine ⟨?_, frozen_of_row w _ _ _ _ hrow⟩
    show (w.cell? _).isSome = true
    rw [cell_of_row _ _ _ _ _ _ hrow, List.getElem?_toArray, List.getElem?_eq_getElem (by simp only [List.length_append]; omega)]
    rfl
  have HSP := hid hspare
  -- behind the append
  obtain ⟨W1, hW1⟩ : ∃ W1, w.drew.setCells g' (0 + i * 3) (besC D) = W1 := ⟨_, rfl⟩
  have hD3 : ∃ l3, l3.length = 3 ∧ beC y ++ besC D = (beC y ++ besC D).take ((m - i) * 3) ++ l3 := ⟨(beC y ++ besC D).drop ((m - i) * 3), by rw [List.length_drop, List.length_append]; omega, (List.take_append_drop _ _).symm⟩
  obtain ⟨l3, hl3, hsp3⟩ := hD3
  have hrow1 : W1.heap[g']? = some (.cells (besC A ++ besC D ++ (l3 ++ ex)).toArray 38 (0, 0)) := by
    rw [← hW1]
    refine Kx.heap_setCells_same g' _ (besC D) (0 + i * 3) w.drew (besC A) ((beC y ++ besC D).take ((m - i) * 3)) (l3 ++ ex) ?_ (by omega) (by rw [List.length_take, List.length_append]; omega)
    refine hrow.trans ?_
    conv => lhs; rw [hsp3]
    simp
  have hk1 : KeptQ (fun k => k = g') w W1 := by rw [← hW1]; exact (KeptQ.drewN w 1).trans (Kx.setCells_kept g' (besC D) (0 + i * 3) w.drew)
  have hcl := fun ty c => run_clear_ent W1 ty g' (m * 3) c (fun j hj => by
    rw [cell_of_row _ _ _ _ _ _ hrow1, List.getElem?_toArray, List.getElem?_eq_getElem (by simp only [List.length_append]; omega)]; rfl) (fun j hj => frozen_of_row _ _ _ _ _ hrow1)
  have hrow2 : (W1.setCells g' (m * 3) (beC (0, 0, 0))).heap[g']? = some (.cells (besC A ++ besC D ++ (beC (0, 0, 0)) ++ ex).toArray 38 (0, 0)) :=
    Kx.heap_setCells_same g' _ (beC (0, 0, 0)) (m * 3) W1 (besC A ++ besC D) l3 ex (by rw [hrow1]; simp) (by rw [List.length_append]; omega) (by rw [hl3]; rfl)
  have hk2 : KeptQ (fun k => k = g') w (W1.setCells g' (m * 3) (beC (0, 0, 0))) := hk1.trans (Kx.setCells_kept g' _ _ W1)
  have hown : OwnB (W1.setCells g' (m * 3) (beC (0, 0, 0))) 38 (.slice (some ⟨g', 0, none⟩) m cap') (A ++ D) := by
    have hAD : (A ++ D).length = m := by rw [List.length_append]; omega
    refine ⟨by rw [besC_length], Or.inr ⟨g', cap', _, by rw [hAD], Nat.zero_le _, hrow2, by omega, hmx, ?_, ?_⟩⟩
    · rw [← hs, hcur]
      simp only [List.size_toArray, List.length_append, List.length_cons, List.length_nil, besC_length, show (beC (0, 0, 0)).length = 3 from rfl]
      omega
    · rw [hAD]
      show (besC A ++ besC D ++ (beC (0, 0, 0)) ++ ex).take (m * 3) = besC (A ++ D)
      rw [besC_append, List.append_assoc]
      exact List.take_left' (by rw [List.length_append]; omega)
  have HFIN := hid (And.intro hown hk2)
  have HW1 := hid hW1
  have HDC := hid hDc
  have HZ := hid hz
  have hic : i ≤ cap' := by omega
  have h0i : (0 : Int) ≤ (i : Int) + 1 := by omega
  have hzs : (if cap' = i + 1 then (some ⟨g', 0, none⟩ : Option Addr) else some ⟨g', (i + 1) * 3, none⟩) = some z := by rw [← hz]; split <;> rfl
  have hjc : i + 1 ≤ cap' := by omega
  have hlm : i + 1 ≤ m + 1 := by omega
  clear hv hn h1 hown hk2 hrow2 hk1 hrow1 hW1 hspare hsrc hrow hh hcur hs hc hex hLs hA hD hy hAl hDl hAc hDc hyc hsp3 hz
  go_enter Try.func41, Try.ntmps41
  go_wp2_with fail
  go_region_law (refine step_append_room rfl (.tmp 22) (.tmp 25) 43 rfl 38 ti 3 Try.underlying43 hti hz1 g' 0 i cap' (by simp [Act.eval, Act.put]) z (m - i) (cap' - (i + 1)) (besC D) (by simp [Act.eval, Act.put]) HDC.out hSRC.out (besC_one D) (by omega) HSP.out ?_; rw [HW1.out])
  have hmc : ¬ cap' = m := by omega
  have hmi : m + 1 - m = 1 := by omega
  go_wp2
  go_ret
  exact ⟨rfl, HFIN.out.1, HFIN.out.2⟩

namespace Bv
def remE (L : List E) (u : Int) : Nat := if hit L u then 0 else 7
def remL (L : List E) (u : Int) : List E := if hit L u then L.take (cnt L u) ++ L.drop (cnt L u + 1) else L
end Bv
set_option maxHeartbeats 2000000 in
set_option maxRecDepth 100000 in
theorem remove_any (b : Nat) (v : Value) (V X : Int) (L : List Bv.E) (u : Int) (w : World) (h : IsB w b v V X L) (hup : Bv.Up L) (hl : L.length ≤ 1000) :
    Calls Try.prog 15 #[.pointer (some ⟨b, 0, none⟩), .int .i64 u] w fun e w' => ∃ v', e = .returned (.tuple #[beV (Bv.getR L u), .int .i64 (Bv.getE L u : Nat)]) ∧ IsB w' b v' V X (Bv.remL L u) ∧ BxTo w b v w' v' := by
  have HF := hid (fun wx hx => find_any b v V X L u wx hx hup (by omega))
  have HI := hid h
  clear h hup
  cases hh : Bv.hit L u with
  | false =>
    have hR : Bv.getR L u = (0, 0, 0) ∧ Bv.getE L u = 7 ∧ Bv.remL L u = L := by unfold Bv.getR Bv.getE Bv.remL; rw [hh]; exact ⟨rfl, rfl, rfl⟩
    rw [hR.1, hR.2.1, hR.2.2]
    rw [hh] at HF
    clear hh hR
    go_enter Try.func15, Try.ntmps15
    go_upto_region 1 with (fail)
    have HB0 := hid ((Below.refl w.heap.size w).alloc (Nat.le_refl _) (.cells #[.int .i64 0, .int .i64 0, .int .i64 0] 38))
    have HE0 := hid (show EntAt (w.alloc (.cells #[.int .i64 0, .int .i64 0, .int .i64 0] 38)) w.heap.size 38 (0, 0, 0) from heap_alloc_new _ _)
    generalize w.alloc _ = w0 at *
    go_wp2_with fail
    refine (HF.out w0 (HI.out.below HB0.out)).mono ?_
    rintro e w1 ⟨rfl, hb1⟩
    have HE1 := hid (HE0.out.below hb1)
    have HB1 := hid (HB0.out.trans (hb1.mono HB0.out.size))
    have HI1 := hid (HI.out.below HB1.out)
    have HI0 := HI
    clear hb1 HF HE0 HB0 HI
    obtain ⟨⟨z0, s0⟩, f0, s1, f1, s2, f2⟩ := HE1.out.wr
    go_wp2
    refine ret_ent Try.results15 _ _ w.heap.size (0, 0, 0) (.int .i64 7) ?_ (HE1.out.set 0 0 0) ?_ ?_ ?_
    · rfl
    · rfl
    · rfl
    have hb := (EntAt.kept 0 0 0).below' HB1.out
    exact ⟨_, rfl, HI0.out.below hb, BxTo.below hb⟩
  | true =>
    obtain ⟨⟨yu, yf, ym⟩, hy⟩ : ∃ y, Bv.at_ L u = y := ⟨_, rfl⟩
    have hR : Bv.getR L u = (yu, yf, ym) ∧ Bv.getE L u = 0 ∧ Bv.remL L u = L.take (Bv.cnt L u) ++ L.drop (Bv.cnt L u + 1) := by unfold Bv.getR Bv.getE Bv.remL; rw [hh]; exact ⟨hy, rfl, rfl⟩
    have hlt := Bv.hit_lt hh
    have hat : L.getD (Bv.cnt L u) (0, 0, 0) = (yu, yf, ym) := hy
    rw [hR.1, hR.2.1, hR.2.2]
    rw [hh] at HF
    clear hh hR hy
    generalize Bv.cnt L u = ct at *
    obtain ⟨m, hm⟩ : ∃ m, L.length = m + 1 := ⟨L.length - 1, by omega⟩
    obtain ⟨ao, cap, hv, hes⟩ := HI.out.own.es
    obtain ⟨g, rfl, _⟩ := hes ct hlt
    rw [hm] at hv
    subst hv
    have hgl := HI.out.own.lt (k := g) rfl
    have hct : ct ≤ m := by omega
    have hctl : (ct : Int) < (m : Int) + 1 := by omega
    have hcti : IntKind.i64.wrap ((ct : Int) + 1) = (ct : Int) + 1 := by rw [IntKind.wrap_i64]; omega
    have HM := hid hm
    have hm1 : m ≤ 1000 := by omega
    clear hes hm
    go_enter Try.func15, Try.ntmps15
    go_upto_region 1 with (fail)
    have HB0 := hid ((Below.refl w.heap.size w).alloc (Nat.le_refl _) (.cells #[.int .i64 0, .int .i64 0, .int .i64 0] 38))
    have HE0 := hid (show EntAt (w.alloc (.cells #[.int .i64 0, .int .i64 0, .int .i64 0] 38)) w.heap.size 38 (0, 0, 0) from heap_alloc_new _ _)
    generalize w.alloc _ = w0 at *
    go_wp2_with fail
    refine (HF.out w0 (HI.out.below HB0.out)).mono ?_
    rintro e w1 ⟨rfl, hb1⟩
    have HE1 := hid (HE0.out.below hb1)
    have HB1 := hid (HB0.out.trans (hb1.mono HB0.out.size))
    have HI1 := hid (HI.out.below HB1.out)
    have HI0 := HI
    clear hb1 HF HE0 HB0 HI
    obtain ⟨ao, cap', he, hes⟩ := HI1.out.own.es
    obtain rfl : some ⟨g, 0, none⟩ = ao := by injection he
    obtain ⟨g', hg', q0, q1, q2⟩ := hes ct hlt
    obtain rfl : g = g' := by injection hg' with h; injection h
    rw [hat] at q0 q1 q2
    dsimp only at q0 q1 q2
    have c2 := HI1.out.c2
    clear hes he hg' hat
    go_upto_region 5 with (fail)
    have HB2 := hid (HB1.out.trans (((Below.refl w1.heap.size w1).alloc (Nat.le_refl _) (.cells #[.int .i64 yu, .int .i64 yf, .int .i64 ym] 38)).mono HB1.out.size))
    have HE2 := hid (HE1.out.below ((Below.refl w1.heap.size w1).alloc (Nat.le_refl _) (.cells #[.int .i64 yu, .int .i64 yf, .int .i64 ym] 38)))
    have HX2 := hid (show EntAt (w1.alloc (.cells #[.int .i64 yu, .int .i64 yf, .int .i64 ym] 38)) w1.heap.size 38 (yu, yf, ym) from heap_alloc_new _ _)
    have hE2 := HE1.out.lt
    generalize w1.heap.size = E at *
    generalize w1.alloc _ = w2 at *
    have HI2 := hid (HI0.out.below HB2.out)
    clear q0 q1 q2 c2 HI1 HE1 HB1
    have c2 := HI2.out.c2
    have hde := edelete_any g cap m ct L w2 HI2.out.own HM.out hm1 hct
    rw [show ((ct + 1 : Nat) : Int) = (ct : Int) + 1 from by omega] at hde
    have HD := hid hde
    clear hde
    go_wp2_with fail
    refine HD.out.mono ?_
    rintro e w3 ⟨rfl, ho3, hk3⟩
    have hbg : b ≠ g := by intro e; exact HI2.out.ne (by rw [e]; rfl)
    have hr3 := (hk3.block b HI2.out.lt hbg).trans HI2.out.row
    have hx3 : EntAt w3 E 38 (yu, yf, ym) := (hk3.block E HX2.out.lt (by show ¬ E = g; omega)).trans HX2.out
    have he3 : EntAt w3 w.heap.size 38 (0, 0, 0) := (hk3.block _ HE2.out.lt (by show ¬ w.heap.size = g; omega)).trans HE2.out
    have HK3 := hid ((KeptQ.of_below (p := fun k => k = g) HB2.out).trans hk3)
    have HO3 := hid ho3
    have HR3 := hid hr3
    have HX3 := hid hx3
    have HE3 := hid he3
    have hbl := HI0.out.lt
    clear ho3 hk3 hr3 hx3 he3 HD c2 HX2 HE2 HB2 HI2
    have c2 : w3.cell? ⟨b, 2, none⟩ = some (.slice (some ⟨g, 0, none⟩) (m + 1) cap) := by rw [cell_of_row _ _ _ _ _ _ HR3.out]; rfl
    have f2 := frozen_of_row w3 b 2 _ _ HR3.out
    go_upto_region 6 with (fail)
    generalize hW4 : w3.setCell _ _ = w4
    have hk4 : KeptQ (fun k => k = b) w3 w4 := by rw [← hW4]; exact KeptQ.setCell _ _ _ rfl
    have hrow4 : w4.heap[b]? = some (.cells #[.int .i64 V, .int .i64 X, .slice (some ⟨g, 0, none⟩) m cap] 62 (0, 0)) := by
      rw [← hW4, heap_setCell_same _ b 2 _ _ _ HR3.out]
      rfl
    have hx4 : EntAt w4 E 38 (yu, yf, ym) := (hk4.block E HX3.out.lt (by show ¬ E = b; omega)).trans HX3.out
    have he4 : EntAt w4 w.heap.size 38 (0, 0, 0) := (hk4.block _ HE3.out.lt (by show ¬ w.heap.size = b; omega)).trans HE3.out
    have H4 := hid (show IsB w4 b (.slice (some ⟨g, 0, none⟩) m cap) V X (L.take ct ++ L.drop (ct + 1)) from ⟨hrow4, HO3.out.at (fun k hk => hk4.block k (HO3.out.lt hk) (by have hk : k = g := Option.some.inj hk; show ¬ k = b; omega))⟩)
    have HT4 := hid (show BxTo w b (.slice (some ⟨g, 0, none⟩) (m + 1) cap) w4 (.slice (some ⟨g, 0, none⟩) m cap) from
      ⟨(HK3.out.mono (fun k hk => Or.inr (by rw [hk]; rfl))).trans (hk4.mono (fun k hk => Or.inl hk)), fun k hk => Or.inl hk⟩)
    have HX4 := hid hx4
    have HE4 := hid he4
    clear hW4 hk4 hrow4 hx4 he4 c2 f2 HR3 HX3 HE3 HO3 HK3
    obtain ⟨q0, q1, q2⟩ := HX4.out.c
    dsimp only at q0 q1 q2
    obtain ⟨⟨z0, s0⟩, f0, s1, f1, s2, f2⟩ := HE4.out.wr
    go_wp2
    refine ret_ent Try.results15 _ _ w.heap.size (yu, yf, ym) (.int .i64 0) ?_ (HE4.out.set yu yf ym) ?_ ?_ ?_
    · rfl
    · rfl
    · rfl
    have hk5 := EntAt.kept (w := w4) (B := w.heap.size) yu yf ym
    have hs9 := HT4.out.1.size
    refine ⟨rfl, _, H4.out.kept hk5 ?_, ⟨⟨hk5.os.trans HT4.out.1.os, hk5.tape.trans HT4.out.1.tape, hk5.output.trans HT4.out.1.output, Nat.le_trans hs9 hk5.size, fun k hk hn => (hk5.block k (by omega) (by show ¬ k = w.heap.size; omega)).trans (HT4.out.1.block k hk hn)⟩, HT4.out.2⟩⟩
    rintro k (rfl | hk)
    · show ¬ k = w.heap.size; omega
    · have hk : k = g := Option.some.inj hk; show ¬ k = w.heap.size; omega
end Go.Proofs.Ytlfjhpmachblkaa
