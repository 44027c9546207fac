/-
  Layer 8: what is sealed by an ideal suite, and opened; a new one.
-/
import Derived.Test.YtnhecallffkedabDoorSu1
import Derived.Lib.MinMax
import Derived.Great.BuildSlice
import Derived.Laws.ResultCell
namespace Go.Proofs.YtnhecallffkedabDoor
open Go.ChangeShapes Go.WideShapes Go.ChangeAt Go.RowKit
open Go.Maps (Keyed)
open Go.Lib (hid)

theorem wpQuiet_build {P : Program} {ops : Array Oper} {C : World → Prop} {Q : Act → Prop} {rest : List Oper} {o : Oper} {a : Act} (hgd : Region.wanted o (yielded ops a.tmps) = true) (ty : TypeId) (parts : Array (Nat × Operand)) (ho : o.op = .build ty parts)
    (vals : Array (Nat × Value)) (hv : (parts.map fun (i, x) => (i, a.eval x)) = vals) (cs : Array Value) (hc : ∀ w, C w → (Instr.build ty vals).run P w = .ok (.agg cs) w)
    (h : wpQuiet P ops C Q rest (a.put o.dst (.agg cs))) : wpQuiet P ops C Q (o :: rest) a := by
  refine wpQuiet_step (fun K hK => ?_)
  rw [if_pos hgd]
  refine ⟨.agg cs, fun w hw => ?_, hK _ h⟩
  unfold Oper.quietAt execOp
  simp only [ho, hv, Sem.run_bind, Sem.run_pure, Result.andThen_ok, hc w hw]
  exact ⟨rfl, rfl⟩
set_option maxRecDepth 100000 in
theorem atLimited_any (x y : Int) (w : World) :
    Calls Tryd.prog 21 #[.agg #[.int .i64 x, .int .i64 y]] w fun e w' => e = .returned (atV (Iv.lim x, Iv.lim y)) ∧ Below w.heap.size w w' := by
  have h1 := Iv.lim_nat x
  have h2 := Iv.lim_nat y
  go_enter Tryd.func21, Tryd.ntmps21
  go_wp2
  refine bodyPost_ret (v := .agg #[.int .i64 (max 0 (min x 1099511627776)), .int .i64 (max 0 (min y 1099511627776))])
    (results_cell_row Tryd.results21 _ _ (w.heap.size + 1) _ _ _ _ rfl (heap_alloc2_new _ _ _) Tryd.underlying33 rfl (by kernel_rfl)) rfl
    ⟨by rw [atV, h1, h2], ((Below.refl _ _).alloc (Nat.le_refl _) _).alloc (by simp) _⟩
theorem run_seal (w : World) (ad p c : ByteArray) : (Instr.build 88 #[(0, .string ad), (1, .string p), (2, .string c)]).run Tryd.prog w = .ok (sealV (ad, p, c)) w := run_build w _ _ _ (by kernel_rfl)

set_option maxHeartbeats 1000000 in
set_option maxRecDepth 100000 in
theorem hide_any (b b1 b2 b3 : Nat) (v : Iv.V) (hT : ∀ x ∈ v.T, x < 256) (hT0 : 0 < v.T.length) (hTl : v.T.length ≤ 1000000) (hd : v.d ≤ 4000000000000000000) (p : Nat × Nat) (hp : p.1 ≤ 1099511627776 ∧ p.2 ≤ 1099511627776) (ad pl : ByteArray) (hn : pl.size + 16 ≤ 1000000) (w : World) (h : IsI w b b1 b2 b3 v) :
    Calls Tryd.prog 22 #[.pointer (some ⟨b, 0, none⟩), atV p, .string ad, .string pl] w fun e w' => e = .returned (.string (str (Iv.take v.T v.d (pl.size + 16)))) ∧
      IsI w' b b1 b2 b3 { v with d := v.d + (pl.size + 16), S := Mp.put v.S p (ad, pl, str (Iv.take v.T v.d (pl.size + 16))) } ∧ KeptP (fun k => k = b ∨ k = b1) w w' := by
  obtain ⟨n, hnn⟩ : ∃ n, n = pl.size + 16 := ⟨_, rfl⟩
  rw [← hnn]
  have HD := hid (fun wx hx => draw_any b v.T v.d b1 b2 b3 n hT hT0 hTl hd (by omega) 50 wx hx)
  have hni : (pl.size : Int) + 16 = (n : Int) := by omega
  have HH := hid h
  have hne := h.ne
  have hbl := (Array.getElem?_eq_some_iff.1 h.row).1
  clear h hnn
  obtain ⟨C, hC⟩ : ∃ C, C = str (Iv.take v.T v.d n) := ⟨_, rfl⟩
  rw [← hC] at HD ⊢
  clear hC
  unfold atV
  go_enter Tryd.func22, Tryd.ntmps22
  go_upto_region 1 with (fail)
  have HB0 := hid (show Below w.heap.size w (w.alloc (.cells #[.int .i64 (p.1 : Int), .int .i64 (p.2 : Int)] 33)) from (Below.refl _ _).alloc (Nat.le_refl _) _)
  have HA0 := hid (heap_alloc_new w (.cells #[.int .i64 (p.1 : Int), .int .i64 (p.2 : Int)] 33))
  generalize w.alloc _ = w0 at *
  have H0 := hid (HH.out.below HB0.out)
  go_wp2_with fail
  refine (HD.out _ H0.out.row).mono ?_
  rintro e w1 ⟨rfl, hr1, hk1⟩
  have hs0 := HB0.out.size
  have hwb : w.heap.size ≠ b := by omega
  have hwl : w.heap.size < w0.heap.size := (Array.getElem?_eq_some_iff.1 HA0.out).1
  have ha1 : w1.heap[w.heap.size]? = some (.cells #[.int .i64 (p.1 : Int), .int .i64 (p.2 : Int)] 33 (0, 0)) := (hk1.block _ hwl hwb).trans HA0.out
  have hm1 : MapM wayS w1 b1 v.S := H0.out.m1.at (hk1.block _ H0.out.m1.lt hne.1)
  have hm2 : MapM wayL w1 b2 v.L := H0.out.m2.at (hk1.block _ H0.out.m2.lt hne.2.1)
  have hm3 : MapM wayM w1 b3 v.M := H0.out.m3.at (hk1.block _ H0.out.m3.lt hne.2.2)
  obtain ⟨_, _, c2, _, _, _⟩ := suC_cells hr1
  have e0 : w1.cell? ⟨w.heap.size, 0, none⟩ = some (.int .i64 (p.1 : Int)) := by rw [cell_of_row _ _ _ _ _ _ ha1]; rfl
  have e1 : w1.cell? ⟨w.heap.size, 1, none⟩ = some (.int .i64 (p.2 : Int)) := by rw [cell_of_row _ _ _ _ _ _ ha1]; rfl
  have HR1 := hid hr1
  have HK1 := hid hk1
  have M1 := hid hm1
  have M2 := hid hm2
  have M3 := hid hm3
  have HN := hid hne
  clear hr1 hk1 hm1 hm2 hm3 HD ha1 hne
  go_upto_region 3 with (fail)
  refine wp_region_noPanic ?_
  refine wp_region_hd1 9 1 rfl (by kernel_rfl) (by kernel_rfl) (fun _ _ _ _ _ h => h) ?_
  simp only [List.take_succ_cons, List.take_zero, List.drop_succ_cons, List.drop_zero]
  repeat (go_big_quiet_step (refine wpQuiet_build rfl _ _ rfl _ rfl _ (fun w _ => run_seal w _ _ _) ?_))
  refine wpQuiet_nil ?_
  intro m
  have M1m : MapM wayS (w1.drewN m) b1 v.S := M1.out.at rfl
  go_wp2_with (refine wpList_put _ rfl _ _ _ _ rfl wayS 88 law_At Tryd.underlying42 b1 v.S rfl M1m p rfl ⟨by omega, by omega⟩ (ad, pl, C) rfl ?_; intro w2 hm2 hk2)
  refine NoPanic.normal ?_
  go_wp2
  go_ret
  have hk2' : KeptB b1 w1 w2 := (show KeptB b1 w1 (w1.drewN m) from ⟨rfl, rfl, rfl, Nat.le_refl _, fun _ _ _ => rfl⟩).trans hk2
  have hnm := HH.out
  refine ⟨rfl, ⟨(hk2'.block b (Array.getElem?_eq_some_iff.1 HR1.out).1 (Ne.symm HN.out.1)).trans HR1.out, hm2, M2.out.at (hk2'.block _ M2.out.lt (Ne.symm hnm.n12)), M3.out.at (hk2'.block _ M3.out.lt (Ne.symm hnm.n13)), hnm.n12, hnm.n13, hnm.n23⟩, ?_⟩
  exact ((KeptP.of_below HB0.out).trans (KeptP.of_keptB HK1.out (Or.inl rfl))).trans (KeptP.of_keptB hk2' (Or.inr rfl))

theorem bytes_beq (a b : ByteArray) : (a.toList == b.toList) = decide (a = b) := by
  have h := str_beq (nums a) (nums b) (nums_lt a) (nums_lt b)
  rw [str_nums, str_nums] at h
  rw [h]
  by_cases e : a = b
  · subst e; simp
  · rw [decide_eq_false e, beq_eq_false_iff_ne]
    exact fun h2 => e (by rw [← str_nums a, ← str_nums b, h2])
/-- What is opened. -/
def Iv.open_ (S : List ((Nat × Nat) × (ByteArray × ByteArray × ByteArray))) (p : Nat × Nat) (ad c : ByteArray) : ByteArray × Bool :=
  match Mp.get S p with
  | some x => if x.1 = ad ∧ x.2.2 = c then (x.2.1, true) else (⟨#[]⟩, false)
  | none => (⟨#[]⟩, false)
set_option maxRecDepth 100000 in
theorem zero_seal (w : World) : (zeroValue 88).run Tryd.prog w = .ok (sealV (⟨#[]⟩, ⟨#[]⟩, ⟨#[]⟩)) w := by
  kernel_rfl

set_option maxHeartbeats 1000000 in
set_option maxRecDepth 100000 in
theorem recall_any (b b1 b2 b3 : Nat) (v : Iv.V) (p : Nat × Nat) (hp : p.1 ≤ 1099511627776 ∧ p.2 ≤ 1099511627776) (ad c : ByteArray) (w : World) (h : IsI w b b1 b2 b3 v) :
    Calls Tryd.prog 28 #[.pointer (some ⟨b, 0, none⟩), atV p, .string ad, .string c] w fun e w' => e = .returned (.tuple #[.string (Iv.open_ v.S p ad c).1, .bool (Iv.open_ v.S p ad c).2]) ∧ Below w.heap.size w w' := by
  obtain ⟨r, hr⟩ : ∃ r, r = Iv.open_ v.S p ad c := ⟨_, rfl⟩
  rw [← hr]
  have HR := hid hr
  have HH := hid h
  have hbl := (Array.getElem?_eq_some_iff.1 h.row).1
  clear h hr
  unfold atV
  go_enter Tryd.func28, Tryd.ntmps28
  go_upto_region 1 with (fail)
  have HB0 := hid (show Below w.heap.size w (w.alloc (.cells #[.int .i64 (p.1 : Int), .int .i64 (p.2 : Int)] 33)) from (Below.refl _ _).alloc (Nat.le_refl _) _)
  have HA0 := hid (heap_alloc_new w (.cells #[.int .i64 (p.1 : Int), .int .i64 (p.2 : Int)] 33))
  generalize w.alloc _ = w0 at *
  have H0 := hid (HH.out.below HB0.out)
  obtain ⟨_, _, c2, _, _, _⟩ := suC_cells H0.out.row
  have e0 : w0.cell? ⟨w.heap.size, 0, none⟩ = some (.int .i64 (p.1 : Int)) := by rw [cell_of_row _ _ _ _ _ _ HA0.out]; rfl
  have e1 : w0.cell? ⟨w.heap.size, 1, none⟩ = some (.int .i64 (p.2 : Int)) := by rw [cell_of_row _ _ _ _ _ _ HA0.out]; rfl
  have HP := hid (show wayS.ok p from ⟨by omega, by omega⟩)
  generalize hZ : (Obj.cells #[.string ⟨#[]⟩, .string ⟨#[]⟩, .string ⟨#[]⟩] 88 (0, 0)) = Z
  have HZ := hid hZ
  have hbz := fun k (hk : k < w0.heap.size) => Below.heap_alloc w0 Z k hk
  have hz0 := (Array.getElem?_eq_some_iff.1 HA0.out).1
  have hzb := (Array.getElem?_eq_some_iff.1 H0.out.row).1
  have c2' : (w0.alloc Z).cell? ⟨b, 2, none⟩ = some (.map (some b1)) := (suC_cells ((hbz b hzb).trans H0.out.row)).2.2.1
  have e0' : (w0.alloc Z).cell? ⟨w.heap.size, 0, none⟩ = some (.int .i64 (p.1 : Int)) := by rw [cell_of_row _ _ _ _ _ _ ((hbz _ hz0).trans HA0.out)]; rfl
  have e1' : (w0.alloc Z).cell? ⟨w.heap.size, 1, none⟩ = some (.int .i64 (p.2 : Int)) := by rw [cell_of_row _ _ _ _ _ _ ((hbz _ hz0).trans HA0.out)]; rfl
  clear hbz
  subst hZ
  cases hg : Mp.get v.S p with
  | none =>
    have l1 := MapM.look_none (w := w0.drew) (H0.out.m1.at rfl) law_At Tryd.underlying42 (zero_seal _) HP.out hg true
    have l2 := MapM.look_none (w := (w0.alloc (.cells #[.string ⟨#[]⟩, .string ⟨#[]⟩, .string ⟨#[]⟩] 88)).drew) ((H0.out.m1.alloc _).at rfl) law_At Tryd.underlying42 (zero_seal _) HP.out hg true
    rw [if_pos rfl] at l1 l2
    simp only [wayS, atV, sealV] at l1 l2
    have HRR := hid (show r = (⟨#[]⟩, false) from by rw [HR.out, Iv.open_, hg])
    clear hg
    have hb2 : Below w.heap.size w ((w0.alloc (.cells #[.string ⟨#[]⟩, .string ⟨#[]⟩, .string ⟨#[]⟩] 88)).drew) := (HB0.out.alloc HB0.out.size _).drew
    have HB2 := hid hb2
    clear hb2
    go_region
    all_goals (
      clear l1 l2 c2 c2' e0 e0' e1 e1'
      go_wp2
      refine bodyPost_ret (results_tmp2 Tryd.results28 _ _ _) rfl ?_
      exact ⟨by rw [HRR.out]; rfl, HB2.out⟩)
  | some x =>
    obtain ⟨ad', pl, c'⟩ := x
    have l1 := MapM.look_some (w := w0.drew) (H0.out.m1.at rfl) law_At Tryd.underlying42 HP.out hg true
    have l2 := MapM.look_some (w := (w0.alloc (.cells #[.string ⟨#[]⟩, .string ⟨#[]⟩, .string ⟨#[]⟩] 88)).drew) ((H0.out.m1.alloc _).at rfl) law_At Tryd.underlying42 HP.out hg true
    rw [if_pos rfl] at l1 l2
    simp only [wayS, atV, sealV] at l1 l2
    have HRR := hid (show r = if ad' = ad ∧ c' = c then (pl, true) else (⟨#[]⟩, false) from by rw [HR.out, Iv.open_, hg])
    clear hg
    have HB2 := hid (show Below w.heap.size w ((w0.alloc (.cells #[.string ad', .string pl, .string c'] 88)).drew) from (HB0.out.alloc HB0.out.size _).drew)
    go_region
    all_goals (
      clear l1 l2 c2 c2' e0 e0' e1 e1'
      have s1 : (ad'.toList == ad.toList) = decide (ad' = ad) := bytes_beq _ _
      have s2 : (c'.toList == c.toList) = decide (c' = c) := bytes_beq _ _
      by_cases h1 : ad' = ad
      · by_cases h2 : c' = c
        · rw [if_pos ⟨h1, h2⟩] at HRR
          rw [decide_eq_true h1] at s1
          rw [decide_eq_true h2] at s2
          clear h1 h2
          go_wp2
          refine bodyPost_ret (results_tmp2 Tryd.results28 _ _ _) rfl ?_
          exact ⟨by rw [HRR.out]; rfl, HB2.out⟩
        · rw [if_neg (fun h => h2 h.2)] at HRR
          rw [decide_eq_true h1] at s1
          rw [decide_eq_false h2] at s2
          clear h1 h2
          go_wp2
          refine bodyPost_ret (results_tmp2 Tryd.results28 _ _ _) rfl ?_
          exact ⟨by rw [HRR.out]; rfl, HB2.out⟩
      · rw [if_neg (fun h => h1 h.1)] at HRR
        rw [decide_eq_false h1] at s1
        clear h1 s2
        go_wp2
        refine bodyPost_ret (results_tmp2 Tryd.results28 _ _ _) rfl ?_
        exact ⟨by rw [HRR.out]; rfl, HB2.out⟩)
end Go.Proofs.YtnhecallffkedabDoor
