/-
  Layer 8: Seal and Open of an ideal suite; a new one.
-/
import Derived.Test.YtnhecallffkedabDoorSu2
namespace Go.Proofs.YtnhecallffkedabDoor
open Go.ChangeShapes Go.WideShapes Go.ChangeAt Go.RowKit
open Go.Lib (hid)

set_option maxHeartbeats 1000000 in
set_option maxRecDepth 100000 in
theorem seal_any (b b1 b2 b3 : Nat) (v : Iv.V) (hT : ∀ x ∈ v.T, x < 256) (hT0 : 0 < v.T.length) (hTl : v.T.length ≤ 1000000) (hd : v.d ≤ 4000000000000000000) (x y : Int) (ad pl : ByteArray) (hn : pl.size + 16 ≤ 1000000) (w : World) (h : IsI w b b1 b2 b3 v) :
    Calls Tryd.prog 9 #[.pointer (some ⟨b, 0, none⟩), .agg #[.int .i64 x, .int .i64 y], .string ad, .string pl] w fun e w' => e = .returned (.string (str (Iv.take v.T v.d (pl.size + 16)))) ∧
      IsI w' b b1 b2 b3 { v with d := v.d + (pl.size + 16), S := Mp.put v.S (Iv.lim x, Iv.lim y) (ad, pl, str (Iv.take v.T v.d (pl.size + 16))) } ∧ KeptP (fun k => k = b ∨ k = b1) w w' := by
  have HH := hid h
  have hbl := (Array.getElem?_eq_some_iff.1 h.row).1
  have HL := hid (fun wx => atLimited_any x y wx)
  have hl1 := Iv.lim_le x
  have hl2 := Iv.lim_le y
  obtain ⟨p, hp⟩ : ∃ p, p = (Iv.lim x, Iv.lim y) := ⟨_, rfl⟩
  rw [← hp] at HL ⊢
  have hp1 : p.1 ≤ 1099511627776 := by rw [hp]; exact hl1
  have hp2 : p.2 ≤ 1099511627776 := by rw [hp]; exact hl2
  have HD := hid (fun wx hx => hide_any b b1 b2 b3 v hT hT0 hTl hd p ⟨hp1, hp2⟩ ad pl hn wx hx)
  obtain ⟨C, hC⟩ : ∃ C, C = str (Iv.take v.T v.d (pl.size + 16)) := ⟨_, rfl⟩
  rw [← hC] at HD ⊢
  obtain ⟨v', hv'⟩ : ∃ v', v' = { v with d := v.d + (pl.size + 16), S := Mp.put v.S p (ad, pl, C) } := ⟨_, rfl⟩
  rw [← hv'] at HD ⊢
  clear hC hv' hp h hl1 hl2 hT hT0 hTl hd
  go_enter Tryd.func9, Tryd.ntmps9
  go_upto_region 1 with (fail)
  have HB0 := hid (show Below w.heap.size w (w.alloc (.cells #[.int .i64 x, .int .i64 y] 33)) from (Below.refl _ _).alloc (Nat.le_refl _) _)
  have HA0 := hid (heap_alloc_new w (.cells #[.int .i64 x, .int .i64 y] 33))
  generalize w.alloc _ = w0 at *
  have e0 : w0.cell? ⟨w.heap.size, 0, none⟩ = some (.int .i64 x) := by rw [cell_of_row _ _ _ _ _ _ HA0.out]; rfl
  have e1 : w0.cell? ⟨w.heap.size, 1, none⟩ = some (.int .i64 y) := by rw [cell_of_row _ _ _ _ _ _ HA0.out]; rfl
  go_wp2_with fail
  refine (HL.out _).mono ?_
  rintro e w1 ⟨rfl, hb1⟩
  unfold atV
  have hlt := (Array.getElem?_eq_some_iff.1 HA0.out).1
  have HA1 := hid ((hb1.block _ hlt).trans HA0.out)
  have HB1 := hid (HB0.out.next (Nat.le_refl _) hb1)
  have f0 := frozen_of_row w1 w.heap.size 0 _ _ HA1.out
  have f1 := frozen_of_row w1 w.heap.size 1 _ _ HA1.out
  have g0 : w1.cell? ⟨w.heap.size, 0, none⟩ = some (.int .i64 x) := by rw [cell_of_row _ _ _ _ _ _ HA1.out]; rfl
  have g1 : w1.cell? ⟨w.heap.size, 1, none⟩ = some (.int .i64 y) := by rw [cell_of_row _ _ _ _ _ _ HA1.out]; rfl
  clear hb1 HA0 HB0 e0 e1 HL hlt
  go_upto_region 2 with (fail)
  generalize hW : World.setCell _ _ _ = w2
  have HA2 := hid (show w2.heap[w.heap.size]? = some (.cells #[.int .i64 (p.1 : Int), .int .i64 (p.2 : Int)] 33 (0, 0)) from by
    rw [← hW, heap_setCell_same _ _ _ _ _ _ (heap_setCell_same w1 w.heap.size 0 _ _ _ HA1.out)]; rfl)
  have HB2 := hid (show Below w.heap.size w w2 from by
    rw [← hW]; exact (HB1.out.setCell (p := ⟨w.heap.size, 0, none⟩) (Nat.le_refl _) _).setCell (p := ⟨w.heap.size, 1, none⟩) (Nat.le_refl _) _)
  clear hW f0 f1 g0 g1 HA1 HB1
  have H2 := hid (HH.out.below HB2.out)
  obtain ⟨_, _, _, _, _, c5⟩ := suC_cells H2.out.row
  have e0 : w2.cell? ⟨w.heap.size, 0, none⟩ = some (.int .i64 (p.1 : Int)) := by rw [cell_of_row _ _ _ _ _ _ HA2.out]; rfl
  have e1 : w2.cell? ⟨w.heap.size, 1, none⟩ = some (.int .i64 (p.2 : Int)) := by rw [cell_of_row _ _ _ _ _ _ HA2.out]; rfl
  go_wp2
  refine wp_region_noPanic ?_
  refine wp_region_hd1 6 2 rfl (by kernel_rfl) (by kernel_rfl) (fun _ _ _ _ _ h => h) ?_
  simp only [List.take_succ_cons, List.take_zero, List.drop_succ_cons, List.drop_zero]
  repeat (go_big_quiet_step (fail))
  refine wpQuiet_nil ?_
  intro m
  have H2m : IsI (w2.drewN m) b b1 b2 b3 v := H2.out.kept (p := fun _ => False) ⟨rfl, rfl, rfl, Nat.le_refl _, fun _ _ _ => rfl⟩ id id id id
  go_wp2_with fail
  refine (HD.out _ H2m).mono ?_
  rintro e w3 ⟨rfl, h3, hk3⟩
  go_wp2
  refine NoPanic.normal ?_
  go_wp2
  go_ret
  exact ⟨rfl, h3, (KeptP.of_below HB2.out).trans ((show KeptP _ w2 (w2.drewN m) from ⟨rfl, rfl, rfl, Nat.le_refl _, fun _ _ _ => rfl⟩).trans hk3)⟩

/-- What stays while it is opened. -/
def OpS (w : World) (b b1 b2 b3 : Nat) (v : Iv.V) (p : Nat × Nat) (u : World) : Prop := IsI u b b1 b2 b3 v ∧ u.heap[w.heap.size]? = some (.cells #[.int .i64 (p.1 : Int), .int .i64 (p.2 : Int)] 33 (0, 0)) ∧ Below w.heap.size w u
theorem OpS.below {w : World} {b b1 b2 b3 : Nat} {v : Iv.V} {p : Nat × Nat} {u u' : World} (h : OpS w b b1 b2 b3 v p u) (hb : Below u.heap.size u u') : OpS w b b1 b2 b3 v p u' :=
  ⟨h.1.below hb, (hb.block _ (Array.getElem?_eq_some_iff.1 h.2.1).1).trans h.2.1, h.2.2.trans (hb.mono h.2.2.size)⟩
set_option maxHeartbeats 1000000 in
set_option maxRecDepth 100000 in
theorem open_any (b b1 b2 b3 : Nat) (v : Iv.V) (x y : Int) (ad c : ByteArray) (w : World) (h : IsI w b b1 b2 b3 v) :
    Calls Tryd.prog 12 #[.pointer (some ⟨b, 0, none⟩), .agg #[.int .i64 x, .int .i64 y], .string ad, .string c] w fun e w' =>
      e = .returned (.tuple #[.string (Iv.open_ v.S (Iv.lim x, Iv.lim y) ad c).1, .bool (Iv.open_ v.S (Iv.lim x, Iv.lim y) ad c).2]) ∧ Below w.heap.size w w' := by
  have HH := hid h
  have hbl := (Array.getElem?_eq_some_iff.1 h.row).1
  have HL := hid (fun wx => atLimited_any x y wx)
  have hl1 := Iv.lim_le x
  have hl2 := Iv.lim_le y
  obtain ⟨p, hp⟩ : ∃ p, p = (Iv.lim x, Iv.lim y) := ⟨_, rfl⟩
  rw [← hp] at HL ⊢
  have hp1 : p.1 ≤ 1099511627776 := by rw [hp]; exact hl1
  have hp2 : p.2 ≤ 1099511627776 := by rw [hp]; exact hl2
  have HD := hid (fun wx hx => recall_any b b1 b2 b3 v p ⟨hp1, hp2⟩ ad c wx hx)
  obtain ⟨r, hr⟩ : ∃ r, r = Iv.open_ v.S p ad c := ⟨_, rfl⟩
  rw [← hr] at HD ⊢
  clear hr hp h hl1 hl2
  go_enter Tryd.func12, Tryd.ntmps12
  go_upto_region 1 with (fail)
  have HB0 := hid (show Below w.heap.size w (w.alloc (.cells #[.int .i64 x, .int .i64 y] 33)) from (Below.refl _ _).alloc (Nat.le_refl _) _)
  have HA0 := hid (heap_alloc_new w (.cells #[.int .i64 x, .int .i64 y] 33))
  generalize w.alloc _ = w0 at *
  have e0 : w0.cell? ⟨w.heap.size, 0, none⟩ = some (.int .i64 x) := by rw [cell_of_row _ _ _ _ _ _ HA0.out]; rfl
  have e1 : w0.cell? ⟨w.heap.size, 1, none⟩ = some (.int .i64 y) := by rw [cell_of_row _ _ _ _ _ _ HA0.out]; rfl
  go_wp2_with fail
  refine (HL.out _).mono ?_
  rintro e w1 ⟨rfl, hb1⟩
  unfold atV
  have hlt := (Array.getElem?_eq_some_iff.1 HA0.out).1
  have HA1 := hid ((hb1.block _ hlt).trans HA0.out)
  have HB1 := hid (HB0.out.next (Nat.le_refl _) hb1)
  have f0 := frozen_of_row w1 w.heap.size 0 _ _ HA1.out
  have f1 := frozen_of_row w1 w.heap.size 1 _ _ HA1.out
  have g0 : w1.cell? ⟨w.heap.size, 0, none⟩ = some (.int .i64 x) := by rw [cell_of_row _ _ _ _ _ _ HA1.out]; rfl
  have g1 : w1.cell? ⟨w.heap.size, 1, none⟩ = some (.int .i64 y) := by rw [cell_of_row _ _ _ _ _ _ HA1.out]; rfl
  clear hb1 HA0 HB0 e0 e1 HL hlt
  go_upto_region 2 with (fail)
  generalize hW : World.setCell _ _ _ = w2
  have HA2 := hid (show w2.heap[w.heap.size]? = some (.cells #[.int .i64 (p.1 : Int), .int .i64 (p.2 : Int)] 33 (0, 0)) from by
    rw [← hW, heap_setCell_same _ _ _ _ _ _ (heap_setCell_same w1 w.heap.size 0 _ _ _ HA1.out)]; rfl)
  have HB2 := hid (show Below w.heap.size w w2 from by
    rw [← hW]; exact (HB1.out.setCell (p := ⟨w.heap.size, 0, none⟩) (Nat.le_refl _) _).setCell (p := ⟨w.heap.size, 1, none⟩) (Nat.le_refl _) _)
  clear hW f0 f1 g0 g1 HA1 HB1
  have H2 := hid (HH.out.below HB2.out)
  obtain ⟨_, _, _, _, _, c5⟩ := suC_cells H2.out.row
  have e0 : w2.cell? ⟨w.heap.size, 0, none⟩ = some (.int .i64 (p.1 : Int)) := by rw [cell_of_row _ _ _ _ _ _ HA2.out]; rfl
  have e1 : w2.cell? ⟨w.heap.size, 1, none⟩ = some (.int .i64 (p.2 : Int)) := by rw [cell_of_row _ _ _ _ _ _ HA2.out]; rfl
  go_wp2
  refine wp_region_class (OpS w b b1 b2 b3 v p) (by kernel_rfl) (by kernel_rfl) ⟨H2.out.kept (p := fun _ => False) ⟨rfl, rfl, rfl, Nat.le_refl _, fun _ _ _ => rfl⟩ id id id id, HA2.out, HB2.out.trans ⟨rfl, rfl, rfl, Nat.le_refl _, fun _ _ => rfl⟩⟩ ?_
  intro Z φ hne hSφ hφ
  have C1 := hid (fun z => calls_class hφ ((HD.out (φ z) (hSφ z).1).mono fun e w' h => ⟨h.1, (hSφ z).below h.2⟩))
  have cz0 : ∀ z, (φ z).cell? ⟨w.heap.size, 0, none⟩ = some (.int .i64 (p.1 : Int)) := fun z => by rw [cell_of_row _ _ _ _ _ _ (hSφ z).2.1]; rfl
  have cz1 : ∀ z, (φ z).cell? ⟨w.heap.size, 1, none⟩ = some (.int .i64 (p.2 : Int)) := fun z => by rw [cell_of_row _ _ _ _ _ _ (hSφ z).2.1]; rfl
  have HSZ := hid hSφ
  clear hSφ hφ e0 e1 c5
  unfold atV at C1
  repeat (go_big_quiet_step (first | (go_at_call 28; exact C1.out _)))
  refine wpQuiet_nil ?_
  intro z
  have HS5 := hid (HSZ.out z)
  clear C1 cz0 cz1 HSZ
  generalize φ z = w5 at *
  go_wp2
  refine bodyPost_ret (results_tmp2 Tryd.results12 _ _ _) rfl ?_
  exact ⟨rfl, HS5.out.2.2⟩

theorem bytes_isEmpty (a : ByteArray) : a.toList.isEmpty = decide (a = ⟨#[]⟩) := by
  have e : (⟨#[]⟩ : ByteArray).toList = [] := by
    rw [ByteArray.toList, ByteArray.toList.loop]
    rfl
  rw [← bytes_beq, e]
  cases h : a.toList with
  | nil => rfl
  | cons x l => rfl
theorem four_blocks (w : World) (o : Obj) (W : World) (hW : (((w.alloc o).alloc (.map #[] 0)).alloc (.map #[] 0)).alloc (.map #[] 0) = W) :
    W.heap[w.heap.size]? = some o ∧ MapM wayS W (w.heap.size + 1) [] ∧ MapM wayL W (w.heap.size + 1 + 1) [] ∧ MapM wayM W (w.heap.size + 1 + 1 + 1) [] ∧ Below w.heap.size w W := by
  have z1 : (w.alloc o).heap.size = w.heap.size + 1 := World.size_alloc _ _
  have z2 : ((w.alloc o).alloc (.map #[] 0)).heap.size = w.heap.size + 1 + 1 := by rw [World.size_alloc, z1]
  have z3 : (((w.alloc o).alloc (.map #[] 0)).alloc (.map #[] 0)).heap.size = w.heap.size + 1 + 1 + 1 := by rw [World.size_alloc, z2]
  have m1 := mapM_made (w.alloc o) wayS
  have m2 := mapM_made ((w.alloc o).alloc (.map #[] 0)) wayL
  have m3 := mapM_made (((w.alloc o).alloc (.map #[] 0)).alloc (.map #[] 0)) wayM
  rw [z1] at m1
  rw [z2] at m2
  rw [z3] at m3
  refine ⟨?_, ?_, ?_, ?_, ?_⟩
  · rw [← hW, Below.heap_alloc _ _ _ (by rw [z3]; omega), Below.heap_alloc _ _ _ (by rw [z2]; omega), Below.heap_alloc _ _ _ (by rw [z1]; omega)]
    exact heap_alloc_new _ _
  · rw [← hW]; exact (m1.alloc _).alloc _
  · rw [← hW]; exact m2.alloc _
  · rw [← hW]; exact m3
  · rw [← hW]
    exact ((((Below.refl _ w).alloc (Nat.le_refl _) _).alloc (by rw [z1]; omega) _).alloc (by rw [z2]; omega) _).alloc (by rw [z3]; omega) _
/-- A tape of no bytes counts as one nought. -/
def Iv.tapeOf (T : List Nat) : List Nat := if T = [] then [0] else T
theorem run_ideal (w : World) (s : ByteArray) (m1 m2 m3 : Nat) : (Instr.build 46 #[(0, .string s), (2, .map (some m1)), (3, .map (some m2)), (4, .map (some m3))]).run Tryd.prog w = .ok (.agg #[.string s, .int .i64 0, .map (some m1), .map (some m2), .map (some m3)]) w := run_build w _ _ _ (by kernel_rfl)

set_option maxHeartbeats 1000000 in
set_option maxRecDepth 100000 in
theorem blank_any (T : List Nat) (w : World) (hT : T.length ≤ 1000000) :
    Calls Tryd.prog 14 #[.string (str T)] w fun e w' => ∃ b1 b2 b3, e = .returned (.agg #[.string (str (Iv.tapeOf T)), .int .i64 0, .map (some b1), .map (some b2), .map (some b3)]) ∧
      MapM wayS w' b1 [] ∧ MapM wayL w' b2 [] ∧ MapM wayM w' b3 [] ∧ b1 ≠ b2 ∧ b1 ≠ b3 ∧ b2 ≠ b3 ∧ w.heap.size ≤ b1 ∧ w.heap.size ≤ b2 ∧ w.heap.size ≤ b3 ∧ Below w.heap.size w w' := by
  go_enter Tryd.func14, Tryd.ntmps14
  have s1 : (str T).toList.isEmpty = decide (T = []) := by
    rw [bytes_isEmpty]
    by_cases e : T = []
    · subst e; rfl
    · rw [decide_eq_false e, decide_eq_false]
      intro h
      have := congrArg ByteArray.size h
      rw [str_size] at this
      exact e (List.eq_nil_of_length_eq_zero this)
  have mk1 := fun wx => run_makeMap (P := Tryd.prog) 42 wx
  have mk2 := fun wx => run_makeMap (P := Tryd.prog) 43 wx
  have mk3 := fun wx => run_makeMap (P := Tryd.prog) 44 wx
  have hTO : ∃ X, X = str (Iv.tapeOf T) := ⟨_, rfl⟩
  obtain ⟨X, hX⟩ := hTO
  rw [← hX]
  have HX := hid hX
  clear hX
  obtain ⟨ST, hST⟩ : ∃ ST, ST = str T := ⟨_, rfl⟩
  rw [← hST] at s1 ⊢
  have HST := hid hST
  clear hST
  by_cases hn : T = []
  · rw [decide_eq_true hn] at s1
    have hX : X = ⟨#[0]⟩ := by rw [HX.out, Iv.tapeOf, if_pos hn]; rfl
    go_wp2
    generalize hW : World.alloc _ _ = W
    obtain ⟨h0, h1, h2, h3, hb⟩ := four_blocks _ _ W hW
    refine bodyPost_ret (v := .agg _) (results_cell_row Tryd.results14 _ _ w.heap.size _ _ _ _ rfl h0 Tryd.underlying46 rfl (by kernel_rfl)) rfl ?_
    exact ⟨_, _, _, by rw [hX], h1, h2, h3, by omega, by omega, by omega, by omega, by omega, by omega, hb⟩
  · rw [decide_eq_false hn] at s1
    have hX : X = ST := by rw [HX.out, Iv.tapeOf, if_neg hn, HST.out]
    go_wp2
    generalize hW : World.alloc _ _ = W
    obtain ⟨h0, h1, h2, h3, hb⟩ := four_blocks _ _ W hW
    refine bodyPost_ret (v := .agg _) (results_cell_row Tryd.results14 _ _ w.heap.size _ _ _ _ rfl h0 Tryd.underlying46 rfl (by kernel_rfl)) rfl ?_
    exact ⟨_, _, _, by rw [hX], h1, h2, h3, by omega, by omega, by omega, by omega, by omega, by omega, hb⟩
theorem run_suite (w : World) (s : ByteArray) (m1 m2 m3 : Nat) : (Instr.build 50 #[(0, .agg #[.string s, .int .i64 0, .map (some m1), .map (some m2), .map (some m3)])]).run Tryd.prog w = .ok (.agg #[.string s, .int .i64 0, .map (some m1), .map (some m2), .map (some m3), .pointer none]) w := run_build w _ _ _ (by kernel_rfl)
theorem Iv.tapeOf_ok (T : List Nat) (h : ∀ x ∈ T, x < 256) : 0 < (Iv.tapeOf T).length ∧ (∀ x ∈ Iv.tapeOf T, x < 256) ∧ (Iv.tapeOf T).length ≤ T.length + 1 := by
  unfold Iv.tapeOf
  split
  · simp
  · rename_i hn
    refine ⟨List.length_pos_iff.2 hn, h, by omega⟩

set_option maxHeartbeats 1000000 in
set_option maxRecDepth 100000 in
theorem ideal_any (T : List Nat) (w : World) (hT : T.length ≤ 1000000) :
    Calls Tryd.prog 4 #[.string (str T)] w fun e w' => ∃ b b1 b2 b3, e = .returned (.pointer (some ⟨b, 0, none⟩)) ∧ IsI w' b b1 b2 b3 ⟨Iv.tapeOf T, 0, [], [], []⟩ ∧ w.heap.size ≤ b ∧ w.heap.size ≤ b1 ∧ w.heap.size ≤ b2 ∧ w.heap.size ≤ b3 ∧ Below w.heap.size w w' := by
  have HB := hid (fun wx => blank_any T wx hT)
  go_enter Tryd.func4, Tryd.ntmps4
  go_wp2_with fail
  refine (HB.out _).mono ?_
  rintro e w1 ⟨b1, b2, b3, rfl, m1, m2, m3, n12, n13, n23, g1, g2, g3, hb1⟩
  go_wp2_with (refine wpList_build rfl _ _ rfl _ rfl _ (run_suite _ _ _ _ _) ?_)
  go_ret
  refine ⟨_, b1, b2, b3, rfl, ⟨heap_alloc_new _ _, m1.alloc _, m2.alloc _, m3.alloc _, n12, n13, n23⟩, hb1.size, g1, g2, g3, hb1.alloc hb1.size _⟩
end Go.Proofs.YtnhecallffkedabDoor
