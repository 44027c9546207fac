/-
  Layer 11: Take in two plain contracts; the fixed fact that each law begins with; acts and Spans, opened.
-/
import Derived.Test.YtmlkbdkehoajaaaAl12
import Derived.Deep.Slices
import Derived.Deep.Strs
namespace Go.Proofs.Ytmlkbdkehoajaaa
open Go.ChangeShapes Go.WideShapes Go.ChangeAt Go.RowKit
open Go.Lib (hid)

theorem take_is (b gm c : Nat) (L : List Bool) (N : Int) (hN : 1 ≤ N) (x : Nat × Nat) (hf : Al.first L N = some x) (wx : World) (hx : MapAt wx b gm c L) :
    Calls Try.prog 13 #[.pointer (some ⟨b, 0, none⟩), .int .i64 N] wx fun e w' => e = .returned (.tuple #[.agg #[.int .i64 (x.1 : Int), .int .i64 N], .bool true]) ∧ MapAt w' b gm c (Al.setN L x.1 true N.toNat) ∧ KeptB gm wx w' := by
  refine (take_any b gm c L N hN wx hx).mono ?_
  rintro e w' (⟨h0, _⟩ | ⟨y, h0, rfl, h1, h2⟩)
  · rw [hf] at h0; cases h0
  · rw [hf] at h0
    obtain rfl : x = y := Option.some.inj h0
    rw [Al.first_after L N hN x hf] at h1
    exact ⟨by rw [Al.first_ch L N hN x hf], h1, h2⟩
theorem take_not (b gm c : Nat) (L : List Bool) (N : Int) (hN : 1 ≤ N) (hf : Al.first L N = none) (wx : World) (hx : MapAt wx b gm c L) :
    Calls Try.prog 13 #[.pointer (some ⟨b, 0, none⟩), .int .i64 N] wx fun e w' => e = .returned (.tuple #[.agg #[.int .i64 0, .int .i64 0], .bool false]) ∧ MapAt w' b gm c L ∧ KeptB gm wx w' := by
  refine (take_any b gm c L N hN wx hx).mono ?_
  rintro e w' (⟨_, rfl, h1, h2⟩ | ⟨y, h0, _⟩)
  · exact ⟨rfl, h1, h2⟩
  · rw [hf] at h0; cases h0
theorem SBox.keptB {W W' : World} {B gm : Nat} {F C : Int} (h : SBox W B F C) (hk : KeptB gm W W') (hne : B ≠ gm) : SBox W' B F C := (hk.block B (Array.getElem?_eq_some_iff.1 h).1 hne).trans h
theorem SBox.below {W W' : World} {B : Nat} {F C : Int} (h : SBox W B F C) (hk : Below W.heap.size W W') : SBox W' B F C := (hk.block B (Array.getElem?_eq_some_iff.1 h).1).trans h
theorem SBox.lt {W : World} {B : Nat} {F C : Int} (h : SBox W B F C) : B < W.heap.size := (Array.getElem?_eq_some_iff.1 h).1

set_option maxHeartbeats 4000000 in
set_option maxRecDepth 100000 in
theorem awake11_any (w : World) :
    Calls Try.prog 7 #[] w fun e w' => e = .returned (.bool true) ∧ Below w.heap.size w w' := by
  have HN := hid (fun wx => new_any 8 8 (by decide) wx)
  have H1 := hid (fun b g wx hx => take_is b g 8 (List.replicate 8 false) 2 (by decide) (0, 8) (by decide +kernel) wx hx)
  rw [show Al.setN (List.replicate 8 false) ((0, 8) : Nat × Nat).1 true (2 : Int).toNat = [true, true, false, false, false, false, false, false] from by decide +kernel] at H1
  have H2 := hid (fun b g wx hx => take_is b g 8 [true, true, false, false, false, false, false, false] 3 (by decide) (2, 6) (by decide +kernel) wx hx)
  rw [show Al.setN [true, true, false, false, false, false, false, false] ((2, 6) : Nat × Nat).1 true (3 : Int).toNat = [true, true, true, true, true, false, false, false] from by decide +kernel] at H2
  have H3 := hid (fun b g wx hx => give_any b g 8 [true, true, true, true, true, false, false, false] 0 2 (by decide) wx hx)
  rw [show Al.after [true, true, true, true, true, false, false, false] 0 2 false = [false, false, true, true, true, false, false, false] from by decide +kernel, show Al.ch [true, true, true, true, true, false, false, false] 0 2 false = true from by decide +kernel] at H3
  have H4 := hid (fun b g wx hx => take_is b g 8 [false, false, true, true, true, false, false, false] 3 (by decide) (5, 3) (by decide +kernel) wx hx)
  rw [show Al.setN [false, false, true, true, true, false, false, false] ((5, 3) : Nat × Nat).1 true (3 : Int).toNat = [false, false, true, true, true, true, true, true] from by decide +kernel] at H4
  have H5 := hid (fun b g wx hx => free_any b g 8 [false, false, true, true, true, true, true, true] wx hx)
  rw [show Al.sum (Al.spans [false, false, true, true, true, true, true, true] false) = 2 from by decide +kernel] at H5
  simp only [Int.cast_ofNat_Int] at H1 H2 H4 H5
  generalize [true, true, false, false, false, false, false, false] = L1 at *
  generalize [true, true, true, true, true, false, false, false] = L2 at *
  generalize [false, false, true, true, true, false, false, false] = L3 at *
  generalize [false, false, true, true, true, true, true, true] = L4 at *
  go_enter Try.func7, Try.ntmps7
  go_wp2_with fail
  refine (HN.out _).mono ?_
  rintro e w1 ⟨b, g, rfl, hm1, hbb, hgg, hb1⟩
  have HB1 := hid hb1
  have hm1' := hm1
  clear hb1
  go_wp2_with fail
  refine (H1.out b g _ hm1).mono ?_
  rintro e w2 ⟨rfl, hm2, hk2⟩
  have HB2 := hid (HB1.out.trans (hk2.below hgg HB1.out.size))
  go_upto_region 5 with (fail)
  generalize hw3 : w2.alloc _ = w3
  have hs2 := HB2.out.size
  have HS3 := hid (show SBox w3 w2.heap.size _ _ from by rw [← hw3]; exact heap_alloc_new _ _)
  have hgl2 := hm2.row.lt
  have hb3 : Below w2.heap.size w2 w3 := by rw [← hw3]; exact (Below.refl _ w2).alloc (Nat.le_refl _) _
  have HM3 := hid (hm2.below hb3)
  have HB3 := hid (HB2.out.trans (hb3.mono hs2))
  clear hw3 hb3 hm2 hk2 HB2 hm1 hm1' HB1
  generalize w2.heap.size = z1 at *
  go_wp2_with fail
  refine (H2.out b g _ HM3.out).mono ?_
  rintro e w4 ⟨rfl, hm4, hk4⟩
  have HS4 := hid (HS3.out.keptB hk4 (by omega))
  have HB4 := hid (HB3.out.trans (hk4.below hgg HB3.out.size))
  go_upto_region 6 with (fail)
  generalize hw5 : w4.alloc _ = w5
  have hs4 := HB4.out.size
  have HT5 := hid (show SBox w5 w4.heap.size _ _ from by rw [← hw5]; exact heap_alloc_new _ _)
  have hgl4 := hm4.row.lt
  have hb5 : Below w4.heap.size w4 w5 := by rw [← hw5]; exact (Below.refl _ w4).alloc (Nat.le_refl _) _
  have HM5 := hid (hm4.below hb5)
  have HS5 := hid (HS4.out.below hb5)
  have HB5 := hid (HB4.out.trans (hb5.mono hs4))
  have c0 := HS5.out.c0
  have c1 := HS5.out.c1
  clear hw5 hb5 hm4 hk4 HB4 HM3 HS3 HS4 HB3
  generalize w4.heap.size = z2 at *
  go_wp2_with fail
  refine (H3.out b g _ HM5.out).mono ?_
  rintro e w6 ⟨rfl, hm6, hk6⟩
  have HS6 := hid (HS5.out.keptB hk6 (by omega))
  have HT6 := hid (HT5.out.keptB hk6 (by omega))
  have HB6 := hid (HB5.out.trans (hk6.below hgg HB5.out.size))
  have HM6 := hid hm6
  clear hm6 hk6 HS5 HT5 HB5 HM5 c0 c1
  go_wp2_with fail
  refine (H4.out b g _ HM6.out).mono ?_
  rintro e w7 ⟨rfl, hm7, hk7⟩
  have HS7 := hid (HS6.out.keptB hk7 (by omega))
  have HT7 := hid (HT6.out.keptB hk7 (by omega))
  have HB7 := hid (HB6.out.trans (hk7.below hgg HB6.out.size))
  go_upto_region 8 with (fail)
  generalize hw8 : w7.alloc _ = w8
  have hs7 := HB7.out.size
  have HU8 := hid (show SBox w8 w7.heap.size _ _ from by rw [← hw8]; exact heap_alloc_new _ _)
  have hb8 : Below w7.heap.size w7 w8 := by rw [← hw8]; exact (Below.refl _ w7).alloc (Nat.le_refl _) _
  have HM8 := hid (hm7.below hb8)
  have HS8 := hid (HS7.out.below hb8)
  have HT8 := hid (HT7.out.below hb8)
  have HB8 := hid (HB7.out.trans (hb8.mono hs7))
  clear hw8 hb8 hm7 hk7 HB7 HM6 HS6 HT6 HS7 HT7 HB6
  have a0 := HS8.out.c0
  have a1 := HS8.out.c1
  have a2 := HT8.out.c0
  have a3 := HT8.out.c1
  have a4 := HU8.out.c0
  have a5 := HU8.out.c1
  generalize w7.heap.size = z3 at *
  go_wp2_with fail
  refine (H5.out b g _ HM8.out).mono ?_
  rintro e w9 ⟨rfl, hb9⟩
  have HB9 := hid (HB8.out.trans (hb9.mono HB8.out.size))
  clear hb9
  go_wp2
  go_ret
  exact ⟨by rfl, HB9.out⟩

/-- A world for the witnesses: the settled one. -/
noncomputable def laidWorld (os : Os) : World := World.holding Try.prog os ⟨#[], #[], []⟩

/-- A slice's cells are these acts. -/
def ActsA (w : World) (ao : Option Addr) (L : List (Int × Int × Int × Int)) : Prop :=
  ∀ i, i < L.length → ∃ sb so, ao = some ⟨sb, so, none⟩ ∧ w.cell? ⟨sb, so + i * 4, none⟩ = some (.int .i64 (L.getD i (0, 0, 0, 0)).1) ∧ w.cell? ⟨sb, so + i * 4 + 1, none⟩ = some (.int .i64 (L.getD i (0, 0, 0, 0)).2.1) ∧ w.cell? ⟨sb, so + i * 4 + 2, none⟩ = some (.int .i64 (L.getD i (0, 0, 0, 0)).2.2.1) ∧ w.cell? ⟨sb, so + i * 4 + 3, none⟩ = some (.int .i64 (L.getD i (0, 0, 0, 0)).2.2.2)
theorem ActsA.below {w w' : World} {ao : Option Addr} {L : List (Int × Int × Int × Int)} (h : ActsA w ao L) (hb : Below w.heap.size w w') : ActsA w' ao L := by
  intro i hi
  obtain ⟨sb, so, ha, h0, h1, h2, h3⟩ := h i hi
  exact ⟨sb, so, ha, by rw [hb.cell (block_lt_of_cell h0)]; exact h0, by rw [hb.cell (block_lt_of_cell h1)]; exact h1, by rw [hb.cell (block_lt_of_cell h2)]; exact h2, by rw [hb.cell (block_lt_of_cell h3)]; exact h3⟩
set_option maxRecDepth 100000 in
theorem open_acts11 {H : Type} {enc : TypeId × Value → H} {W : World} {r : Reach} {b0 : Nat} {v : Value} {d : DataW H} {p : List MemPlace}
    (hv : Value.okWide Try.prog W r b0 22 v) (h : DataW.Trod enc Try.prog W 0 (fun _ => true) true 22 v d p) :
    ∃ (ao : Option Addr) (L : List (Int × Int × Int × Int)) (cap : Nat), v = .slice ao L.length cap ∧ ActsA W ao L ∧ L.length ≤ maxLen ∧ ∀ i, i < L.length → (L.getD i (0, 0, 0, 0)).2.2.1 ≤ 9223372036854775807 ∧ (L.getD i (0, 0, 0, 0)).2.2.2 ≤ 9223372036854775807 := by
  obtain ⟨a0, len, cap, rfl⟩ := okWide_slice Try.underlying22 hv
  obtain ⟨fuel, hf⟩ := h
  rcases Deep.open_slice Try.underlying22 hf with ⟨hcs, _⟩ | ⟨a, len', cap', m, n, D, Pl, hcs, _, hl, hm, hmm, _, hx⟩
  · simp only [Value.cells, List.cons.injEq, Value.slice.injEq, and_true] at hcs
    obtain ⟨rfl, rfl, rfl⟩ := hcs
    exact ⟨none, [], 0, rfl, fun i hi => absurd hi (by simp), by simp, fun i hi => absurd hi (by simp)⟩
  · simp only [Value.cells, List.cons.injEq, Value.slice.injEq, and_true] at hcs
    obtain ⟨rfl, rfl, rfl⟩ := hcs
    simp only [if_true] at hmm
    have each : ∀ i, i < m → ∃ q : Int × Int × Int × Int, W.cell? (a.add (i * 4)) = some (.int .i64 q.1) ∧ W.cell? (a.add (i * 4 + 1)) = some (.int .i64 q.2.1) ∧ W.cell? (a.add (i * 4 + 2)) = some (.int .i64 q.2.2.1) ∧ W.cell? (a.add (i * 4 + 3)) = some (.int .i64 q.2.2.2) ∧ q.2.2.1 ≤ 9223372036854775807 ∧ q.2.2.2 ≤ 9223372036854775807 := by
      intro i hi
      obtain ⟨cs', h1, h2⟩ := hx i hi
      rw [show Try.prog.cellsOf 33 = 4 from by kernel_rfl] at h1
      obtain ⟨_, hlen, hcell⟩ := World.cells?_some h1
      obtain ⟨y0, y1, y2, k, _, _, g0, g1, g2⟩ := Deep.trod_struct3 Try.underlying33 h2
      match cs', hlen with
      | [v0, v1, v2, v3], _ =>
        change DataW.trod enc Try.prog W 0 (fun _ => true) true k 3 [v0] = some y0 at g0
        change DataW.trod enc Try.prog W 0 (fun _ => true) true k 3 [v1] = some y1 at g1
        change DataW.trod enc Try.prog W 0 (fun _ => true) true k 31 [v2, v3] = some y2 at g2
        obtain ⟨z0, e0, _, w0⟩ := DataW.trod_int Try.underlying3 g0
        obtain ⟨z1, e1, _, w1⟩ := DataW.trod_int Try.underlying3 g1
        obtain ⟨u0, u1, k2, _, _, f0, f1⟩ := trod_struct2 Try.underlying31 g2
        change DataW.trod enc Try.prog W 0 (fun _ => true) true k2 3 [v2] = some u0 at f0
        change DataW.trod enc Try.prog W 0 (fun _ => true) true k2 3 [v3] = some u1 at f1
        obtain ⟨z2, e2, _, w2⟩ := DataW.trod_int Try.underlying3 f0
        obtain ⟨z3, e3, _, w3⟩ := DataW.trod_int Try.underlying3 f1
        have c0 := hcell 0 (by omega)
        have c1 := hcell 1 (by omega)
        have c2 := hcell 2 (by omega)
        have c3 := hcell 3 (by omega)
        rw [Deep.add_add] at c0 c1 c2 c3
        simp only [List.cons.injEq, and_true] at e0 e1 e2 e3
        subst e0 e1 e2 e3
        have b2 := bounds_i64 w2
        have b3 := bounds_i64 w3
        exact ⟨(z0, z1, z2, z3), by simpa using c0, by simpa using c1, by simpa using c2, by simpa using c3, by simp only; omega, by simp only; omega⟩
    obtain ⟨q, hq⟩ := Deep.choose_lt each
    have hget : ∀ i, i < len → ((List.range len).map q).getD i (0, 0, 0, 0) = q i := by
      intro i hi
      simp [List.getD_eq_getElem?_getD, hi]
    refine ⟨some a, (List.range len).map q, cap, by simp, ?_, by simp; omega, ?_⟩
    · intro i hi
      rw [List.length_map, List.length_range] at hi
      rw [hget i hi]
      obtain ⟨h0, h1, h2, h3, _⟩ := hq i (by omega)
      have h00 := (hq 0 (by omega)).1
      obtain ⟨b, off, spot⟩ := a
      have hspot : spot = none := by simpa [Addr.add] using World.cell?_spot h00
      subst hspot
      rw [Addr.add_mid] at h0 h1 h2 h3
      exact ⟨b, off, rfl, h0, by rw [Nat.add_assoc]; exact h1, by rw [Nat.add_assoc]; exact h2, by rw [Nat.add_assoc]; exact h3⟩
    · intro i hi
      rw [List.length_map, List.length_range] at hi
      rw [hget i hi]
      exact (hq i (by omega)).2.2.2.2
/-- A slice's cells are these Spans. -/
def SpansA (w : World) (ao : Option Addr) (L : List (Int × Int)) : Prop :=
  ∀ i, i < L.length → ∃ sb so, ao = some ⟨sb, so, none⟩ ∧ w.cell? ⟨sb, so + i * 2, none⟩ = some (.int .i64 (L.getD i (0, 0)).1) ∧ w.cell? ⟨sb, so + i * 2 + 1, none⟩ = some (.int .i64 (L.getD i (0, 0)).2)
theorem SpansA.below {w w' : World} {ao : Option Addr} {L : List (Int × Int)} (h : SpansA w ao L) (hb : Below w.heap.size w w') : SpansA w' ao L := by
  intro i hi
  obtain ⟨sb, so, ha, h0, h1⟩ := h i hi
  exact ⟨sb, so, ha, by rw [hb.cell (block_lt_of_cell h0)]; exact h0, by rw [hb.cell (block_lt_of_cell h1)]; exact h1⟩
set_option maxRecDepth 100000 in
theorem open_rspans {H : Type} {enc : TypeId × Value → H} {W : World} {r : Reach} {b0 : Nat} {v : Value} {d : DataW H} {p : List MemPlace}
    (hv : Value.okWide Try.prog W r b0 46 v) (h : DataW.Trod enc Try.prog W 0 (fun _ => true) true 46 v d p) :
    ∃ (ao : Option Addr) (L : List (Int × Int)) (cap : Nat), v = .slice ao L.length cap ∧ SpansA W ao L ∧ L.length ≤ maxLen ∧ ∀ i, i < L.length → (L.getD i (0, 0)).1 ≤ 9223372036854775807 ∧ (L.getD i (0, 0)).2 ≤ 9223372036854775807 := by
  obtain ⟨a0, len, cap, rfl⟩ := okWide_slice Try.underlying46 hv
  obtain ⟨fuel, hf⟩ := h
  rcases Deep.open_slice Try.underlying46 hf with ⟨hcs, _⟩ | ⟨a, len', cap', m, n, D, Pl, hcs, _, hl, hm, hmm, _, hx⟩
  · simp only [Value.cells, List.cons.injEq, Value.slice.injEq, and_true] at hcs
    obtain ⟨rfl, rfl, rfl⟩ := hcs
    exact ⟨none, [], 0, rfl, fun i hi => absurd hi (by simp), by simp, fun i hi => absurd hi (by simp)⟩
  · simp only [Value.cells, List.cons.injEq, Value.slice.injEq, and_true] at hcs
    obtain ⟨rfl, rfl, rfl⟩ := hcs
    simp only [if_true] at hmm
    have each : ∀ i, i < m → ∃ q : Int × Int, W.cell? (a.add (i * 2)) = some (.int .i64 q.1) ∧ W.cell? (a.add (i * 2 + 1)) = some (.int .i64 q.2) ∧ q.1 ≤ 9223372036854775807 ∧ q.2 ≤ 9223372036854775807 := by
      intro i hi
      obtain ⟨cs', h1, h2⟩ := hx i hi
      rw [show Try.prog.cellsOf 31 = 2 from by kernel_rfl] at h1
      obtain ⟨_, hlen, hcell⟩ := World.cells?_some h1
      obtain ⟨u0, u1, k2, _, _, f0, f1⟩ := trod_struct2 Try.underlying31 h2
      match cs', hlen with
      | [v0, v1], _ =>
        change DataW.trod enc Try.prog W 0 (fun _ => true) true k2 3 [v0] = some u0 at f0
        change DataW.trod enc Try.prog W 0 (fun _ => true) true k2 3 [v1] = some u1 at f1
        obtain ⟨z0, e0, _, w0⟩ := DataW.trod_int Try.underlying3 f0
        obtain ⟨z1, e1, _, w1⟩ := DataW.trod_int Try.underlying3 f1
        have c0 := hcell 0 (by omega)
        have c1 := hcell 1 (by omega)
        rw [Deep.add_add] at c0 c1
        simp only [List.cons.injEq, and_true] at e0 e1
        subst e0 e1
        have b0 := bounds_i64 w0
        have b1 := bounds_i64 w1
        exact ⟨(z0, z1), by simpa using c0, by simpa using c1, by simp only; omega, by simp only; omega⟩
    obtain ⟨q, hq⟩ := Deep.choose_lt each
    have hget : ∀ i, i < len → ((List.range len).map q).getD i (0, 0) = q i := by
      intro i hi
      simp [List.getD_eq_getElem?_getD, hi]
    refine ⟨some a, (List.range len).map q, cap, by simp, ?_, by simp; omega, ?_⟩
    · intro i hi
      rw [List.length_map, List.length_range] at hi
      rw [hget i hi]
      obtain ⟨h0, h1, _⟩ := hq i (by omega)
      have h00 := (hq 0 (by omega)).1
      obtain ⟨b, off, spot⟩ := a
      have hspot : spot = none := by simpa [Addr.add] using World.cell?_spot h00
      subst hspot
      rw [Addr.add_mid] at h0 h1
      exact ⟨b, off, rfl, h0, by rw [Nat.add_assoc]; exact h1⟩
    · intro i hi
      rw [List.length_map, List.length_range] at hi
      rw [hget i hi]
      exact (hq i (by omega)).2.2
end Go.Proofs.Ytmlkbdkehoajaaa
