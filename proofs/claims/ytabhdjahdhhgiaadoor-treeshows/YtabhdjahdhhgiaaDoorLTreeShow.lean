/-
  Layer 7: a case of the laws, and what the law's show returns.
-/
import Derived.Test.YtabhdjahdhhgiaaDoorLTreeEach
import Derived.Lib.SmallJoins
namespace Go.Proofs.YtabhdjahdhhgiaaDoor
open Go.ChangeShapes Go.WideShapes Go.ChangeAt Go.RowKit
open Go.Lib (hid)

/-- A case as a value. -/
def csC (d : Int) (l : Value) (i : Int) (t : ByteArray) (sp : Int) : Array Value := #[.int .i64 d, l, .int .i64 i, .string t, .int .i64 sp]
theorem open_strs1 {H : Type} {enc : TypeId × Value → H} {W : World} {n : Nat} {c : Value} {x : DataW H × List MemPlace} (h : DataW.trod enc Tryd.prog W 0 (fun _ => true) true n 22 [c] = some x) :
    ∃ (ao : Option Addr) (L : List ByteArray) (cap : Nat), c = .slice ao L.length cap ∧ StrsB W ao L ∧ L.length ≤ maxLen ∧ ∀ s ∈ L, s.size ≤ maxLen := by
  rcases open_strings Tryd.underlying22 Tryd.underlying9 (by kernel_rfl) h with ⟨hcs, _⟩ | ⟨a, len, cap, ss, hcs, _, hl, hm, hz, _, hcell, hws⟩
  · simp only [List.cons.injEq, and_true] at hcs
    subst hcs
    exact ⟨none, [], 0, rfl, fun i hi => absurd hi (by simp), by simp, fun s hs => absurd hs (by simp)⟩
  · simp only [List.cons.injEq, and_true] at hcs
    subst hcs
    simp only [if_true] at hz
    have htl : (ss.take len).length = len := by simp; omega
    refine ⟨some a, ss.take len, cap, by rw [htl], ?_, by omega, fun s hs => hws s (List.mem_of_mem_take hs)⟩
    intro i hi
    rw [htl] at hi
    have h1 := hcell i (by omega)
    have h00 := hcell 0 (by omega)
    obtain ⟨b, off, spot⟩ := a
    have hspot : spot = none := by simpa [Addr.add] using World.cell?_spot h00
    subst hspot
    refine ⟨b, off, rfl, ?_⟩
    rw [Addr.add_mid] at h1
    rw [h1]
    simp [hi]
theorem open_case {H : Type} {enc : TypeId × Value → H} {W : World} {r : Reach} {b0 : Nat} {v : Value} {d : DataW H} {p : List MemPlace}
    (hv : Value.okWide Tryd.prog W r b0 39 v) (h : DataW.Trod enc Tryd.prog W 0 (fun _ => true) true 39 v d p) :
    ∃ (cd : Int) (ao : Option Addr) (L : List ByteArray) (cap : Nat) (ci : Int) (t : ByteArray) (sp : Int), v = .agg (csC cd (.slice ao L.length cap) ci t sp) ∧ StrsB W ao L ∧ (L.length ≤ maxLen ∧ ∀ s ∈ L, s.size ≤ maxLen) ∧ t.size ≤ maxLen := by
  unfold Value.okWide at hv
  rw [Tryd.underlying39] at hv
  obtain ⟨cs, rfl, hsz, hfs⟩ := hv
  obtain ⟨fuel, hf⟩ := h
  obtain ⟨xs, n, _, _, hl, hlen, hx⟩ := DataW.trod_struct Tryd.underlying39 hf
  have hcs : cs.size = 5 := by rw [hsz]; kernel_rfl
  obtain ⟨l⟩ := cs
  match l, hcs with
  | [c0, c1, c2, c3, c4], _ =>
    match xs, hlen with
    | [y0, y1, y2, y3, y4], _ =>
      have h0 := hx 0 _ rfl
      have h1 := hx 1 _ rfl
      have h2 := hx 2 _ rfl
      have h3 := hx 3 _ rfl
      have h4 := hx 4 _ rfl
      change DataW.trod enc Tryd.prog W 0 (fun _ => true) true n 3 [c0] = some y0 at h0
      change DataW.trod enc Tryd.prog W 0 (fun _ => true) true n 22 [c1] = some y1 at h1
      change DataW.trod enc Tryd.prog W 0 (fun _ => true) true n 3 [c2] = some y2 at h2
      change DataW.trod enc Tryd.prog W 0 (fun _ => true) true n 9 [c3] = some y3 at h3
      change DataW.trod enc Tryd.prog W 0 (fun _ => true) true n 3 [c4] = some y4 at h4
      obtain ⟨z0, e0, _, _⟩ := DataW.trod_int Tryd.underlying3 h0
      obtain ⟨ao, L, cap, e1, hS, hL1, hL2⟩ := open_strs1 h1
      obtain ⟨z2, e2, _, _⟩ := DataW.trod_int Tryd.underlying3 h2
      obtain ⟨s3, e3, _, w3⟩ := DataW.trod_string Tryd.underlying9 h3
      obtain ⟨z4, e4, _, _⟩ := DataW.trod_int Tryd.underlying3 h4
      simp only [List.cons.injEq, and_true] at e0 e2 e3 e4
      subst e0 e1 e2 e3 e4
      exact ⟨z0, ao, L, cap, z2, s3, z4, rfl, hS, ⟨hL1, hL2⟩, w3⟩

namespace Tx
/-- One sum's first bit is turned. -/
def turn (f : List Nat) : List Nat := f.set 0 (f.getD 0 0 ^^^ 1)
def spoilt (S : List (List Nat)) (sp : Int) : List (List Nat) := if 0 ≤ sp ∧ sp < S.length then S.set sp.toNat (turn (S.getD sp.toNat [])) else S
theorem spoilt_length (S : List (List Nat)) (sp : Int) : (spoilt S sp).length = S.length := by unfold spoilt; split <;> simp
theorem turn_good (f : List Nat) (h : f.length = 32 ∧ ∀ x ∈ f, x < 256) : (turn f).length = 32 ∧ ∀ x ∈ turn f, x < 256 := by
  refine ⟨by simpa [turn] using h.1, fun x hx => ?_⟩
  rcases List.mem_or_eq_of_mem_set hx with h' | h'
  · exact h.2 x h'
  · have : f.getD 0 0 < 256 := getD_lt (by omega) h.2 0
    rw [h']
    exact Nat.xor_lt_two_pow (n := 8) this (by decide)
theorem spoilt_good (S : List (List Nat)) (sp : Int) (h : ∀ f ∈ S, f.length = 32 ∧ ∀ x ∈ f, x < 256) : ∀ f ∈ spoilt S sp, f.length = 32 ∧ ∀ x ∈ f, x < 256 := by
  unfold spoilt
  split
  · rename_i hs
    intro f hf
    rcases List.mem_or_eq_of_mem_set hf with h' | h'
    · exact h f h'
    · rw [h']
      refine turn_good _ (h _ ?_)
      rw [List.getD_eq_getElem?_getD, List.getElem?_eq_getElem (show sp.toNat < S.length by omega)]
      exact List.getElem_mem _
  · exact h
theorem showL_good (d : Nat) (i : Int) (L : List (List Nat)) (hL : L.length ≤ 1000) : ∀ f ∈ showL d i L, f.length = 32 ∧ ∀ x ∈ f, x < 256 := by
  unfold showL
  split
  · exact shows_good d _ L hL d
  · intro f hf; simp at hf
theorem showL_length (d : Nat) (i : Int) (L : List (List Nat)) : (showL d i L).length ≤ d := by
  unfold showL
  split
  · rw [shows_length]; exact Nat.le_refl _
  · simp
end Tx
theorem cellsU_set (F : List (List Nat)) (h : ∀ f ∈ F, f.length = 32) (i : Nat) (hi : i < F.length) (y : Nat) : (cellsU F).set (i * 32) (.int .u8 (y : Int)) = cellsU (F.set i ((F.getD i []).set 0 y)) := by
  induction F generalizing i with
  | nil => simp at hi
  | cons f F ih =>
    have hf := h f (by simp)
    cases i with
    | zero =>
      simp only [cellsU, List.map_cons, List.flatten_cons, List.set_cons_zero, Nat.zero_mul, List.getD_eq_getElem?_getD, List.getElem?_cons_zero, Option.getD_some]
      rw [List.set_append_left _ _ (by rw [ints_llen, hf]; decide)]
      congr 1
      simp only [ints]
      rw [List.map_set]
    | succ i =>
      have h1 := ih (fun g hg => h g (by simp [hg])) i (by simpa using hi)
      simp only [cellsU, List.map_cons, List.flatten_cons, List.set_cons_succ, List.getD_eq_getElem?_getD, List.getElem?_cons_succ] at h1 ⊢
      rw [List.set_append_right _ _ (by rw [ints_llen, hf]; omega), ints_llen, hf, show (i + 1) * 32 - 32 = i * 32 from by omega, h1]
/-- One byte of an own sum is another. -/
theorem OwnU.put {w : World} {base : Nat} {v : Value} {F : List (List Nat)} (h : OwnU w base v F) (i : Nat) (hi : i < F.length) (y : Nat) :
    ∃ g cap, v = .slice (some ⟨g, 0, none⟩) F.length cap ∧ base ≤ g ∧ (∃ cur t fr, w.heap[g]? = some (.cells cur t fr) ∧ fr = (0, 0)) ∧ w.cell? ⟨g, i * 32, none⟩ = some (.int .u8 ((F.getD i []).getD 0 0 : Nat)) ∧ OwnU (w.setCell ⟨g, i * 32, none⟩ (.int .u8 (y : Int))) base v (F.set i ((F.getD i []).set 0 y)) := by
  obtain ⟨h0, h1, ⟨hv, hz⟩ | ⟨g, cap, cur, hv, hg, hh, hn, hm, hs, hc⟩⟩ := h
  · omega
  · have hfl : (F.getD i []).length = 32 := h0 _ (by rw [List.getD_eq_getElem?_getD, List.getElem?_eq_getElem hi]; exact List.getElem_mem _)
    refine ⟨g, cap, hv, hg, ⟨cur, _, _, hh, rfl⟩, ?_, ?_, ?_, ?_⟩
    · rw [cell_of_row w g _ cur _ _ hh]
      have h2 : cur[i * 32]? = (cur.toList.take (F.length * 32))[i * 32 + 0]? := by
        rw [List.getElem?_take, if_pos (by omega), Array.getElem?_toList]; rfl
      rw [h2, hc, cellsU_get F h0 i 0 hi (by decide)]
      simp only [ints, List.getElem?_map]
      rw [List.getD_eq_getElem?_getD (l := F.getD i []), List.getElem?_eq_getElem (by omega)]
      rfl
    · intro f hf
      rcases List.mem_or_eq_of_mem_set hf with h' | h'
      · exact h0 f h'
      · rw [h', List.length_set]; exact hfl
    · rw [List.length_set, ← cellsU_set F h0 i hi y, List.length_set]; exact h1
    · refine Or.inr ⟨g, cap, cur.setIfInBounds (i * 32) (.int .u8 (y : Int)), by rw [List.length_set]; exact hv, hg, heap_setCell_same w g (i * 32) _ _ _ hh, by rw [List.length_set]; exact hn, hm, by rw [Array.size_setIfInBounds]; exact hs, ?_⟩
      rw [List.length_set, Array.toList_setIfInBounds, List.take_set, hc, cellsU_set F h0 i hi y]

theorem small_any (d : Int) (w : World) :
    Calls Tryd.prog 9 #[.int .i64 d] w fun e w' => e = .returned (.int .i64 (min d 5)) ∧ w' = w := by
  go_enter Tryd.func9, Tryd.ntmps9
  go_wp2
  all_goals (go_ret; exact ⟨congrArg (fun x => Ending.returned (Value.int .i64 x)) (by omega), rfl⟩)
theorem xor8 (a b : Nat) (ha : a < 256) (hb : b < 256) : bits .xor .u8 (a : Int) (b : Int) = ((a ^^^ b : Nat) : Int) :=
  bits_xor_nat .u8 8 (by decide) (fun n h0 h1 => by rw [IntKind.wrap_u8]; omega) a b ha hb

/-- While show runs: the case, and where the root goes. -/
structure Hs (w : World) (C : Array Value) (u : World) : Prop where
  inn : u.heap[w.heap.size]? = some (.cells C 39 (0, 0))
  res : Row u (w.heap.size + 1) .u8 27 (List.replicate 32 0)
  tab : Tabs u
  bel : Below w.heap.size w u
theorem Hs.keep {w : World} {C : Array Value} {u u' : World} (h : Hs w C u) (hb : Below u.heap.size u u') : Hs w C u' :=
  ⟨by rw [hb.block _ (Array.getElem?_eq_some_iff.1 h.inn).1]; exact h.inn, h.res.below hb h.res.lt, h.tab.below hb (Nat.le_refl _), h.bel.trans (hb.mono h.bel.size)⟩
theorem Hs.keepB {w : World} {C : Array Value} {u u' : World} {B : Nat} (h : Hs w C u) (hT : Tabs w) (hb : Below B u u') (hB : w.heap.size + 1 < B) : Hs w C u' :=
  ⟨by rw [hb.block _ (by omega)]; exact h.inn, h.res.below hb hB, hT.below (h.bel.trans (hb.mono (by omega))) (Nat.le_refl _), h.bel.trans (hb.mono (by omega))⟩
theorem Hs.cells {w : World} {d : Int} {l : Value} {i : Int} {t : ByteArray} {sp : Int} {u : World} (h : Hs w (csC d l i t sp) u) :
    u.cell? ⟨w.heap.size, 0, none⟩ = some (.int .i64 d) ∧ u.cell? ⟨w.heap.size, 1, none⟩ = some l ∧ u.cell? ⟨w.heap.size, 2, none⟩ = some (.int .i64 i) ∧ u.cell? ⟨w.heap.size, 3, none⟩ = some (.string t) ∧ u.cell? ⟨w.heap.size, 4, none⟩ = some (.int .i64 sp) := by
  refine ⟨?_, ?_, ?_, ?_, ?_⟩ <;> (rw [cell_of_row _ _ _ _ _ _ h.inn]; rfl)
theorem ret_sum {fn : Func} {p u : Tmp} (h : fn.results = #[.cell p 27, .tmp u]) {R : Ending → World → Prop} (a : Act) (w : World) (bz : Nat) (r : List Nat) (hr32 : r.length = 32) (v : Value)
    (hp : a.tmps.getD p undef = .pointer (some ⟨bz, 0, none⟩)) (hb : Row w bz .u8 27 r) (hu : a.tmps.getD u undef = v) (hd : a.defers = [])
    (hR : R (.returned (.tuple #[.agg (ints .u8 r), v])) w) : bodyPost Tryd.prog fn R .ret a w := by
  refine bodyPost_ret (v := .tuple #[.agg (ints .u8 r), v]) ?_ hd hR
  have hl := run_loadVar_mid w bz 0 27 _ _ (range_row hb) Tryd.underlying27 rfl (by rw [Array.length_toList, ints_size, hr32]; exact info27)
  rw [results_cell_tmp h, hp, hu]
  simp only [asAddr, Sem.run_pure, Result.andThen_ok, hl, Array.toArray_toList]

set_option maxHeartbeats 4000000 in
set_option maxRecDepth 100000 in
theorem lshow_any (cd : Int) (ao : Option Addr) (L : List ByteArray) (cap : Nat) (ci : Int) (ct : ByteArray) (sp : Int) (w : World) (hT : Tabs w) (hA : StrsB w ao L) (hL : L.length ≤ maxLen) (hs : ∀ s ∈ L, s.size ≤ maxLen) (d : Nat) (hd : (d : Int) = max 0 (min cd 5)) :
    Calls Tryd.prog 20 #[.agg (csC cd (.slice ao L.length cap) ci ct sp)] w
      fun e w' => (∃ v, e = .returned (.tuple #[.agg (ints .u8 (Tx.root d (few L 20 20))), v]) ∧ OwnU w' w.heap.size v (Tx.spoilt (Tx.showL d ci (few L 20 20)) sp)) ∧ Below w.heap.size w w' := by
  have hd5 : d ≤ 5 := by omega
  have HT := hid hT
  have HFW := hid (fun wx hx => few_any ao L cap 20 20 wx hx hL hs (by omega) (by omega))
  have HA := hid hA
  have hfl : (few L 20 20).length ≤ 20 := by rw [few_length]; omega
  have hfb := few_lt L 20 20
  have hfe : ∀ t ∈ few L 20 20, t.length ≤ 1000000 := fun t ht => by have := few_each L 20 20 t ht; omega
  generalize few L 20 20 = F at *
  have HRA := hid (fun ao cap h1 h2 wx hx hy => root_any (d : Int) ao F cap h1 h2 (by omega) hfb hfe wx hx hy)
  have HSA := hid (fun ao cap h1 h2 wx hx hy => show_any (d : Int) ci ao F cap h1 h2 (by omega) hfb hfe wx hx hy)
  rw [limit_of d (by omega)] at HRA HSA
  have ga := Tx.sumAt_good d F (by omega) d 0
  rw [show Tx.sumAt d F d 0 = Tx.root d F from rfl] at ga
  have sza : (ints .u8 (Tx.root d F)).size = 32 := by rw [ints_size, ga.1]
  have hga := ga.1
  have hSl := Tx.showL_length d ci F
  have HSG := hid (Tx.showL_good d ci F (by omega))
  have HSM := hid (fun wx => small_any cd wx)
  obtain ⟨m, hm⟩ : ∃ m, m = min cd 5 := ⟨_, rfl⟩
  rw [← hm] at HSM hd
  clear ga hfb hfe hT hA hL hs hm
  have hmx : max 0 m = (d : Int) := hd.symm
  clear hd
  generalize Tx.root d F = R at *
  generalize Tx.showL d ci F = S at *
  generalize hC : csC cd (.slice ao L.length cap) ci ct sp = C at *
  have HCC := hid hC
  clear hC
  go_enter Tryd.func20, Tryd.ntmps20
  go_upto_region 1 with (fail)
  generalize hw0 : (w.alloc _).alloc _ = w0
  have H0 := hid (show Hs w C w0 from by
    have hb0 : Below w.heap.size w w0 := by rw [← hw0]; exact ((Below.refl _ _).alloc (Nat.le_refl _) _).alloc (by simp) _
    refine ⟨by rw [← hw0]; exact heap_alloc2_old _ _ _, ?_, HT.out.below hb0 (Nat.le_refl _), hb0⟩
    rw [← hw0]; unfold Row; rw [heap_alloc2_new]; kernel_rfl)
  rw [← HCC.out] at H0
  clear hw0
  obtain ⟨_, c1, _, _, _⟩ := H0.out.cells
  go_wp2_with fail
  refine (HFW.out _ (HA.out.below H0.out.bel)).mono ?_
  rintro e w1 ⟨v, rfl, hown, hb1⟩
  obtain ⟨ao', cap', rfl, hstr, hc1, hc2⟩ := hown.capd
  have H1 := hid (H0.out.keep hb1)
  have HS1 := hid hstr
  have HC := hid (And.intro hc1 hc2)
  clear hown hb1 hstr hc1 hc2 HFW HA H0 c1
  obtain ⟨c0, _, c2, _, _⟩ := H1.out.cells
  go_wp2_with fail
  refine (HSM.out _).mono ?_
  rintro e w2 ⟨rfl, hw2⟩
  rw [hw2]
  clear hw2 w2 c0
  rcases Int.lt_or_le 0 m with hm0 | hm0
  · obtain rfl : m = (d : Int) := by omega
    clear hmx HSM
    go_wp2_with fail
    refine (HSA.out _ _ HC.out.1 HC.out.2 _ H1.out.tab HS1.out).mono ?_
    rintro e w2 ⟨v, rfl, hown, hb2⟩
    have H2 := hid (H1.out.keep hb2)
    have HS2 := hid (HS1.out.below hb2)
    have hz1 : w.heap.size + 1 < w1.heap.size := H1.out.res.lt
    have hz2 : w.heap.size ≤ w1.heap.size := by omega
    have HB2 := hid hb2
    clear hb2 c2 HSA
    obtain ⟨_, _, _, _, c4⟩ := H2.out.cells
    obtain ⟨ao1, cap1, hv, _⟩ := hown.sums
    by_cases hsp : 0 ≤ sp ∧ sp < S.length
    · obtain ⟨n, rfl⟩ : ∃ n : Nat, sp = (n : Int) := ⟨sp.toNat, by omega⟩
      have hnS : n < S.length := by omega
      have hf0 : (S.getD n []).getD 0 0 < 256 := getD_lt (by omega) (HSG.out _ (by rw [List.getD_eq_getElem?_getD, List.getElem?_eq_getElem hnS]; exact List.getElem_mem _)).2 0
      have HRES := hid (show Tx.spoilt S (n : Int) = S.set n ((S.getD n []).set 0 ((S.getD n []).getD 0 0 ^^^ 1)) from by unfold Tx.spoilt; rw [if_pos hsp]; rfl)
      obtain ⟨g, capg, hvg, hgb, ⟨cur, ty, fr, hh, hfr⟩, hcell, hput⟩ := hown.put n hnS ((S.getD n []).getD 0 0 ^^^ 1)
      subst hfr
      have HPUT := hid hput
      have hxor := xor8 ((S.getD n []).getD 0 0) 1 hf0 (by decide)
      rw [show ((1 : Nat) : Int) = 1 from rfl] at hxor
      have hfz := frozen_of_row w2 g (n * 32) _ _ hh
      have HG := hid hh
      clear hput hh hown hv hsp
      rw [hvg] at HPUT ⊢
      have g1 : (0 : Int) ≤ (n : Int) := by omega
      have g2 : (n : Int) < S.length := by omega
      clear hvg
      generalize (S.getD n []).getD 0 0 ^^^ 1 = y at *
      generalize (S.getD n []).getD 0 0 = f0 at *
      go_upto_region 5 with (fail)
      go_region
      generalize hw3 : (w2.setCell _ _).drew = wS
      have hbS : Below w1.heap.size w2 wS := by rw [← hw3]; exact ((Below.refl w1.heap.size w2).setCell (p := ⟨g, n * 32, none⟩) hgb _).drew
      have hbW : Below w1.heap.size w1 wS := HB2.out.trans hbS
      have H2' := hid (H1.out.keepB HT.out hbW hz1)
      have HS2' := hid (HS1.out.below hbW)
      have HO2' := hid (show OwnU wS w1.heap.size (.slice (some ⟨g, 0, none⟩) S.length capg) (S.set n ((S.getD n []).set 0 y)) from by rw [← hw3]; exact OwnU.below HPUT.out ((Below.refl _ _).drew))
      clear hw3 hbS hbW H2 HS2 HPUT hcell hfz c4 HG hxor
      have H2 := H2'
      have HS2 := HS2'
      have HO2 := HO2'
      have c4 := H2.out.cells.2.2.2.2
      clear H2' HS2' HO2'
      go_wp2_with fail
      refine (HRA.out _ _ HC.out.1 HC.out.2 _ H2.out.tab HS2.out).mono ?_
      rintro e w3 ⟨rfl, hb3⟩
      have H3 := hid (H2.out.keep hb3)
      have HO3 := hid (HO2.out.below hb3)
      clear hb3 HRA H2 HO2 HS2 c4
      go_wp2_with (refine wpList_store_row rfl _ _ _ rfl (w.heap.size + 1) _ rfl rfl _ _ H3.out.res (by rw [sza]; exact info27) (by rw [sza, ints_size, List.length_replicate]) (ints_one _ _) ?_)
      refine ret_sum Tryd.results20 _ _ (w.heap.size + 1) R hga _ rfl (setRow_heap _ _ _ _ _ _ H3.out.res) rfl rfl ?_
      exact ⟨⟨_, rfl, by rw [HRES.out]; exact (HO3.out.setRow _ hz1 _).mono hz2⟩, below_setRow H3.out.bel (by omega) _⟩
    · have HRES := hid (show Tx.spoilt S sp = S from by unfold Tx.spoilt; rw [if_neg hsp])
      have HO2 := hid hown
      rw [hv] at HO2 ⊢
      clear hown hv
      have hq1 : w.heap.size < w2.heap.size := (Array.getElem?_eq_some_iff.1 H2.out.inn).1
      by_cases hs0 : 0 ≤ sp
      · have hs1 : ¬ sp < S.length := fun h => hsp ⟨hs0, h⟩
        clear hsp
        go_wp2_with fail
        refine (HRA.out _ _ HC.out.1 HC.out.2 _ H2.out.tab HS2.out).mono ?_
        rintro e w3 ⟨rfl, hb3⟩
        have H3 := hid (H2.out.keep hb3)
        have HO3 := hid (HO2.out.below hb3)
        clear hb3 HRA H2 HO2 HS2 c4
        go_wp2_with (refine wpList_store_row rfl _ _ _ rfl (w.heap.size + 1) _ rfl rfl _ _ H3.out.res (by rw [sza]; exact info27) (by rw [sza, ints_size, List.length_replicate]) (ints_one _ _) ?_)
        refine ret_sum Tryd.results20 _ _ (w.heap.size + 1) R hga _ rfl (setRow_heap _ _ _ _ _ _ H3.out.res) rfl rfl ?_
        exact ⟨⟨_, rfl, by rw [HRES.out]; exact (HO3.out.setRow _ hz1 _).mono hz2⟩, below_setRow H3.out.bel (by omega) _⟩
      · clear hsp
        go_wp2_with fail
        refine (HRA.out _ _ HC.out.1 HC.out.2 _ H2.out.tab HS2.out).mono ?_
        rintro e w3 ⟨rfl, hb3⟩
        have H3 := hid (H2.out.keep hb3)
        have HO3 := hid (HO2.out.below hb3)
        clear hb3 HRA H2 HO2 HS2 c4
        go_wp2_with (refine wpList_store_row rfl _ _ _ rfl (w.heap.size + 1) _ rfl rfl _ _ H3.out.res (by rw [sza]; exact info27) (by rw [sza, ints_size, List.length_replicate]) (ints_one _ _) ?_)
        refine ret_sum Tryd.results20 _ _ (w.heap.size + 1) R hga _ rfl (setRow_heap _ _ _ _ _ _ H3.out.res) rfl rfl ?_
        exact ⟨⟨_, rfl, by rw [HRES.out]; exact (HO3.out.setRow _ hz1 _).mono hz2⟩, below_setRow H3.out.bel (by omega) _⟩
  · obtain rfl : d = 0 := by omega
    rw [show ((0 : Nat) : Int) = 0 from rfl] at HRA HSA
    clear hmx HSM
    go_wp2_with fail
    refine (HSA.out _ _ HC.out.1 HC.out.2 _ H1.out.tab HS1.out).mono ?_
    rintro e w2 ⟨v, rfl, hown, hb2⟩
    have H2 := hid (H1.out.keep hb2)
    have HS2 := hid (HS1.out.below hb2)
    have hz1 : w.heap.size + 1 < w1.heap.size := H1.out.res.lt
    have hz2 : w.heap.size ≤ w1.heap.size := by omega
    have HB2 := hid hb2
    clear hb2 c2 HSA
    obtain ⟨_, _, _, _, c4⟩ := H2.out.cells
    obtain ⟨ao1, cap1, hv, _⟩ := hown.sums
    by_cases hsp : 0 ≤ sp ∧ sp < S.length
    · exfalso
      have h1 := hsp.1
      have h2 := hsp.2
      omega
    · have HRES := hid (show Tx.spoilt S sp = S from by unfold Tx.spoilt; rw [if_neg hsp])
      have HO2 := hid hown
      rw [hv] at HO2 ⊢
      clear hown hv
      have hq1 : w.heap.size < w2.heap.size := (Array.getElem?_eq_some_iff.1 H2.out.inn).1
      by_cases hs0 : 0 ≤ sp
      · have hs1 : ¬ sp < S.length := fun h => hsp ⟨hs0, h⟩
        clear hsp
        go_wp2_with fail
        refine (HRA.out _ _ HC.out.1 HC.out.2 _ H2.out.tab HS2.out).mono ?_
        rintro e w3 ⟨rfl, hb3⟩
        have H3 := hid (H2.out.keep hb3)
        have HO3 := hid (HO2.out.below hb3)
        clear hb3 HRA H2 HO2 HS2 c4
        go_wp2_with (refine wpList_store_row rfl _ _ _ rfl (w.heap.size + 1) _ rfl rfl _ _ H3.out.res (by rw [sza]; exact info27) (by rw [sza, ints_size, List.length_replicate]) (ints_one _ _) ?_)
        refine ret_sum Tryd.results20 _ _ (w.heap.size + 1) R hga _ rfl (setRow_heap _ _ _ _ _ _ H3.out.res) rfl rfl ?_
        exact ⟨⟨_, rfl, by rw [HRES.out]; exact (HO3.out.setRow _ hz1 _).mono hz2⟩, below_setRow H3.out.bel (by omega) _⟩
      · clear hsp
        go_wp2_with fail
        refine (HRA.out _ _ HC.out.1 HC.out.2 _ H2.out.tab HS2.out).mono ?_
        rintro e w3 ⟨rfl, hb3⟩
        have H3 := hid (H2.out.keep hb3)
        have HO3 := hid (HO2.out.below hb3)
        clear hb3 HRA H2 HO2 HS2 c4
        go_wp2_with (refine wpList_store_row rfl _ _ _ rfl (w.heap.size + 1) _ rfl rfl _ _ H3.out.res (by rw [sza]; exact info27) (by rw [sza, ints_size, List.length_replicate]) (ints_one _ _) ?_)
        refine ret_sum Tryd.results20 _ _ (w.heap.size + 1) R hga _ rfl (setRow_heap _ _ _ _ _ _ H3.out.res) rfl rfl ?_
        exact ⟨⟨_, rfl, by rw [HRES.out]; exact (HO3.out.setRow _ hz1 _).mono hz2⟩, below_setRow H3.out.bel (by omega) _⟩
end Go.Proofs.YtabhdjahdhhgiaaDoor
