/-
  Layer 11: what lies in an alloc.Map; New, Clone, has, Is.
-/
import Derived.Test.YtmlkbdkehoajaaaAl0
import Derived.Maps.AppendAt
import Derived.Lib.MinMax
namespace Go.Proofs.Ytmlkbdkehoajaaa
open Go.RowKit
open Go.Lib (hid)

theorem infoB : (Try.prog.info? 4).map (fun i => (i.zero, i.size, i.bytes)) = some (some (.bool false), 1, 1) := by kernel_rfl
/-- Block g begins with these bools. -/
def BRow (w : World) (g c : Nat) (L : List Bool) : Prop := ∃ ex : List Value, w.heap[g]? = some (.cells (L.map Value.bool ++ ex).toArray 4 (0, 0)) ∧ L.length + ex.length = c
theorem BRow.lt {w : World} {g c : Nat} {L : List Bool} (h : BRow w g c L) : g < w.heap.size := by
  obtain ⟨ex, h, _⟩ := h
  exact (Array.getElem?_eq_some_iff.1 h).1
theorem BRow.cap {w : World} {g c : Nat} {L : List Bool} (h : BRow w g c L) : L.length ≤ c := by
  obtain ⟨ex, _, h⟩ := h
  omega
theorem BRow.cell {w : World} {g c : Nat} {L : List Bool} (h : BRow w g c L) (i : Nat) (hi : i < L.length) : w.cell? ⟨g, i, none⟩ = some (.bool (L.getD i false)) := by
  obtain ⟨ex, h, _⟩ := h
  rw [cell_of_row w g i _ _ _ h, List.getElem?_toArray, List.getElem?_append_left (by simpa using hi)]
  simp [hi]
theorem BRow.free {w : World} {g c : Nat} {L : List Bool} (h : BRow w g c L) (i : Nat) : w.frozen? ⟨g, i, none⟩ = false := by
  obtain ⟨ex, h, _⟩ := h
  exact frozen_of_row w g i _ _ h
theorem BRow.at {w w' : World} {g c : Nat} {L : List Bool} (h : BRow w g c L) (e : w'.heap[g]? = w.heap[g]?) : BRow w' g c L := by
  obtain ⟨ex, h, hc⟩ := h
  exact ⟨ex, e.trans h, hc⟩
theorem BRow.set {w : World} {g c : Nat} {L : List Bool} (h : BRow w g c L) (i : Nat) (hi : i < L.length) (t : Bool) : BRow (w.setCell ⟨g, i, none⟩ (.bool t)) g c (L.set i t) := by
  obtain ⟨ex, h, hc⟩ := h
  refine ⟨ex, ?_, by rw [List.length_set]; exact hc⟩
  rw [heap_setCell_same w g i _ _ _ h]
  congr 2
  apply Array.toList_inj.1
  simp [List.map_set, hi]
/-- The Map at block b has these pages, in block g. -/
structure MapAt (w : World) (b g c : Nat) (L : List Bool) : Prop where
  ptr : w.heap[b]? = some (.cells #[.slice (some ⟨g, 0, none⟩) L.length c] 52 (0, 0))
  row : BRow w g c L
  pos : 1 ≤ L.length
  le : L.length ≤ 4096
theorem neMap : (52 : TypeId) ≠ 4 := by decide
theorem MapAt.ne {w : World} {b g c : Nat} {L : List Bool} (h : MapAt w b g c L) : b ≠ g := by
  intro e
  obtain ⟨ex, h2, _⟩ := h.row
  have h1 := h.ptr
  rw [e, h2] at h1
  injection h1 with h1
  injection h1 with _ h2 _
  exact absurd h2 (by decide)
theorem MapAt.lt {w : World} {b g c : Nat} {L : List Bool} (h : MapAt w b g c L) : b < w.heap.size := (Array.getElem?_eq_some_iff.1 h.ptr).1
theorem MapAt.cell {w : World} {b g c : Nat} {L : List Bool} (h : MapAt w b g c L) : w.cell? ⟨b, 0, none⟩ = some (.slice (some ⟨g, 0, none⟩) L.length c) := by
  rw [Lib.cell_of_heap h.ptr]; rfl
theorem MapAt.at {w w' : World} {b g c : Nat} {L : List Bool} (h : MapAt w b g c L) (e1 : w'.heap[b]? = w.heap[b]?) (e2 : w'.heap[g]? = w.heap[g]?) : MapAt w' b g c L :=
  ⟨e1.trans h.ptr, h.row.at e2, h.pos, h.le⟩
theorem MapAt.below {w w' : World} {b g c : Nat} {L : List Bool} (h : MapAt w b g c L) (hb : Below w.heap.size w w') : MapAt w' b g c L :=
  h.at (hb.block b h.lt) (hb.block g h.row.lt)

/-- Bools are made. -/
theorem run_mkB (n : Nat) (hn : n ≤ 4096) (w : World) :
    (Instr.makeSlice 26 (.int .i64 (n : Int)) (.int .i64 (n : Int))).run Try.prog w = .ok (.slice (some ⟨w.heap.size, 0, none⟩) n n) (w.alloc (.cells (madeCells #[.bool false] n) 4)) :=
  run_make_row' 26 4 (.bool false) 1 Try.underlying26 infoB rfl .i64 .i64 n (by omega) (by omega) w
theorem madeB (n : Nat) : madeCells #[.bool false] n = ((List.replicate n false).map Value.bool ++ []).toArray := by
  apply Array.ext_getElem?
  intro i
  by_cases h : i < n
  · simp [madeCells, h, Nat.mod_one]
  · rw [Array.getElem?_eq_none (by rw [size_madeCells]; omega), Array.getElem?_eq_none (by simp; omega)]

set_option maxHeartbeats 1000000 in
set_option maxRecDepth 100000 in
theorem new_any (n : Int) (k : Nat) (hk : max 1 (min n 4096) = (k : Int)) (w : World) :
    Calls Try.prog 8 #[.int .i64 n] w fun e w' => ∃ b g, e = .returned (.pointer (some ⟨b, 0, none⟩)) ∧ MapAt w' b g k (List.replicate k false) ∧ w.heap.size ≤ b ∧ w.heap.size ≤ g ∧ Below w.heap.size w w' := by
  have hk1 : 1 ≤ k ∧ k ≤ 4096 := by omega
  obtain ⟨m, hm⟩ : ∃ m : Int, min n 4096 = m := ⟨_, rfl⟩
  rw [hm] at hk
  have hmk := fun wx => run_mkB k (by omega) wx
  go_enter Try.func8, Try.ntmps8
  go_wp2
  go_ret
  refine ⟨w.heap.size + 1, w.heap.size, rfl, ⟨?_, ⟨[], ?_, by simp⟩, by simp; omega, by simp; omega⟩, by omega, by omega, ((Below.refl _ _).alloc (Nat.le_refl _) _).alloc (by simp) _⟩
  · rw [heap_alloc2_new]; simp
  · rw [heap_alloc2_old, madeB]

set_option maxHeartbeats 1000000 in
set_option maxRecDepth 100000 in
theorem has_any (b g c : Nat) (L : List Bool) (F C : Int) (hF : F ≤ 9223372036854775807) (w : World) (h : MapAt w b g c L) :
    Calls Try.prog 29 #[.pointer (some ⟨b, 0, none⟩), .agg #[.int .i64 F, .int .i64 C]] w fun e w' => e = .returned (.bool (Al.fits L.length F C)) ∧ Below w.heap.size w w' := by
  have hle := h.le
  have c0 : ∀ O, (w.alloc O).cell? ⟨b, 0, none⟩ = some (.slice (some ⟨g, 0, none⟩) L.length c) := fun O => by rw [Lib.cell_of_heap ((Below.heap_alloc w O b h.lt).trans h.ptr)]; rfl
  clear h
  have HFT : Hid (Al.fits L.length F C = (decide (1 ≤ C) && (decide (0 ≤ F) && decide (C ≤ (L.length : Int) - F)))) := rfl
  generalize L.length = n at *
  generalize Al.fits n F C = q at *
  have HB := hid (fun O => (Below.refl w.heap.size w).alloc (Nat.le_refl _) O)
  by_cases h1 : 1 ≤ C
  · by_cases h2 : 0 ≤ F
    · have hs1 : -9223372036854775808 ≤ (n : Int) - F := by omega
      have hs2 : (n : Int) - F ≤ 9223372036854775807 := by omega
      by_cases h3 : C ≤ (n : Int) - F
      · go_enter Try.func29, Try.ntmps29
        go_upto_region 1 with (fail)
        go_quiet (fail)
        go_wp2
        go_ret
        exact ⟨by rw [HFT.out, decide_eq_true h1, decide_eq_true h2, decide_eq_true h3]; rfl, (HB.out _).trans ⟨rfl, rfl, rfl, Nat.le_refl _, fun _ _ => rfl⟩⟩
      · go_enter Try.func29, Try.ntmps29
        go_upto_region 1 with (fail)
        go_quiet (fail)
        go_wp2
        go_ret
        exact ⟨by rw [HFT.out, decide_eq_true h1, decide_eq_true h2, decide_eq_false (show ¬ C ≤ (n : Int) - F by omega)]; rfl, (HB.out _).trans ⟨rfl, rfl, rfl, Nat.le_refl _, fun _ _ => rfl⟩⟩
    · have h2' : decide (0 ≤ F) = false := decide_eq_false h2
      go_enter Try.func29, Try.ntmps29
      go_upto_region 1 with (fail)
      go_quiet (fail)
      go_wp2
      go_ret
      exact ⟨by rw [HFT.out, decide_eq_true h1, decide_eq_false (show ¬ 0 ≤ F by omega)]; rfl, (HB.out _).trans ⟨rfl, rfl, rfl, Nat.le_refl _, fun _ _ => rfl⟩⟩
  · have h1' : decide (1 ≤ C) = false := decide_eq_false h1
    go_enter Try.func29, Try.ntmps29
    go_upto_region 1 with (fail)
    go_quiet (fail)
    go_wp2
    go_ret
    exact ⟨by rw [HFT.out, decide_eq_false (show ¬ 1 ≤ C by omega)]; rfl, (HB.out _).trans ⟨rfl, rfl, rfl, Nat.le_refl _, fun _ _ => rfl⟩⟩

set_option maxHeartbeats 1000000 in
set_option maxRecDepth 100000 in
theorem is_any (b g c : Nat) (L : List Bool) (p : Int) (hp : p ≤ 9223372036854775807) (w : World) (h : MapAt w b g c L) :
    Calls Try.prog 21 #[.pointer (some ⟨b, 0, none⟩), .int .i64 p] w fun e w' => e = .returned (.bool (Al.fits L.length p 1 && L.getD p.toNat false)) ∧ Below w.heap.size w w' := by
  have HH := hid (fun wx hx => has_any b g c L p 1 hp wx hx)
  have HM := hid h
  have hle := h.le
  cases hf : Al.fits L.length p 1 with
  | false =>
    rw [hf] at HH
    clear hf h
    go_enter Try.func21, Try.ntmps21
    go_wp2_with (go_at_call 29; refine (HH.out _ HM.out).mono ?_; rintro e w1 ⟨rfl, hb1⟩)
    go_ret
    exact ⟨rfl, hb1⟩
  | true =>
    rw [hf] at HH
    obtain ⟨_, h0, h1⟩ := (Al.fits_iff _ _ _).1 hf
    obtain ⟨i, rfl⟩ : ∃ i : Nat, p = (i : Int) := ⟨p.toNat, by omega⟩
    have hi : i < L.length := by omega
    rw [Int.toNat_natCast]
    clear h hf h0 h1
    go_enter Try.func21, Try.ntmps21
    go_wp2_with fail
    refine (HH.out _ HM.out).mono ?_
    rintro e w1 ⟨rfl, hb1⟩
    have HM1 := hid (HM.out.below hb1)
    have c0 := HM1.out.cell
    have c1 := HM1.out.row.cell i hi
    generalize hq : L.getD i false = q at *
    have HQ := hid hq
    clear hq
    generalize L.length = n at *
    go_wp2
    go_ret
    exact ⟨by rw [HQ.out]; rfl, hb1⟩

/-- append(s, x...), s the call's own, x some bools in memory. -/
theorem wpList_appB {w : World} {ops : Array Oper} {rest : List Oper} {o : Oper} {a : Act} {Q : Exit → Act → World → Prop} (hgd : o.guard = none) (s x : Operand)
    (ho : o.op = .call { callee := .builtin .append, args := #[s, x], argTypes := #[26, 26] })
    (base : Nat) (v : Value) (hs : a.eval s = v) (hown : w.ownsRow base 4 1 v 0 [])
    (g m c : Nat) (L : List Bool) (hx : a.eval x = .slice (some ⟨g, 0, none⟩) m c) (hm : L.length = m) (hrow : BRow w g c L) (h1 : 1 ≤ m) (hlen : m ≤ 4096) (hbase : base ≤ w.heap.size)
    (h : ∀ g' c' w', BRow w' g' c' L → base ≤ g' → Below base w w' → wpList Try.prog ops Q rest (a.put o.dst (.slice (some ⟨g', 0, none⟩) m c')) w') : wpList Try.prog ops Q (o :: rest) a w := by
  obtain ⟨i, hi, hz0, hz1, hz2⟩ := info_parts infoB
  subst hm
  refine wpList_append_own w hgd s x 26 ho base 4 i (.bool false) 1 1 Try.underlying26 hi hz0 hz1 hz2 rfl (by decide) v 0 [] hs hown ⟨g, 0, none⟩ L.length c (L.map Value.bool) hx (by simp) ?_ ?_ (by unfold maxLen; omega) (by omega) hbase ?_
  · intro j u hj
    have hlt : j < L.length := by have := (List.getElem?_eq_some_iff.1 hj).1; rwa [List.length_map] at this
    rw [Addr.add_mid, Nat.zero_add, hrow.cell j hlt]
    rw [List.getElem?_map, List.getElem?_eq_getElem hlt] at hj
    rw [List.getD_eq_getElem?_getD, List.getElem?_eq_getElem hlt]
    exact hj
  · intro u hu
    simp only [List.mem_map] at hu
    obtain ⟨y, _, rfl⟩ := hu
    rfl
  · intro v' w' h2 h3 _
    rw [Nat.zero_add, List.nil_append] at h2
    have hb := (Below.refl base w).grown h3 hbase (fun k hk => by
      obtain ⟨_, h2' | ⟨g1, cap, cur, hv, hg, _⟩⟩ := hown
      · rw [h2'.1] at hk; cases hk
      · rw [hv] at hk; simp only [Value.ownBlock, Option.some.injEq] at hk; omega)
    obtain ⟨_, ⟨_, h0⟩ | ⟨g1, cap, cur, hv, hg, hh, hn, _, hs1, hc⟩⟩ := h2
    · omega
    · rw [hv]
      refine h g1 cap w' ⟨cur.toList.drop L.length, ?_, ?_⟩ hg hb
      · rw [Nat.mul_one] at hc
        rw [← hc, List.take_append_drop]
        simpa using hh
      · have e : cur.toList.length = cap := by rw [Array.length_toList, hs1, Nat.mul_one]
        rw [List.length_drop, e]
        omega

set_option maxHeartbeats 1000000 in
set_option maxRecDepth 100000 in
theorem sclone_any (g c : Nat) (L : List Bool) (w : World) (h : BRow w g c L) (h1 : 1 ≤ L.length) (hle : L.length ≤ 4096) :
    Calls Try.prog 24 #[.slice (some ⟨g, 0, none⟩) L.length c] w fun e w' => ∃ g' c', e = .returned (.slice (some ⟨g', 0, none⟩) L.length c') ∧ BRow w' g' c' L ∧ w.heap.size ≤ g' ∧ Below w.heap.size w w' := by
  have HR := hid (h.at (Below.heap_alloc w (.cells #[] 4) g h.lt))
  have HO := hid (show (w.alloc (.cells #[] 4)).ownsRow w.heap.size 4 1 (.slice (some ⟨w.heap.size, 0, none⟩) 0 0) 0 [] from
    ⟨rfl, Or.inr ⟨w.heap.size, 0, #[], rfl, Nat.le_refl _, heap_alloc_new _ _, Nat.le_refl _, by unfold maxLen; omega, rfl, rfl⟩⟩)
  have HB := hid ((Below.refl w.heap.size w).alloc (Nat.le_refl _) (.cells #[] 4))
  obtain ⟨n, hn⟩ : ∃ n, L.length = n := ⟨_, rfl⟩
  have HN := hid hn
  rw [hn] at h1 hle ⊢
  clear h hn
  have hsn := fun wx : World => Lib.run_eql_slice_nil (P := Try.prog) (t := 26) (a := (⟨g, 0, none⟩ : Addr)) (n := n) (c := c) wx
  go_enter Try.func24, Try.ntmps24
  go_wp2_with (refine wpList_appB rfl _ _ rfl w.heap.size _ rfl HO.out g n c L rfl HN.out HR.out h1 hle HB.out.size ?_; intro g' c' w' hr' hg' hb')
  go_ret
  exact ⟨_, _, rfl, hr', hg', HB.out.trans hb'⟩

set_option maxHeartbeats 1000000 in
set_option maxRecDepth 100000 in
theorem clone_any (b g c : Nat) (L : List Bool) (w : World) (h : MapAt w b g c L) :
    Calls Try.prog 12 #[.pointer (some ⟨b, 0, none⟩)] w fun e w' => ∃ b' g' c', e = .returned (.pointer (some ⟨b', 0, none⟩)) ∧ MapAt w' b' g' c' L ∧ w.heap.size ≤ b' ∧ w.heap.size ≤ g' ∧ Below w.heap.size w w' := by
  have c0 := h.cell
  have HC := hid (sclone_any g c L w h.row h.pos h.le)
  have HP := hid h.pos
  have HL := hid h.le
  clear h
  go_enter Try.func12, Try.ntmps12
  go_wp2_with fail
  refine HC.out.mono ?_
  rintro e w1 ⟨g', c', rfl, hr, hg, hb⟩
  have HR := hid hr
  have HB := hid hb
  clear hr hb HC
  go_wp2
  go_ret
  refine ⟨w1.heap.size, g', c', rfl, ⟨?_, HR.out.at (Below.heap_alloc _ _ _ HR.out.lt), HP.out, HL.out⟩, HB.out.size, hg, HB.out.alloc HB.out.size _⟩
  exact heap_alloc_new _ _
end Go.Proofs.Ytmlkbdkehoajaaa
