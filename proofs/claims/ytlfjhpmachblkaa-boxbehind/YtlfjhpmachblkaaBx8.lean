/-
  Layer 18: a mailbox, packed.
-/
import Derived.Test.YtlfjhpmachblkaaBx4
import Derived.Test.YtlfjhpmachblkaaWire3
import Derived.Test.YtlfjhpmachblkaaWire7
namespace Go.Proofs.Ytlfjhpmachblkaa
open Go.ChangeShapes Go.WideShapes Go.ChangeAt Go.RowKit
open Go.Lib (hid)

namespace Bv
/-- An entry's bytes. -/
def ent8 (e : E) : List Nat := Wx.nums8 [e.1, e.2.1, e.2.2]
def ents8 (L : List E) : List Nat := L.flatMap ent8
/-- A mailbox's bytes. -/
def pack (V X : Int) (L : List E) : List Nat := Wx.nums8 [V, X, (L.length : Int)] ++ ents8 L
theorem ents8_succ (L : List E) (k : Nat) (h : k < L.length) : ents8 (L.take (k + 1)) = ents8 (L.take k) ++ ent8 (L.getD k (0, 0, 0)) := by
  unfold ents8
  rw [List.take_add_one, List.flatMap_append, List.getD_eq_getElem?_getD, List.getElem?_eq_getElem h]
  simp
theorem ent8_len (e : E) : (ent8 e).length = 24 := by rw [ent8, Wx.nums8_length]; rfl
theorem ents8_len (L : List E) : (ents8 L).length = 24 * L.length := by
  induction L with
  | nil => rfl
  | cons e L ih => simp only [ents8, List.flatMap_cons, List.length_append, List.length_cons] at ih ⊢; rw [ih, ent8_len]; omega
theorem pack_lt (V X : Int) (L : List E) : ∀ c ∈ pack V X L, c < 256 := by
  intro c hc
  rcases List.mem_append.1 hc with h | h
  · exact Wx.nums8_lt _ c h
  · obtain ⟨e, _, he⟩ := List.mem_flatMap.1 h
    exact Wx.nums8_lt _ c he
theorem pack_len (V X : Int) (L : List E) : (pack V X L).length = 24 + 24 * L.length := by
  rw [pack, List.length_append, Wx.nums8_length, ents8_len]; rfl
/-- All of it may be packed. -/
def Fits (V X : Int) (L : List E) : Prop := V ≤ 9223372036854775807 ∧ X ≤ 9223372036854775807 ∧ ∀ i, i < L.length → (L.getD i (0, 0, 0)).1 ≤ 9223372036854775807 ∧ (L.getD i (0, 0, 0)).2.1 ≤ 9223372036854775807 ∧ (L.getD i (0, 0, 0)).2.2 ≤ 9223372036854775807
end Bv
theorem ints_three (w : World) (x y z : Int) (t : TypeId) : IntsB (w.alloc (.cells #[.int .i64 x, .int .i64 y, .int .i64 z] t)) (some ⟨w.heap.size, 0, none⟩) [x, y, z] := by
  intro i hi
  refine ⟨_, _, rfl, ?_⟩
  rw [cell_of_row _ _ _ _ _ _ (heap_alloc_new _ _)]
  have : i = 0 ∨ i = 1 ∨ i = 2 := by simp at hi; omega
  rcases this with rfl | rfl | rfl <;> rfl

set_option maxHeartbeats 4000000 in
set_option maxRecDepth 100000 in
theorem pack_any {b : Nat} {v : Value} {V X : Int} {L : List Bv.E} {w : World} (h : IsB w b v V X L) (hl : L.length ≤ 1000) (hF : Bv.Fits V X L) :
    Calls Try.prog 19 #[.pointer (some ⟨b, 0, none⟩)] w fun e w' => e = .returned (.string (str (Bv.pack V X L))) ∧ Below w.heap.size w w' := by
  have HI := hid h
  obtain ⟨ao, cap, rfl, hes⟩ := h.own.es
  have HA := hid hes
  have HF := hid hF
  clear h hes hF
  go_enter Try.func19, Try.ntmps19
  go_upto_region 2 with (fail)
  have HO0 := hid (OutAt.zero w)
  have HB0 := hid ((Below.refl w.heap.size w).alloc (Nat.le_refl _) (.cells #[.pointer none, .int .i64 0] 84))
  generalize w.alloc _ = w0 at *
  have c0 := (HI.out.below HB0.out).c0
  have c1 := (HI.out.below HB0.out).c1
  have c2 := (HI.out.below HB0.out).c2
  refine wp_region_noPanic ?_
  refine wp_region_hd1 13 2 rfl (by kernel_rfl) (by kernel_rfl) (fun _ _ _ _ _ h => h) ?_
  simp only [List.take_succ_cons, List.take_zero, List.drop_succ_cons, List.drop_zero]
  repeat (go_big_quiet_step (fail))
  refine wpQuiet_nil ?_
  intro m
  have HB1 := hid (show Below w0.heap.size w0 ((w0.drewN m).alloc (.cells #[.int .i64 V, .int .i64 X, .int .i64 (L.length : Int)] 3)) from (show Below w0.heap.size w0 (w0.drewN m) from ⟨rfl, rfl, rfl, Nat.le_refl _, fun _ _ => rfl⟩).alloc (Nat.le_refl _) _)
  have HN1 := hid (onum_any w.heap.size [] _ 3 _ _ (HO0.out.below HB1.out) (ints_three (w0.drewN m) V X (L.length : Int) 3) (by simp) (by
    intro n hn
    simp only [List.mem_cons, List.not_mem_nil, or_false] at hn
    rcases hn with rfl | rfl | rfl
    · exact HF.out.1
    · exact HF.out.2.1
    · omega) (by simp))
  go_wp2_with fail
  refine HN1.out.mono ?_
  rintro e w2 ⟨rfl, ho2, hk2⟩
  have hs0 := HB0.out.size
  have HB2 := hid ((HB0.out.trans (HB1.out.mono hs0)).trans (hk2.below (Nat.le_refl _) (Nat.le_trans hs0 HB1.out.size)))
  rw [List.nil_append] at ho2
  have HO2 := hid ho2
  have HI2 := hid (HI.out.below HB2.out)
  clear ho2 hk2 HN1 HB1 c0 c1 c2 HB0 HO0 hs0
  have c2 := HI2.out.c2
  go_wp2
  refine NoPanic.normal ?_
  go_upto_region 4 with (fail)
  go_loopw [26] (fun i wr => ∃ p : Nat, p ≤ L.length ∧ i = .int .i64 p ∧ OutAt wr w.heap.size (Wx.nums8 [V, X, (L.length : Int)] ++ Bv.ents8 (L.take p)) ∧ Below w.heap.size w wr)
    (fun i _ => L.length - (intOf i).toNat)
  case atStart => exact ⟨0, by omega, rfl, by simpa [Bv.ents8] using HO2.out, HB2.out⟩
  case round =>
    obtain ⟨p, hp, rfl, ho, hb⟩ := hrel
    have HO := hid ho
    have HB := hid hb
    clear ho hb HO2 HB2 HI2 c2
    by_cases hlt : p < L.length
    · obtain ⟨g, rfl, q0, q1, q2⟩ := (HA.out.below HB.out) p hlt
      obtain ⟨f0, f1, f2⟩ := HF.out.2.2 p hlt
      have hst := Bv.ents8_succ L p hlt
      have hlen : (Wx.nums8 [V, X, (L.length : Int)] ++ Bv.ents8 (L.take p)).length ≤ 100000000000 := by
        rw [List.length_append, Wx.nums8_length, Bv.ents8_len, List.length_take]
        simp only [List.length_cons, List.length_nil]
        omega
      obtain ⟨⟨yu, yf, ym⟩, hy⟩ : ∃ y, L.getD p (0, 0, 0) = y := ⟨_, rfl⟩
      rw [hy] at q0 q1 q2 hst f0 f1 f2
      dsimp only at q0 q1 q2 f0 f1 f2
      have HST := hid hst
      clear hst hy
      have HA1 := hid (show Below wr.heap.size wr ((wr.alloc (.cells #[.int .i64 yu, .int .i64 yf, .int .i64 ym] 38)).alloc (.cells #[.int .i64 yu, .int .i64 yf, .int .i64 ym] 3)) from ((Below.refl wr.heap.size wr).alloc (Nat.le_refl _) _).alloc (by simp) _)
      have hn := onum_any w.heap.size _ _ 3 _ _ (HO.out.below HA1.out) (ints_three (wr.alloc (.cells #[.int .i64 yu, .int .i64 yf, .int .i64 ym] 38)) yu yf ym 3) (by simp) (by
        intro n hn
        simp only [List.mem_cons, List.not_mem_nil, or_false] at hn
        rcases hn with rfl | rfl | rfl
        · exact f0
        · exact f1
        · exact f2) hlen
      have hsz : (wr.alloc (.cells #[.int .i64 yu, .int .i64 yf, .int .i64 ym] 38)).heap.size = wr.heap.size + 1 := by simp
      rw [hsz] at hn
      have HN := hid hn
      clear hn f0 f1 f2 hsz hlen
      go_wp2_with fail
      refine HN.out.mono ?_
      rintro e w3 ⟨rfl, ho3, hk3⟩
      have HB3 := hid ((HB.out.trans (HA1.out.mono HB.out.size)).trans (hk3.below (Nat.le_refl _) (Nat.le_trans HB.out.size HA1.out.size)))
      have HO3 := hid ho3
      clear ho3 hk3 HN HA1 HB HO
      go_wp2
      exact ⟨⟨p + 1, by omega, by go_num, by rw [HST.out, ← List.append_assoc]; exact HO3.out, HB3.out⟩, by simp [intOf]; omega⟩
    · obtain rfl : p = L.length := by omega
      have ho := HO.out
      rw [List.take_length] at ho
      have HY := hid (obytes_any w.heap.size (Bv.pack V X L) wr ho (Bv.pack_lt V X L) (by rw [Bv.pack_len]; omega))
      clear ho HO
      go_wp2_with fail
      refine HY.out.mono ?_
      rintro e w3 ⟨rfl, hb3⟩
      have HB3 := hid (HB.out.trans (hb3.mono HB.out.size))
      clear hb3 HY HB
      go_wp2
      go_ret
      exact ⟨rfl, HB3.out⟩
end Go.Proofs.Ytlfjhpmachblkaa
