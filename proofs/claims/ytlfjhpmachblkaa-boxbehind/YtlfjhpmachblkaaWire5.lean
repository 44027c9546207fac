/-
  Layer 6: what lies in a wire.In, and what its calls take.
-/
import Derived.Test.YtlfjhpmachblkaaWire1
namespace Go.Proofs.Ytlfjhpmachblkaa
open Go.RowKit
open Go.Lib (hid)

namespace Wx
/-- What Fail leaves of what is left and the first error. -/
def ifail (s : List Nat) (e q : Int) : List Nat × Int := if q = 0 ∨ e ≠ 0 then (s, e) else ([], q)
/-- What Raw leaves, and takes. -/
def iraw (s : List Nat) (e n : Int) : (List Nat × Int) × List Nat := if s.length < n.toNat then (ifail s e 2, []) else ((s.drop n.toNat, e), s.take n.toNat)
/-- The number of bytes, the greatest first. -/
def beval (t : List Nat) : Nat := t.foldl (fun v c => v * 256 + c) 0
/-- What Num leaves, and takes. -/
def inum (s : List Nat) (e : Int) : (List Nat × Int) × Nat :=
  if (iraw s e 8).2 = [] then ((iraw s e 8).1, 0) else if 9223372036854775808 ≤ beval (iraw s e 8).2 then (ifail (iraw s e 8).1.1 (iraw s e 8).1.2 1, 0) else ((iraw s e 8).1, beval (iraw s e 8).2)
/-- What Text leaves, and takes. -/
def itext (s : List Nat) (e : Int) : (List Nat × Int) × List Nat := iraw (inum s e).1.1 (inum s e).1.2 ((inum s e).2 : Int)
end Wx

/-- The In at block b has s left, and the first error e. -/
def InAt (w : World) (b : Nat) (r : List Nat × Int) : Prop := w.heap[b]? = some (.cells #[.string (str r.1), .int .i64 r.2] 81 (0, 0))
theorem InAt.lt {w : World} {b : Nat} {r : List Nat × Int} (h : InAt w b r) : b < w.heap.size := (Array.getElem?_eq_some_iff.1 h).1
theorem InAt.below {w w' : World} {b : Nat} {r : List Nat × Int} (h : InAt w b r) (hb : Below w.heap.size w w') : InAt w' b r := by
  unfold InAt; rw [hb.block b h.lt]; exact h
theorem InAt.c0 {w : World} {b : Nat} {r : List Nat × Int} (h : InAt w b r) : w.cell? ⟨b, 0, none⟩ = some (.string (str r.1)) := by rw [Lib.cell_of_heap h]; rfl
theorem InAt.c1 {w : World} {b : Nat} {r : List Nat × Int} (h : InAt w b r) : w.cell? ⟨b, 1, none⟩ = some (.int .i64 r.2) := by rw [Lib.cell_of_heap h]; rfl
theorem InAt.fr {w : World} {b : Nat} {r : List Nat × Int} (h : InAt w b r) (i : Nat) : w.frozen? ⟨b, i, none⟩ = false := Lib.frozen_of_heap h i
theorem InAt.set0 {w : World} {b : Nat} {r : List Nat × Int} (h : InAt w b r) (s : List Nat) : InAt (w.setCell ⟨b, 0, none⟩ (.string (str s))) b (s, r.2) := by
  unfold InAt; rw [heap_setCell_same w b 0 _ _ _ h]; rfl
theorem InAt.set1 {w : World} {b : Nat} {r : List Nat × Int} (h : InAt w b r) (e : Int) : InAt (w.setCell ⟨b, 1, none⟩ (.int .i64 e)) b (r.1, e) := by
  unfold InAt; rw [heap_setCell_same w b 1 _ _ _ h]; rfl

set_option maxRecDepth 100000 in
theorem wof_any (s : ByteArray) (w : World) :
    Calls Try.prog 18 #[.string s] w fun e w' => e = .returned (.pointer (some ⟨w.heap.size, 0, none⟩)) ∧ w' = w.alloc (.cells #[.string s, .int .i64 0] 81) := by
  go_enter Try.func18, Try.ntmps18
  go_wp2
  go_ret
  exact ⟨rfl, rfl⟩

set_option maxHeartbeats 1000000 in
set_option maxRecDepth 100000 in
theorem ifail_any (b : Nat) (s : List Nat) (e q : Int) (w : World) (h : InAt w b (s, e)) :
    Calls Try.prog 45 #[.pointer (some ⟨b, 0, none⟩), .int .i64 q] w fun r w' => r = .returned (.tuple #[]) ∧ InAt w' b (Wx.ifail s e q) ∧ KeptB b w w' := by
  have c1 := h.c1
  have c0 := h.c0
  have f0 := h.fr 0
  have HI := hid h
  by_cases hq : q = 0
  · subst hq
    clear h
    go_enter Try.func45, Try.ntmps45
    go_wp2
    refine bodyPost_ret (results_none rfl _ _ _) rfl ?_
    exact ⟨rfl, by rw [show Wx.ifail s e 0 = (s, e) from by simp [Wx.ifail]]; exact HI.out, KeptB.refl _ _⟩
  · by_cases he : e = 0
    · subst he
      have f1 := fun v : ByteArray => frozen_of_row (w.setCell ⟨b, 0, none⟩ (.string v)) b 1 _ _ (heap_setCell_same w b 0 _ _ (.string v) h)
      have c2 := fun v : ByteArray => cell_of_row (w.setCell ⟨b, 0, none⟩ (.string v)) b 1 _ _ _ (heap_setCell_same w b 0 _ _ (.string v) h)
      simp at c2
      clear h
      go_enter Try.func45, Try.ntmps45
      go_wp2
      go_end0
      refine ⟨rfl, ?_, ((KeptB.refl _ _).setCell _).setCell _⟩
      rw [show Wx.ifail s 0 q = ([], q) from by simp [Wx.ifail, hq]]
      exact (HI.out.set0 []).set1 q
    · have hqb : (q == 0) = false := by simp [hq]
      have heb : (e != 0) = true := by simp [he]
      clear h
      go_enter Try.func45, Try.ntmps45
      go_wp2
      refine bodyPost_ret (results_none rfl _ _ _) rfl ?_
      exact ⟨rfl, by rw [show Wx.ifail s e q = (s, e) from by simp [Wx.ifail, he]]; exact HI.out, KeptB.refl _ _⟩

set_option maxRecDepth 100000 in
theorem ierr_any (b : Nat) (r : List Nat × Int) (w : World) (h : InAt w b r) :
    Calls Try.prog 46 #[.pointer (some ⟨b, 0, none⟩)] w fun e w' => e = .returned (.int .i64 r.2) ∧ w' = w := by
  have c0 := h.c1
  clear h
  go_enter Try.func46, Try.ntmps46
  go_wp2
  go_ret
  exact ⟨rfl, rfl⟩
set_option maxRecDepth 100000 in
theorem iend_any (b : Nat) (s : List Nat) (e : Int) (w : World) (h : InAt w b (s, e)) :
    Calls Try.prog 21 #[.pointer (some ⟨b, 0, none⟩)] w fun r w' => r = .returned (.int .i64 (if s = [] then e else 1)) ∧ w' = w := by
  have c0 := h.c0
  have c1 := h.c1
  clear h
  cases s with
  | nil =>
    rw [show str ([], e).1 = ⟨#[]⟩ from rfl] at c0
    rw [if_pos rfl]
    go_enter Try.func21, Try.ntmps21
    go_wp2
    go_ret
    exact ⟨rfl, rfl⟩
  | cons c s' =>
    have hne := str_ne_nil c s'
    rw [if_neg (by simp)]
    generalize hss : c :: s' = ss at *
    clear hss
    go_enter Try.func21, Try.ntmps21
    go_wp2
    go_ret
    exact ⟨rfl, rfl⟩

set_option maxHeartbeats 1000000 in
set_option maxRecDepth 100000 in
theorem iraw_any (b : Nat) (s : List Nat) (e n : Int) (w : World) (h : InAt w b (s, e)) (hs : ∀ c ∈ s, c < 256) :
    Calls Try.prog 24 #[.pointer (some ⟨b, 0, none⟩), .int .i64 n] w fun r w' => r = .returned (.string (str (Wx.iraw s e n).2)) ∧ InAt w' b (Wx.iraw s e n).1 ∧ KeptB b w w' := by
  have HI := hid h
  obtain ⟨k, hk⟩ : ∃ k : Nat, n.toNat = k := ⟨_, rfl⟩
  have hk1 : (if (0 : Int) < n then n else 0) = (k : Int) := by split <;> omega
  have hk2 : (if n < 0 then (0 : Int) else n) = (k : Int) := by split <;> omega
  have hk3 : (if n ≤ 0 then (0 : Int) else n) = (k : Int) := by split <;> omega
  have hk4 : (if 0 ≤ n then n else 0) = (k : Int) := by split <;> omega
  have hk5 : max 0 n = (k : Int) := by omega
  have c0 := h.c0
  have f0 := h.fr 0
  have hz : (str s).size = s.length := str_size s
  by_cases hlt : s.length < k
  · have e1 : Wx.iraw s e n = (Wx.ifail s e 2, []) := by unfold Wx.iraw; rw [hk, if_pos hlt]
    rw [e1]
    have HF := hid (ifail_any b s e 2 w h)
    clear h e1
    go_enter Try.func24, Try.ntmps24
    go_wp2_with (go_at_call 45; refine HF.out.mono ?_; rintro r w1 ⟨rfl, hi1, hk1⟩)
    go_ret
    exact ⟨rfl, hi1, hk1⟩
  · have e1 : Wx.iraw s e n = ((s.drop k, e), s.take k) := by unfold Wx.iraw; rw [hk, if_neg hlt]
    rw [e1]
    have hex1 : (str s).extract 0 k = str (s.take k) := by
      have := extract_mid s hs 0 k
      rwa [Nat.zero_add, List.drop_zero] at this
    have hex2 : (str s).extract k s.length = str (s.drop k) := by
      have := extract_mid s hs k (s.length - k)
      rwa [show k + (s.length - k) = s.length from by omega, List.take_of_length_le (by simp)] at this
    have hle : (k : Int) ≤ (s.length : Int) := by omega
    clear h e1
    go_enter Try.func24, Try.ntmps24
    go_wp2
    go_ret
    exact ⟨rfl, HI.out.set0 _, (KeptB.refl _ _).setCell _⟩
end Go.Proofs.Ytlfjhpmachblkaa
