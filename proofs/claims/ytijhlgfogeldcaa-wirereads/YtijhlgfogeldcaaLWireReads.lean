/-
  Of any bytes just the document's numbers and texts are taken, and its first error told (law WireReads); for every input.
-/
import Derived.Test.YtijhlgfogeldcaaLActs
import Derived.Test.YtijhlgfogeldcaaRef6b
namespace Go.Proofs.Ytijhlgfogeldcaa
open Go.ChangeShapes Go.WideShapes Go.ChangeAt Go.RowKit
open Go.Lib (hid)

/-- The reference's In at block b. -/
def XAt (w : World) (b : Nat) (r : List Nat × Int) : Prop := w.heap[b]? = some (.cells #[.string (str r.1), .int .i64 r.2] 41 (0, 0))
theorem XAt.lt {w : World} {b : Nat} {r : List Nat × Int} (h : XAt w b r) : b < w.heap.size := (Array.getElem?_eq_some_iff.1 h).1
theorem XAt.below {w w' : World} {b : Nat} {r : List Nat × Int} (h : XAt w b r) (hb : Below w.heap.size w w') : XAt w' b r := by
  unfold XAt; rw [hb.block b h.lt]; exact h
theorem XAt.keptB {w w' : World} {b o : Nat} {r : List Nat × Int} (h : XAt w b r) (hk : KeptB o w w') (hne : b ≠ o) : XAt w' b r := by
  unfold XAt; rw [hk.block b h.lt hne]; exact h
theorem XAt.c0 {w : World} {b : Nat} {r : List Nat × Int} (h : XAt w b r) : w.cell? ⟨b, 0, none⟩ = some (.string (str r.1)) := by rw [Lib.cell_of_heap h]; rfl
theorem XAt.c1 {w : World} {b : Nat} {r : List Nat × Int} (h : XAt w b r) : w.cell? ⟨b, 1, none⟩ = some (.int .i64 r.2) := by rw [Lib.cell_of_heap h]; rfl

namespace WireReads
/-- What stays while the two are compared. -/
def S (w : World) (b bx : Nat) (r : List Nat × Int) (u : World) : Prop := InAt u b r ∧ XAt u bx r ∧ Below w.heap.size w u ∧ w.heap.size ≤ u.heap.size
theorem S.keep {w : World} {b bx : Nat} {r : List Nat × Int} {u u' : World} (h : S w b bx r u) (hb : Below u.heap.size u u') : S w b bx r u' :=
  ⟨h.1.below hb, h.2.1.below hb, h.2.2.1.trans (hb.mono h.2.2.2), Nat.le_trans h.2.2.2 hb.size⟩

set_option maxHeartbeats 4000000 in
set_option maxRecDepth 100000 in
theorem walk (s : ByteArray) (hs : s.size ≤ maxLen) (ao : Option Addr) (L : List (Int × Int × ByteArray)) (cap : Nat) (w : World) (hA : ActsB w ao L) (hL : L.length ≤ maxLen) :
    Calls Try.prog 4 #[.string s, .slice ao L.length cap] w fun e w' => e = .returned (.bool true) ∧ Below w.heap.size w w' := by
  have HCUT := hid (fun wx => cut_any s 100 wx hs (by omega))
  obtain ⟨t, ht⟩ : ∃ t, t = (nums s).take 100 := ⟨_, rfl⟩
  have tb : ∀ x ∈ t, x < 256 := by rw [ht]; exact fun x hx => nums_lt s x (List.mem_of_mem_take hx)
  rw [← ht] at HCUT
  have HA := hid hA
  have HTB := hid tb
  have hLm : L.length ≤ 9223372036854775807 := hL
  clear hA hL ht hs tb
  go_enter Try.func4, Try.ntmps4
  go_upto_region 3 with (go_at_call 9; refine (awake6_any _).mono ?_; rintro e w0 ⟨rfl, hb0⟩)
  go_upto_region 5 with (first
    | (go_at_call 10; refine (HCUT.out _).mono ?_; rintro e w2 ⟨rfl, hw2⟩; obtain rfl : w0 = w2 := hw2)
    | (go_at_call 19; refine (of_any _ _).mono ?_; rintro e w1 ⟨rfl, rfl⟩))
  generalize hw1 : (w0.alloc _).alloc _ = w1
  have HI1 := hid (show InAt w1 w0.heap.size (t, 0) from by rw [← hw1]; exact heap_alloc2_old _ _ _)
  have HX1 := hid (show XAt w1 (w0.heap.size + 1) (t, 0) from by rw [← hw1]; exact heap_alloc2_new _ _ _)
  have HB1 := hid (show Below w.heap.size w w1 from by rw [← hw1]; exact (hb0.alloc hb0.size _).alloc (Nat.le_trans hb0.size (by simp)) _)
  have hs0 := hb0.size
  clear hw1 hb0 HCUT
  generalize w0.heap.size = b at *
  go_upto_region 8 with (fail)
  go_loopw [7] (fun i wr => ∃ (k : Nat) (x : List Nat) (e : Int), k ≤ L.length ∧ i = .int .i64 k ∧ InAt wr b (x, e) ∧ XAt wr (b + 1) (x, e) ∧ Wx.Good x e ∧ (∀ c ∈ x, c < 256) ∧ Below w.heap.size w wr)
    (fun i _ => L.length - (intOf i).toNat)
  case atStart => exact ⟨0, t, 0, by omega, rfl, HI1.out, HX1.out, Or.inl rfl, HTB.out, HB1.out⟩
  case round =>
    clear HI1 HX1 HB1 HTB
    obtain ⟨k, x, e, hk, rfl, hin, hxt, hgood, hxb, hbel⟩ := hrel
    by_cases hlt : k < L.length
    · by_cases hten : k < 20
      · obtain ⟨sb, so, hao, c0, c1, c2⟩ := HA.out.below hbel k hlt
        subst hao
        have HIN := hid (hin.below ((Below.refl _ wr).alloc (Nat.le_refl _) (.cells #[.int .i64 (L.getD k (0, 0, ByteArray.empty)).1, .int .i64 (L.getD k (0, 0, ByteArray.empty)).2.1, .string (L.getD k (0, 0, ByteArray.empty)).2.2] 28)))
        have HXT := hid (hxt.below ((Below.refl _ wr).alloc (Nat.le_refl _) (.cells #[.int .i64 (L.getD k (0, 0, ByteArray.empty)).1, .int .i64 (L.getD k (0, 0, ByteArray.empty)).2.1, .string (L.getD k (0, 0, ByteArray.empty)).2.2] 28)))
        have HB2 := hid (hbel.alloc hbel.size (.cells #[.int .i64 (L.getD k (0, 0, ByteArray.empty)).1, .int .i64 (L.getD k (0, 0, ByteArray.empty)).2.1, .string (L.getD k (0, 0, ByteArray.empty)).2.2] 28))
        have HA2 := hid (show (wr.alloc (.cells #[.int .i64 (L.getD k (0, 0, ByteArray.empty)).1, .int .i64 (L.getD k (0, 0, ByteArray.empty)).2.1, .string (L.getD k (0, 0, ByteArray.empty)).2.2] 28)).heap[wr.heap.size]? = some (.cells #[.int .i64 (L.getD k (0, 0, ByteArray.empty)).1, .int .i64 (L.getD k (0, 0, ByteArray.empty)).2.1, .string (L.getD k (0, 0, ByteArray.empty)).2.2] 28 (0, 0)) from heap_alloc_new _ _)
        have hab : wr.heap.size ≠ b := by have := hin.lt; omega
        have habx : wr.heap.size ≠ b + 1 := by have := hxt.lt; omega
        have HG := hid hgood
        have HXB := hid hxb
        clear hin hxt hgood hxb hbel
        generalize L.getD k (0, 0, ByteArray.empty) = q at *
        obtain ⟨K, N, T⟩ := q
        simp only at c0 c1 c2 HIN HXT HB2 HA2
        go_upto_region 13 with (fail)
        generalize wr.alloc (.cells #[.int .i64 K, .int .i64 N, .string T] 28) = w2 at *
        generalize wr.heap.size = a at *
        clear c0 c1 c2
        have e0 : w2.cell? ⟨a, 0, none⟩ = some (.int .i64 K) := by rw [Lib.cell_of_heap HA2.out]; rfl
        have e1 : w2.cell? ⟨a, 1, none⟩ = some (.int .i64 N) := by rw [Lib.cell_of_heap HA2.out]; rfl
        by_cases h0 : K = 0
        · subst h0
          have HNU := hid (fun wx hx => inum_any b x e wx hx HXB.out)
          have HRD := hid (fun wx => rread_any x e HG.out HXB.out wx)
          have HG1 := hid HG.out.num
          have HXB1 := hid (Wx.inum_lt x e HXB.out)
          generalize Wx.inum x e = R at *
          obtain ⟨⟨s1, e1⟩, v⟩ := R
          unfold inV at HRD
          simp only at HNU HRD HG1 HXB1
          go_upto_region 18 with (fail)
          go_wp2_with fail
          refine (HNU.out _ HIN.out).mono ?_
          rintro r w3 ⟨rfl, hi3, hk3⟩
          have HX3 := hid (HXT.out.keptB hk3 (by omega))
          have HI3 := hid hi3
          have HB3 := hid (HB2.out.trans (hk3.below hs0 HB2.out.size))
          have x0 := HX3.out.c0
          have x1 := HX3.out.c1
          simp only at x0 x1
          clear hi3 hk3
          go_wp2_with fail
          refine (HRD.out _).mono ?_
          rintro r w4 ⟨rfl, k4⟩
          have HX4 := hid (HX3.out.below k4)
          have HI4 := hid (HI3.out.below k4)
          have HB4 := hid (HB3.out.trans (k4.mono HB3.out.size))
          obtain ⟨y0, y1, y2, y3⟩ := in_cells HX4.out
          clear k4 x0 x1
          go_upto_region 27 with (fail)
          have HS5 := hid (show S w b (b + 1) (s1, e1) ((w4.setCell ⟨b + 1, 0, none⟩ (.string (str s1))).setCell ⟨b + 1, 1, none⟩ (.int .i64 e1)) from by
            have hb := below_set2 HB4.out (show w.heap.size ≤ b + 1 by omega) (.string (str s1)) (.int .i64 e1)
            refine ⟨?_, in_set2 HX4.out _ _, hb, hb.size⟩
            unfold InAt
            rw [heap_setCell_other _ (⟨b + 1, 1, none⟩ : Addr) b _ (by simp), heap_setCell_other _ (⟨b + 1, 0, none⟩ : Addr) b _ (by simp)]
            exact HI4.out)
          clear y0 y1 y2 y3
          generalize (w4.setCell _ _).setCell _ _ = w5 at *
          skip
          have HEN := hid (fun wx hx => iend_any b s1 e1 wx hx)
          have HRE := hid (fun wx => rend_any s1 e1 HG1.out wx)
          have HLE := hid (fun wx hx => ileft_any b (s1, e1) wx hx)
          have HER := hid (fun wx hx => ierr_any b (s1, e1) wx hx)
          unfold inV at HRE
          simp only at HRE HLE HER
          refine wp_region_class (S w b (b + 1) (s1, e1)) (by kernel_rfl) (by kernel_rfl) (HS5.out.keep ((Below.refl _ _).drew)) ?_
          intro Z φ hne hSφ hφ
          have HSZ := hid hSφ
          have x0 := fun z => (hSφ z).2.1.c0
          have x1 := fun z => (hSφ z).2.1.c1
          simp only at x0 x1
          have hzs := str_size s1
          have C1 := hid (fun z => calls_class hφ ((HLE.out (φ z) (hSφ z).1).mono fun e w' h => ⟨h.1, by rw [h.2]; exact hSφ z⟩))
          have C2 := hid (fun z => calls_class hφ ((HER.out (φ z) (hSφ z).1).mono fun e w' h => ⟨h.1, by rw [h.2]; exact hSφ z⟩))
          have C3 := hid (fun z => calls_class hφ ((HEN.out (φ z) (hSφ z).1).mono fun e w' h => ⟨h.1, by rw [h.2]; exact hSφ z⟩))
          have C4 := hid (fun z => calls_class hφ ((HRE.out (φ z)).mono fun e w' h => ⟨h.1, (hSφ z).keep h.2⟩))
          clear hSφ hφ HS5
          generalize (if s1 = [] then e1 else 1) = E1 at *
          generalize str s1 = SS at *
          repeat (go_big_quiet_step (first | (go_at_call 27; exact C1.out _) | (go_at_call 28; exact C2.out _) | (go_at_call 29; exact C3.out _) | (go_at_call 30; exact C4.out _)))
          refine wpQuiet_nil ?_
          intro z
          go_wp2
          exact ⟨⟨k + 1, s1, e1, by omega, by go_num, (HSZ.out z).1, (HSZ.out z).2.1, HG1.out, HXB1.out, (HSZ.out z).2.2.1⟩, by simp [intOf]; omega⟩
        have h0b : (K == 0) = false := by simp [h0]
        by_cases h1 : K = 1
        · subst h1
          have HNU := hid (fun wx hx => itext_any b x e wx hx HXB.out)
          have HRD := hid (fun wx => rtextr_any x e HG.out HXB.out wx)
          have HG1 := hid (HG.out.text)
          have HXB1 := hid ((Wx.itext_lt x e HXB.out).1)
          generalize Wx.itext x e = R at *
          obtain ⟨⟨s1, e1⟩, v⟩ := R
          unfold inV at HRD
          simp only at HNU HRD HG1 HXB1
          go_upto_region 21 with (fail)
          go_wp2_with fail
          refine (HNU.out _ HIN.out).mono ?_
          rintro r w3 ⟨rfl, hi3, hk3⟩
          have HX3 := hid (HXT.out.keptB hk3 (by omega))
          have HI3 := hid hi3
          have HB3 := hid (HB2.out.trans (hk3.below hs0 HB2.out.size))
          have x0 := HX3.out.c0
          have x1 := HX3.out.c1
          simp only at x0 x1
          clear hi3 hk3
          go_wp2_with fail
          refine (HRD.out _).mono ?_
          rintro r w4 ⟨rfl, k4⟩
          have HX4 := hid (HX3.out.below k4)
          have HI4 := hid (HI3.out.below k4)
          have HB4 := hid (HB3.out.trans (k4.mono HB3.out.size))
          obtain ⟨y0, y1, y2, y3⟩ := in_cells HX4.out
          clear k4 x0 x1
          go_upto_region 27 with (fail)
          have HS5 := hid (show S w b (b + 1) (s1, e1) ((w4.setCell ⟨b + 1, 0, none⟩ (.string (str s1))).setCell ⟨b + 1, 1, none⟩ (.int .i64 e1)) from by
            have hb := below_set2 HB4.out (show w.heap.size ≤ b + 1 by omega) (.string (str s1)) (.int .i64 e1)
            refine ⟨?_, in_set2 HX4.out _ _, hb, hb.size⟩
            unfold InAt
            rw [heap_setCell_other _ (⟨b + 1, 1, none⟩ : Addr) b _ (by simp), heap_setCell_other _ (⟨b + 1, 0, none⟩ : Addr) b _ (by simp)]
            exact HI4.out)
          clear y0 y1 y2 y3
          generalize (w4.setCell _ _).setCell _ _ = w5 at *
          have HEN := hid (fun wx hx => iend_any b s1 e1 wx hx)
          have HRE := hid (fun wx => rend_any s1 e1 HG1.out wx)
          have HLE := hid (fun wx hx => ileft_any b (s1, e1) wx hx)
          have HER := hid (fun wx hx => ierr_any b (s1, e1) wx hx)
          unfold inV at HRE
          simp only at HRE HLE HER
          refine wp_region_class (S w b (b + 1) (s1, e1)) (by kernel_rfl) (by kernel_rfl) (HS5.out.keep ((Below.refl _ _).drew)) ?_
          intro Z φ hne hSφ hφ
          have HSZ := hid hSφ
          have x0 := fun z => (hSφ z).2.1.c0
          have x1 := fun z => (hSφ z).2.1.c1
          simp only at x0 x1
          have hzs := str_size s1
          have C1 := hid (fun z => calls_class hφ ((HLE.out (φ z) (hSφ z).1).mono fun e w' h => ⟨h.1, by rw [h.2]; exact hSφ z⟩))
          have C2 := hid (fun z => calls_class hφ ((HER.out (φ z) (hSφ z).1).mono fun e w' h => ⟨h.1, by rw [h.2]; exact hSφ z⟩))
          have C3 := hid (fun z => calls_class hφ ((HEN.out (φ z) (hSφ z).1).mono fun e w' h => ⟨h.1, by rw [h.2]; exact hSφ z⟩))
          have C4 := hid (fun z => calls_class hφ ((HRE.out (φ z)).mono fun e w' h => ⟨h.1, (hSφ z).keep h.2⟩))
          clear hSφ hφ HS5
          generalize (if s1 = [] then e1 else 1) = E1 at *
          generalize str s1 = SS at *
          repeat (go_big_quiet_step (first | (go_at_call 27; exact C1.out _) | (go_at_call 28; exact C2.out _) | (go_at_call 29; exact C3.out _) | (go_at_call 30; exact C4.out _)))
          refine wpQuiet_nil ?_
          intro z
          go_wp2
          exact ⟨⟨k + 1, s1, e1, by omega, by go_num, (HSZ.out z).1, (HSZ.out z).2.1, HG1.out, HXB1.out, (HSZ.out z).2.2.1⟩, by simp [intOf]; omega⟩
        have h1b : (K == 1) = false := by simp [h1]
        by_cases h2 : K = 2
        · subst h2
          have HNU := hid (fun wx hx => iraw_any b x e N wx hx HXB.out)
          have HRD := hid (fun wx => rraw_any x e N HG.out HXB.out wx)
          have HG1 := hid (HG.out.raw N)
          have HXB1 := hid ((Wx.iraw_lt x e N HXB.out).1)
          generalize Wx.iraw x e N = R at *
          obtain ⟨⟨s1, e1⟩, v⟩ := R
          unfold inV at HRD
          simp only at HNU HRD HG1 HXB1
          go_upto_region 25 with (fail)
          go_wp2_with fail
          refine (HNU.out _ HIN.out).mono ?_
          rintro r w3 ⟨rfl, hi3, hk3⟩
          have HX3 := hid (HXT.out.keptB hk3 (by omega))
          have HI3 := hid hi3
          have HB3 := hid (HB2.out.trans (hk3.below hs0 HB2.out.size))
          have x0 := HX3.out.c0
          have x1 := HX3.out.c1
          simp only at x0 x1
          have f1 : w3.cell? ⟨a, 1, none⟩ = some (.int .i64 N) := by
            have h3 : w3.heap[a]? = _ := (hk3.block a (Array.getElem?_eq_some_iff.1 HA2.out).1 hab).trans HA2.out
            rw [Lib.cell_of_heap h3]; rfl
          clear hi3 hk3
          go_wp2_with fail
          refine (HRD.out _).mono ?_
          rintro r w4 ⟨rfl, k4⟩
          have HX4 := hid (HX3.out.below k4)
          have HI4 := hid (HI3.out.below k4)
          have HB4 := hid (HB3.out.trans (k4.mono HB3.out.size))
          obtain ⟨y0, y1, y2, y3⟩ := in_cells HX4.out
          clear k4 x0 x1
          go_upto_region 27 with (fail)
          have HS5 := hid (show S w b (b + 1) (s1, e1) ((w4.setCell ⟨b + 1, 0, none⟩ (.string (str s1))).setCell ⟨b + 1, 1, none⟩ (.int .i64 e1)) from by
            have hb := below_set2 HB4.out (show w.heap.size ≤ b + 1 by omega) (.string (str s1)) (.int .i64 e1)
            refine ⟨?_, in_set2 HX4.out _ _, hb, hb.size⟩
            unfold InAt
            rw [heap_setCell_other _ (⟨b + 1, 1, none⟩ : Addr) b _ (by simp), heap_setCell_other _ (⟨b + 1, 0, none⟩ : Addr) b _ (by simp)]
            exact HI4.out)
          clear y0 y1 y2 y3
          generalize (w4.setCell _ _).setCell _ _ = w5 at *
          have HEN := hid (fun wx hx => iend_any b s1 e1 wx hx)
          have HRE := hid (fun wx => rend_any s1 e1 HG1.out wx)
          have HLE := hid (fun wx hx => ileft_any b (s1, e1) wx hx)
          have HER := hid (fun wx hx => ierr_any b (s1, e1) wx hx)
          unfold inV at HRE
          simp only at HRE HLE HER
          refine wp_region_class (S w b (b + 1) (s1, e1)) (by kernel_rfl) (by kernel_rfl) (HS5.out.keep ((Below.refl _ _).drew)) ?_
          intro Z φ hne hSφ hφ
          have HSZ := hid hSφ
          have x0 := fun z => (hSφ z).2.1.c0
          have x1 := fun z => (hSφ z).2.1.c1
          simp only at x0 x1
          have hzs := str_size s1
          have C1 := hid (fun z => calls_class hφ ((HLE.out (φ z) (hSφ z).1).mono fun e w' h => ⟨h.1, by rw [h.2]; exact hSφ z⟩))
          have C2 := hid (fun z => calls_class hφ ((HER.out (φ z) (hSφ z).1).mono fun e w' h => ⟨h.1, by rw [h.2]; exact hSφ z⟩))
          have C3 := hid (fun z => calls_class hφ ((HEN.out (φ z) (hSφ z).1).mono fun e w' h => ⟨h.1, by rw [h.2]; exact hSφ z⟩))
          have C4 := hid (fun z => calls_class hφ ((HRE.out (φ z)).mono fun e w' h => ⟨h.1, (hSφ z).keep h.2⟩))
          clear hSφ hφ HS5
          generalize (if s1 = [] then e1 else 1) = E1 at *
          generalize str s1 = SS at *
          repeat (go_big_quiet_step (first | (go_at_call 27; exact C1.out _) | (go_at_call 28; exact C2.out _) | (go_at_call 29; exact C3.out _) | (go_at_call 30; exact C4.out _)))
          refine wpQuiet_nil ?_
          intro z
          go_wp2
          exact ⟨⟨k + 1, s1, e1, by omega, by go_num, (HSZ.out z).1, (HSZ.out z).2.1, HG1.out, HXB1.out, (HSZ.out z).2.2.1⟩, by simp [intOf]; omega⟩
        have h2b : (K == 2) = false := by simp [h2]
        by_cases h3 : K = 3
        · subst h3
          have HNU := hid (fun wx hx => iraw_any b x e N wx hx HXB.out)
          have HRD := hid (fun wx => rraw_any x e N HG.out HXB.out wx)
          have HG1 := hid (HG.out.raw N)
          have HXB1 := hid ((Wx.iraw_lt x e N HXB.out).1)
          generalize Wx.iraw x e N = R at *
          obtain ⟨⟨s1, e1⟩, v⟩ := R
          unfold inV at HRD
          simp only at HNU HRD HG1 HXB1
          go_upto_region 25 with (fail)
          go_wp2_with fail
          refine (HNU.out _ HIN.out).mono ?_
          rintro r w3 ⟨rfl, hi3, hk3⟩
          have HX3 := hid (HXT.out.keptB hk3 (by omega))
          have HI3 := hid hi3
          have HB3 := hid (HB2.out.trans (hk3.below hs0 HB2.out.size))
          have x0 := HX3.out.c0
          have x1 := HX3.out.c1
          simp only at x0 x1
          have f1 : w3.cell? ⟨a, 1, none⟩ = some (.int .i64 N) := by
            have h3 : w3.heap[a]? = _ := (hk3.block a (Array.getElem?_eq_some_iff.1 HA2.out).1 hab).trans HA2.out
            rw [Lib.cell_of_heap h3]; rfl
          clear hi3 hk3
          go_wp2_with fail
          refine (HRD.out _).mono ?_
          rintro r w4 ⟨rfl, k4⟩
          have HX4 := hid (HX3.out.below k4)
          have HI4 := hid (HI3.out.below k4)
          have HB4 := hid (HB3.out.trans (k4.mono HB3.out.size))
          obtain ⟨y0, y1, y2, y3⟩ := in_cells HX4.out
          clear k4 x0 x1
          go_upto_region 27 with (fail)
          have HS5 := hid (show S w b (b + 1) (s1, e1) ((w4.setCell ⟨b + 1, 0, none⟩ (.string (str s1))).setCell ⟨b + 1, 1, none⟩ (.int .i64 e1)) from by
            have hb := below_set2 HB4.out (show w.heap.size ≤ b + 1 by omega) (.string (str s1)) (.int .i64 e1)
            refine ⟨?_, in_set2 HX4.out _ _, hb, hb.size⟩
            unfold InAt
            rw [heap_setCell_other _ (⟨b + 1, 1, none⟩ : Addr) b _ (by simp), heap_setCell_other _ (⟨b + 1, 0, none⟩ : Addr) b _ (by simp)]
            exact HI4.out)
          clear y0 y1 y2 y3
          generalize (w4.setCell _ _).setCell _ _ = w5 at *
          have HEN := hid (fun wx hx => iend_any b s1 e1 wx hx)
          have HRE := hid (fun wx => rend_any s1 e1 HG1.out wx)
          have HLE := hid (fun wx hx => ileft_any b (s1, e1) wx hx)
          have HER := hid (fun wx hx => ierr_any b (s1, e1) wx hx)
          unfold inV at HRE
          simp only at HRE HLE HER
          refine wp_region_class (S w b (b + 1) (s1, e1)) (by kernel_rfl) (by kernel_rfl) (HS5.out.keep ((Below.refl _ _).drew)) ?_
          intro Z φ hne hSφ hφ
          have HSZ := hid hSφ
          have x0 := fun z => (hSφ z).2.1.c0
          have x1 := fun z => (hSφ z).2.1.c1
          simp only at x0 x1
          have hzs := str_size s1
          have C1 := hid (fun z => calls_class hφ ((HLE.out (φ z) (hSφ z).1).mono fun e w' h => ⟨h.1, by rw [h.2]; exact hSφ z⟩))
          have C2 := hid (fun z => calls_class hφ ((HER.out (φ z) (hSφ z).1).mono fun e w' h => ⟨h.1, by rw [h.2]; exact hSφ z⟩))
          have C3 := hid (fun z => calls_class hφ ((HEN.out (φ z) (hSφ z).1).mono fun e w' h => ⟨h.1, by rw [h.2]; exact hSφ z⟩))
          have C4 := hid (fun z => calls_class hφ ((HRE.out (φ z)).mono fun e w' h => ⟨h.1, (hSφ z).keep h.2⟩))
          clear hSφ hφ HS5
          generalize (if s1 = [] then e1 else 1) = E1 at *
          generalize str s1 = SS at *
          repeat (go_big_quiet_step (first | (go_at_call 27; exact C1.out _) | (go_at_call 28; exact C2.out _) | (go_at_call 29; exact C3.out _) | (go_at_call 30; exact C4.out _)))
          refine wpQuiet_nil ?_
          intro z
          go_wp2
          exact ⟨⟨k + 1, s1, e1, by omega, by go_num, (HSZ.out z).1, (HSZ.out z).2.1, HG1.out, HXB1.out, (HSZ.out z).2.2.1⟩, by simp [intOf]; omega⟩
        have h3b : (K == 3) = false := by simp [h3]
        clear h0 h1 h2 h3
        obtain ⟨j, hj, hand0⟩ := and_le N 7 (by decide)
        have hand : bits .and .i64 N 7 = (j : Int) := hand0
        clear hand0
        have HFA := hid (fun wx hx => ifail_any b x e (j : Int) wx hx)
        have HGF := hid (HG.out.fail (j : Int))
        have HLF := hid (Wx.ifail_lt x e (j : Int) HXB.out)
        have hif : Wx.ifail x e (j : Int) = if (j : Int) = 0 ∨ e ≠ 0 then (x, e) else ([], (j : Int)) := rfl
        rw [hif] at HFA HGF HLF
        clear hif
        go_upto_region 14 with (fail)
        go_wp2_with fail
        refine (HFA.out _ HIN.out).mono ?_
        rintro r w3 ⟨rfl, hi3, hk3⟩
        have HX3 := hid (HXT.out.keptB hk3 (by omega))
        have HI3 := hid hi3
        have HB3 := hid (HB2.out.trans (hk3.below hs0 HB2.out.size))
        have x0 := HX3.out.c0
        have x1 := HX3.out.c1
        simp only at x0 x1
        have f1 : w3.cell? ⟨a, 1, none⟩ = some (.int .i64 N) := by
          have h3 : w3.heap[a]? = _ := (hk3.block a (Array.getElem?_eq_some_iff.1 HA2.out).1 hab).trans HA2.out
          rw [Lib.cell_of_heap h3]; rfl
        clear hi3 hk3 HFA
        by_cases hj0 : (j : Int) = 0 ∨ e ≠ 0
        · rw [if_pos hj0] at HI3 HGF HLF
          have HG1 := HGF
          have HXB1 := HLF
          have HS5 := hid (show S w b (b + 1) (x, e) w3 from ⟨HI3.out, HX3.out, HB3.out, HB3.out.size⟩)
          by_cases he : e = 0
          · have hjz : (j : Int) = 0 := hj0.resolve_right (by simp [he])
            subst he
            rw [hjz] at hand
            go_upto_region 27 with (fail)
            clear x0 x1 f1 hj0
            generalize hs1 : x = s1 at *
            obtain ⟨e1, he1⟩ : ∃ e1 : Int, e1 = 0 := ⟨_, rfl⟩
            rw [← he1] at HS5 HG1
            clear hs1 he1
            have HEN := hid (fun wx hx => iend_any b s1 e1 wx hx)
            have HRE := hid (fun wx => rend_any s1 e1 HG1.out wx)
            have HLE := hid (fun wx hx => ileft_any b (s1, e1) wx hx)
            have HER := hid (fun wx hx => ierr_any b (s1, e1) wx hx)
            unfold inV at HRE
            simp only at HRE HLE HER
            refine wp_region_class (S w b (b + 1) (s1, e1)) (by kernel_rfl) (by kernel_rfl) (HS5.out.keep ((Below.refl _ _).drew)) ?_
            intro Z φ hne hSφ hφ
            have HSZ := hid hSφ
            have x0 := fun z => (hSφ z).2.1.c0
            have x1 := fun z => (hSφ z).2.1.c1
            simp only at x0 x1
            have hzs := str_size s1
            have C1 := hid (fun z => calls_class hφ ((HLE.out (φ z) (hSφ z).1).mono fun e w' h => ⟨h.1, by rw [h.2]; exact hSφ z⟩))
            have C2 := hid (fun z => calls_class hφ ((HER.out (φ z) (hSφ z).1).mono fun e w' h => ⟨h.1, by rw [h.2]; exact hSφ z⟩))
            have C3 := hid (fun z => calls_class hφ ((HEN.out (φ z) (hSφ z).1).mono fun e w' h => ⟨h.1, by rw [h.2]; exact hSφ z⟩))
            have C4 := hid (fun z => calls_class hφ ((HRE.out (φ z)).mono fun e w' h => ⟨h.1, (hSφ z).keep h.2⟩))
            clear hSφ hφ HS5
            generalize (if s1 = [] then e1 else 1) = E1 at *
            generalize str s1 = SS at *
            repeat (go_big_quiet_step (first | (go_at_call 27; exact C1.out _) | (go_at_call 28; exact C2.out _) | (go_at_call 29; exact C3.out _) | (go_at_call 30; exact C4.out _)))
            refine wpQuiet_nil ?_
            intro z
            go_wp2
            exact ⟨⟨k + 1, s1, e1, by omega, by go_num, (HSZ.out z).1, (HSZ.out z).2.1, HG1.out, HXB1.out, (HSZ.out z).2.2.1⟩, by simp [intOf]; omega⟩
          · have heb : (e == 0) = false := by simp [he]
            go_upto_region 27 with (fail)
            clear x0 x1 f1 hj0 he heb
            generalize hs1 : x = s1 at *
            generalize he1 : e = e1 at *
            clear hs1 he1
            have HEN := hid (fun wx hx => iend_any b s1 e1 wx hx)
            have HRE := hid (fun wx => rend_any s1 e1 HG1.out wx)
            have HLE := hid (fun wx hx => ileft_any b (s1, e1) wx hx)
            have HER := hid (fun wx hx => ierr_any b (s1, e1) wx hx)
            unfold inV at HRE
            simp only at HRE HLE HER
            refine wp_region_class (S w b (b + 1) (s1, e1)) (by kernel_rfl) (by kernel_rfl) (HS5.out.keep ((Below.refl _ _).drew)) ?_
            intro Z φ hne hSφ hφ
            have HSZ := hid hSφ
            have x0 := fun z => (hSφ z).2.1.c0
            have x1 := fun z => (hSφ z).2.1.c1
            simp only at x0 x1
            have hzs := str_size s1
            have C1 := hid (fun z => calls_class hφ ((HLE.out (φ z) (hSφ z).1).mono fun e w' h => ⟨h.1, by rw [h.2]; exact hSφ z⟩))
            have C2 := hid (fun z => calls_class hφ ((HER.out (φ z) (hSφ z).1).mono fun e w' h => ⟨h.1, by rw [h.2]; exact hSφ z⟩))
            have C3 := hid (fun z => calls_class hφ ((HEN.out (φ z) (hSφ z).1).mono fun e w' h => ⟨h.1, by rw [h.2]; exact hSφ z⟩))
            have C4 := hid (fun z => calls_class hφ ((HRE.out (φ z)).mono fun e w' h => ⟨h.1, (hSφ z).keep h.2⟩))
            clear hSφ hφ HS5
            generalize (if s1 = [] then e1 else 1) = E1 at *
            generalize str s1 = SS at *
            repeat (go_big_quiet_step (first | (go_at_call 27; exact C1.out _) | (go_at_call 28; exact C2.out _) | (go_at_call 29; exact C3.out _) | (go_at_call 30; exact C4.out _)))
            refine wpQuiet_nil ?_
            intro z
            go_wp2
            exact ⟨⟨k + 1, s1, e1, by omega, by go_num, (HSZ.out z).1, (HSZ.out z).2.1, HG1.out, HXB1.out, (HSZ.out z).2.2.1⟩, by simp [intOf]; omega⟩
        · rw [if_neg hj0] at HI3 HGF HLF
          obtain ⟨hjn, he⟩ : (j : Int) ≠ 0 ∧ e = 0 := by
            constructor
            · exact fun h => hj0 (Or.inl h)
            · exact Classical.byContradiction fun h => hj0 (Or.inr h)
          subst he
          have HG1 := HGF
          have HXB1 := HLF
          have hjb : ((j : Int) != 0) = true := by simp; omega
          have hjp : ¬ (j : Int) = 0 := hjn
          obtain ⟨y0, y1, y2, y3⟩ := in_cells HX3.out
          go_upto_region 27 with (fail)
          have HS5 := hid (show S w b (b + 1) ([], (j : Int)) ((w3.setCell ⟨b + 1, 0, none⟩ (.string ⟨#[]⟩)).setCell ⟨b + 1, 1, none⟩ (.int .i64 (j : Int))) from by
            have hb := below_set2 HB3.out (show w.heap.size ≤ b + 1 by omega) (.string ⟨#[]⟩) (.int .i64 (j : Int))
            refine ⟨?_, in_set2 HX3.out _ _, hb, hb.size⟩
            unfold InAt
            rw [heap_setCell_other _ (⟨b + 1, 1, none⟩ : Addr) b _ (by simp), heap_setCell_other _ (⟨b + 1, 0, none⟩ : Addr) b _ (by simp)]
            exact HI3.out)
          clear y0 y1 y2 y3 x0 x1 f1 hj0 hjn hjb hjp
          generalize (w3.setCell _ _).setCell _ _ = w5 at *
          obtain ⟨s1, hs1⟩ : ∃ s1 : List Nat, s1 = [] := ⟨_, rfl⟩
          obtain ⟨e1, he1⟩ : ∃ e1 : Int, e1 = (j : Int) := ⟨_, rfl⟩
          rw [← hs1] at HS5 HG1 HXB1
          rw [← he1] at HS5 HG1
          clear hs1 he1
          have HEN := hid (fun wx hx => iend_any b s1 e1 wx hx)
          have HRE := hid (fun wx => rend_any s1 e1 HG1.out wx)
          have HLE := hid (fun wx hx => ileft_any b (s1, e1) wx hx)
          have HER := hid (fun wx hx => ierr_any b (s1, e1) wx hx)
          unfold inV at HRE
          simp only at HRE HLE HER
          refine wp_region_class (S w b (b + 1) (s1, e1)) (by kernel_rfl) (by kernel_rfl) (HS5.out.keep ((Below.refl _ _).drew)) ?_
          intro Z φ hne hSφ hφ
          have HSZ := hid hSφ
          have x0 := fun z => (hSφ z).2.1.c0
          have x1 := fun z => (hSφ z).2.1.c1
          simp only at x0 x1
          have hzs := str_size s1
          have C1 := hid (fun z => calls_class hφ ((HLE.out (φ z) (hSφ z).1).mono fun e w' h => ⟨h.1, by rw [h.2]; exact hSφ z⟩))
          have C2 := hid (fun z => calls_class hφ ((HER.out (φ z) (hSφ z).1).mono fun e w' h => ⟨h.1, by rw [h.2]; exact hSφ z⟩))
          have C3 := hid (fun z => calls_class hφ ((HEN.out (φ z) (hSφ z).1).mono fun e w' h => ⟨h.1, by rw [h.2]; exact hSφ z⟩))
          have C4 := hid (fun z => calls_class hφ ((HRE.out (φ z)).mono fun e w' h => ⟨h.1, (hSφ z).keep h.2⟩))
          clear hSφ hφ HS5
          generalize (if s1 = [] then e1 else 1) = E1 at *
          generalize str s1 = SS at *
          repeat (go_big_quiet_step (first | (go_at_call 27; exact C1.out _) | (go_at_call 28; exact C2.out _) | (go_at_call 29; exact C3.out _) | (go_at_call 30; exact C4.out _)))
          refine wpQuiet_nil ?_
          intro z
          go_wp2
          exact ⟨⟨k + 1, s1, e1, by omega, by go_num, (HSZ.out z).1, (HSZ.out z).2.1, HG1.out, HXB1.out, (HSZ.out z).2.2.1⟩, by simp [intOf]; omega⟩
      · have HBL := hid hbel
        clear hin hxt hbel
        go_wp2
        go_ret
        exact ⟨rfl, HBL.out⟩
    · have HBL := hid hbel
      clear hin hxt hbel
      go_wp2
      go_ret
      exact ⟨rfl, HBL.out⟩

set_option maxRecDepth 100000 in
theorem contract (H : Type) (enc : TypeId × Value → H) (W : World) (base : Nat) (args : Array Value) (ds gs : List (DataW H)) (before : List MemPlace)
    (hval : ∀ (j : Nat) t v, Try.f4.params[j]? = some t → args[j]? = some v → Value.okWide Try.prog W .any base t v)
    (hW : DataW.Whole enc Try.prog Try.f4.params.toList Rows.wireReadsSpec.vars false W args.toList ds gs before) (hL : laidMetH Try.prog Rows.wireReadsRow.laid W) :
    Calls Try.prog 4 args W fun e W' => ∃ v, e = .returned v ∧ Rows.wireReadsSpec.post enc Try.prog Try.f4 false true false false W args v W' := by
  have hW' := hW
  obtain ⟨p, q, hA0, hV, rfl, hfz, hnd⟩ := hW
  have hA : DataW.TrodAll enc Try.prog W 0 (fun _ => true) true Try.f4.params.toList args.toList ds p := hA0
  rw [Try.params4] at hA hval
  obtain ⟨v0, vs0, d0, ds0, p0, q0, hargs, rfl, rfl, h0, r0⟩ := trodAll_cons hA
  obtain ⟨v1, vs1, d1, ds1, p1, q1, rfl, rfl, rfl, h1, r1⟩ := trodAll_cons r0
  obtain ⟨rfl, rfl, rfl⟩ := trodAll_nil r1
  obtain rfl : args = #[v0, v1] := by cases args; simp_all
  obtain ⟨s0, rfl, rfl, rfl, hs0⟩ := Go.ChangeMaps.open_string Try.underlying9 (hval 0 9 v0 rfl rfl) h0
  obtain ⟨ao1, L1, cap1, rfl, hR1, hL1, hb1⟩ := open_acts (hval 1 22 v1 rfl rfl) h1
  refine (walk s0 hs0 ao1 L1 cap1 W hR1 hL1).mono fun e W' ⟨he, hb⟩ => ?_
  subst he
  exact ⟨_, rfl, law_post rfl rfl (by rw [Try.params4]; decide +kernel) hW' rfl hb⟩

theorem laid_met (os : Os) : laidMet Try.prog Rows.wireReadsRow.laid ((laidWorld os).forCall (fun _ _ => 0) ⟨#[], #[.string ByteArray.empty, .slice none 0 0], []⟩).memory :=
  laidMet_of_run' 8 (by kernel_rfl) (by kernel_rfl)
theorem reads (os : Os) {H : Type} (enc : TypeId × Value → H) : ∃ places, DataW.whole enc Try.prog ((laidWorld os).forCall (fun _ _ => 0) ⟨#[], #[.string ByteArray.empty, .slice none 0 0], []⟩).memory Try.f4.params.toList Rows.wireReadsSpec.vars false (#[.string ByteArray.empty, .slice none 0 0] : Array Value).toList 8
    = some ([.lit (.string []), .nil], [], places) :=
  ⟨[], by kernel_rfl⟩

set_option maxRecDepth 100000 in
theorem lifted (os : Os) (started : os.Started) (H : Type) (enc : TypeId × Value → H) (F : Stop.Interp) :
    ReturnsInHanded {} Try.checked os 4 .any ((OpenSpec.ofChange Rows.wireReadsSpec).preRow enc Try.prog Try.f4 Rows.wireReadsRow.domain false Rows.wireReadsRow.laid) (((OpenSpec.ofChange Rows.wireReadsSpec).at F).post enc Try.prog Try.f4 false true false false) := by
  obtain ⟨places, hx⟩ := reads os enc
  refine returnsInHanded_of_row (C := Try.checked) (s := OpenSpec.ofChange Rows.wireReadsSpec) own started (by kernel_rfl) Try.func4
    (witness_row_at (enc := enc) (C := Try.checked) false (laidWorld os) #[.string ByteArray.empty, .slice none 0 0] rfl (by kernel_rfl) (by kernel_rfl) (by kernel_rfl)
      (OpenSpec.preRow_of_cond 8 hx (by kernel_rfl) (fun k hk => by cases hk) (by kernel_rfl) (laid_met os))) ?_
  intro W base args ds gs before hval hW _ _ _ hL _ _
  exact contract H enc W base args ds gs before hval hW hL

theorem said : Rows.WireReadsSaid :=
  OpenClaim.holds_of_cond 4 Try.f4 rfl rfl rfl rfl rfl rfl rfl ⟨rfl, rfl, rfl, rfl, rfl⟩ rfl rfl rfl rfl rfl (by kernel_rfl) Try.func4 (by kernel_rfl)
    (of_decide_eq_true (by kernel_rfl)) (by unfold Func.isWrapper; first | (rw [if_pos (by decide +kernel)]; kernel_rfl) | (rw [if_neg (by decide +kernel)]; exact ⟨rfl, rfl⟩))
    (fun os started H enc _ F => by rw [OpenClaim.pre_eq_preRow]; exact lifted os started H enc F)


end WireReads
theorem wireReads_said : Rows.WireReadsSaid := WireReads.said
end Go.Proofs.Ytijhlgfogeldcaa
