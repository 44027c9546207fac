/-
  Layer 18: the law's Do.
-/
import Derived.Test.YtlfjhpmachblkaaBx17
namespace Go.Proofs.Ytlfjhpmachblkaa
open Go.ChangeShapes Go.WideShapes Go.ChangeAt Go.RowKit
open Go.Lib (hid)

attribute [local go_sem] Oper.semAt_some

def actXC (a : Bv.A) : Array Value := #[.int .i64 a.1, .int .i64 a.2.1, .int .i64 a.2.2.1, .int .i64 a.2.2.2.1, .int .i64 a.2.2.2.2]
theorem rb_toR {w w' : World} {b k : Nat} {v v' : Value} {V X : Int} {L : List Bv.E} {V2 X2 : Int} {r : Value} (h : RbAt w k V2 X2 r) (hb : IsB w b v V X L) (hk : BxTo w b v w' v') : RbAt w' k V2 X2 r := heap_toR h (by decide) (by decide) hb hk
theorem re_toR {w w' : World} {b k : Nat} {v v' : Value} {V X : Int} {L : List Bv.E} {e : Bv.E} (h : EntAt w k 63 e) (hb : IsB w b v V X L) (hk : BxTo w b v w' v') : EntAt w' k 63 e := heap_toR h (by decide) (by decide) hb hk
namespace Bv
/-- What an act leaves of the next number, and of the entries. -/
def stX (X : Int) (L : List E) (a : A) : Int := if a.1 = 0 then addX X L a.2.2.1 a.2.2.2.1 else X
def stL (X : Int) (L : List E) (a : A) : List E :=
  if a.1 = 0 then addL X L a.2.2.1 a.2.2.2.1 else if a.1 = 1 then L else if a.1 = 2 then setL L a.2.1 a.2.2.2.1 a.2.2.2.2 else if a.1 = 3 then remL L a.2.1 else left L
end Bv

theorem two_blocks (w : World) (o0 o1 : Obj) (W : World) (hW : (w.alloc o0).alloc o1 = W) :
    W.heap[w.heap.size]? = some o0 ∧ W.heap[w.heap.size + 1]? = some o1 ∧ Below w.heap.size w W ∧ W.heap.size = w.heap.size + 1 + 1 := by
  subst hW
  refine ⟨?_, ?_, ((Below.refl _ _).alloc (Nat.le_refl _) _).alloc (by simp) _, by simp⟩
  · rw [Below.heap_alloc _ _ _ (by simp), heap_alloc_new]
  · have := heap_alloc_new (w.alloc o0) o1
    simpa using this
theorem IsB.setR {w w' : World} {b z : Nat} {v r : Value} {V X V2 X2 : Int} {L : List Bv.E} (h : IsB w b v V X L) (hr : RbAt w z V2 X2 r) (hk : KeptQ (fun k => k = z) w w') : IsB w' b v V X L := by
  refine h.kept hk ?_
  unfold RbAt at hr
  rintro k (rfl | hv) rfl
  · have := h.row
    rw [hr] at this
    injection this with e; injection e with _ e _
    exact absurd e (by decide)
  · obtain ⟨cs2, hc2⟩ := h.own.block hv
    rw [hr] at hc2
    injection hc2 with e; injection e with _ e _
    exact absurd e (by decide)
theorem BxTo.fin {w w4 w5 : World} {b z : Nat} {v v' : Value} (h : BxTo w b v w4 v') (hk : KeptQ (fun k => k = z) w4 w5) (hz : w.heap.size ≤ z) : BxTo w b v w5 v' :=
  ⟨⟨hk.os.trans h.1.os, hk.tape.trans h.1.tape, hk.output.trans h.1.output, Nat.le_trans h.1.size hk.size, fun k hkl hp => (hk.block k (Nat.lt_of_lt_of_le hkl h.1.size) (by show ¬ k = z; omega)).trans (h.1.block k hkl hp)⟩, h.2⟩
theorem EntAt.nb_rb {w : World} {z k : Nat} {T : TypeId} {e : Bv.E} {V X : Int} {r : Value} (h : EntAt w k T e) (hr : RbAt w z V X r) (hT : T ≠ 28) : k ≠ z := by
  rintro rfl
  unfold EntAt at h
  unfold RbAt at hr
  rw [hr] at h
  injection h with e; injection e with _ e _
  exact hT e.symm

set_option maxHeartbeats 4000000 in
set_option maxRecDepth 100000 in
theorem do18_any (b : Nat) (v r : Value) (V X : Int) (L : List Bv.E) (k u m on off : Int) (w : World) (h : IsB w b v V X L) (hr : OwnB w 63 r L) (hG : Bv.Good V X L) (hX : X ≤ 1000) :
    Calls Try.prog 11 #[.pointer (some ⟨b, 0, none⟩), rbV V X r, .agg #[.int .i64 k, .int .i64 u, .int .i64 m, .int .i64 on, .int .i64 off]] w fun e w' => ∃ v' r', e = .returned (.tuple #[rbV V (Bv.stX X L (k, u, m, on, off)) r', .bool true]) ∧ IsB w' b v' V (Bv.stX X L (k, u, m, on, off)) (Bv.stL X L (k, u, m, on, off)) ∧ OwnB w' 63 r' (Bv.stL X L (k, u, m, on, off)) ∧ BxTo w b v w' v' := by
  have hl : L.length ≤ 1000 := by have := hG.len; omega
  have hfs : Bv.Fls L := fun i hi => (hG.ent i hi).2.2.1
  have hx := Bv.okc_le hG.x
  have HI := hid h
  have HR := hid hr
  have HG := hid hG
  have HFS := hid hfs
  clear h hr hG hfs
  unfold rbV
  by_cases hk0 : k = 0
  · subst hk0
    have hX1 : Bv.stX X L (0, u, m, on, off) = Bv.addX X L m on := rfl
    have hL1 : Bv.stL X L (0, u, m, on, off) = Bv.addL X L m on := rfl
    rw [hX1, hL1]
    have HREF := hid (fun wx hx => radd18_any V X r L m on wx hx hl (by omega))
    have HBOX := hid (fun v wx hx => badd_any b v V X L m on wx hx hl (by omega))
    obtain ⟨⟨e0, e1, e2⟩, hE⟩ : ∃ E, Bv.addR X L m on = E := ⟨_, rfl⟩
    rw [hE] at HREF HBOX
    generalize Bv.addE L m on = EE at *
    generalize Bv.addX X L m on = X' at *
    generalize Bv.addL X L m on = L' at *
    clear hX1 hL1 hE
    unfold rbV beV at HREF
    unfold beV at HBOX
    go_enter Try.func11, Try.ntmps11
    go_upto_region 1 with (fail)
    generalize hW0 : World.alloc _ _ = w0
    obtain ⟨b0, b1, b2, hb0, hs0⟩ := three_blocks w _ _ _ w0 hW0
    have R0 := hid (show RbAt w0 w.heap.size V X r from b0)
    have A1 := hid b1
    have R2 := hid (show RbAt w0 (w.heap.size + 1 + 1) 0 0 (.slice none 0 0) from b2)
    have HB0 := hid hb0
    have HS0 := hid hs0
    have I0 := hid (HI.out.below hb0)
    have O0 := hid (HR.out.below hb0)
    clear hW0 b0 b1 b2 hb0 hs0
    obtain ⟨c0, c1, c2⟩ := R0.out.c
    have a0 := cell_of_row _ _ 0 _ _ _ A1.out
    have a1 := cell_of_row _ _ 1 _ _ _ A1.out
    have a2 := cell_of_row _ _ 2 _ _ _ A1.out
    have a3 := cell_of_row _ _ 3 _ _ _ A1.out
    have a4 := cell_of_row _ _ 4 _ _ _ A1.out
    simp only [List.getElem?_toArray, List.getElem?_cons_zero, List.getElem?_cons_succ] at a0 a1 a2 a3 a4
    go_wp2_with fail
    refine (HREF.out w0 O0.out).mono ?_
    rintro e w1 ⟨rl, rfl, hol, hb1⟩
    have O1 := hid hol
    have HB1 := hid hb1
    clear hol hb1
    obtain ⟨arl, crl, hrl⟩ := ownsRow_slice O1.out
    subst hrl
    go_upto_region 4 with (fail)
    generalize hW2 : World.alloc _ _ = w2
    obtain ⟨b0, b1, hb2, hs2⟩ := two_blocks w1 _ _ w2 hW2
    have RB2 := hid (show RbAt w2 w1.heap.size V X' (.slice arl L'.length crl) from b0)
    have RE2 := hid (show EntAt w2 (w1.heap.size + 1) 63 (e0, e1, e2) from b1)
    have HB2 := hid (HB1.out.trans (hb2.mono HB1.out.size))
    have O2 := hid (O1.out.below hb2)
    have I2 := hid (I0.out.below HB2.out)
    have R22 := hid (R2.out.below HB2.out)
    have A2 := hid ((HB2.out.block _ (Array.getElem?_eq_some_iff.1 A1.out).1).trans A1.out)
    have HW2 := hid (HB0.out.trans (HB2.out.mono HB0.out.size))
    have hz8 : w.heap.size + 1 + 1 < w1.heap.size := by have := HB1.out.size; have := HS0.out; omega
    clear hW2 b0 b1 hb2 hs2 c0 c1 c2 a0 a1 a2 a3 a4
    have a0 := cell_of_row _ _ 0 _ _ _ A2.out
    have a1 := cell_of_row _ _ 1 _ _ _ A2.out
    have a2 := cell_of_row _ _ 2 _ _ _ A2.out
    have a3 := cell_of_row _ _ 3 _ _ _ A2.out
    have a4 := cell_of_row _ _ 4 _ _ _ A2.out
    simp only [List.getElem?_toArray, List.getElem?_cons_zero, List.getElem?_cons_succ] at a0 a1 a2 a3 a4
    clear HREF O1 HB1 I0 O0 R0 R2 A1 HS0 HB0
    generalize w1.heap.size = z8 at *
    go_wp2_with fail
    refine (HBOX.out v w2 I2.out).mono ?_
    rintro e w3 ⟨v3, rfl, hi3, hk3⟩
    have K3 := hid hk3
    have I3 := hid hi3
    have RB3 := hid (rb_toR RB2.out I2.out hk3)
    have RE3 := hid (re_toR RE2.out I2.out hk3)
    have R23 := hid (rb_toR R22.out I2.out hk3)
    have O3 := hid (O2.out.toR I2.out hk3)
    have HT3 := hid ((BxTo.below HW2.out).trans hk3)
    clear hi3 hk3 a0 a1 a2 a3 a4 A2 RB2 RE2 R22 O2 I2 HBOX
    go_upto_region 5 with (fail)
    generalize hW4 : World.alloc _ _ = w4
    have hb4 : Below w3.heap.size w3 w4 := by rw [← hW4]; exact (Below.refl _ _).alloc (Nat.le_refl _) _
    have EB4 := hid (show EntAt w4 w3.heap.size 38 (e0, e1, e2) from by rw [← hW4]; exact heap_alloc_new _ _)
    have I4 := hid (I3.out.below hb4)
    have RB4 := hid (RB3.out.below hb4)
    have RE4 := hid (RE3.out.below hb4)
    have R24 := hid (R23.out.below hb4)
    have O4 := hid (O3.out.below hb4)
    have HT4 := hid (HT3.out.trans (BxTo.below hb4))
    clear hW4 hb4 I3 RB3 RE3 R23 O3 HT3 K3
    generalize w3.heap.size = z11 at *
    refine wp_region_noPanic ?_
    refine wp_region_held_drew (S := fun W : World => RbAt W z8 V X' (.slice arl L'.length crl) ∧ EntAt W (z8 + 1) 63 (e0, e1, e2) ∧ EntAt W z11 38 (e0, e1, e2)) (by kernel_rfl) (⟨RB4.out, RE4.out, EB4.out⟩) (fun hS1 => ?_)
    change wpAnyH _ _ _ _ _ 11 _ _ _
    refine wpAnyH_take (i := 0) (oi := ?oi2) (v := .agg ([.int .i64 V, .int .i64 X', .slice arl L'.length crl] : List Value).toArray) ?hi2 (by kernel_rfl) (by kernel_rfl) (by kernel_rfl) (fun _ _ _ h => h) ?hy2 hS1 ?rest2
    case hi2 => simp only [List.getElem?_toArray, List.getElem?_cons_zero]; rfl
    case hy2 => 
      refine yieldsIf_load_mid ?w2 _ ?x2 ?o2 z8 0 ?e2 ([.int .i64 V, .int .i64 X', .slice arl L'.length crl] : List Value) _ ?s2 Try.underlying28 rfl infoRB
      case o2 => rfl
      case w2 => rfl
      case e2 => rfl
      case s2 => intro _ hSw; exact range_row hSw.1
    simp only [Act.put, List.setIfInBounds_toArray, List.set_cons_zero, List.set_cons_succ]
    try simp only [Array.toArray_toList]
    refine wpAnyH_take (i := 1) (oi := ?oi3) (v := .agg ([.int .i64 e0, .int .i64 e1, .int .i64 e2] : List Value).toArray) ?hi3 (by kernel_rfl) (by kernel_rfl) (by kernel_rfl) (fun _ _ _ h => h) ?hy3 hS1 ?rest3
    case hi3 => simp only [List.getElem?_toArray, List.getElem?_cons_succ, List.getElem?_cons_zero]; rfl
    case hy3 => 
      refine yieldsIf_load_mid ?w3 _ ?x3 ?o3 z11 0 ?e3 ([.int .i64 e0, .int .i64 e1, .int .i64 e2] : List Value) _ ?s3 Try.underlying38 rfl infoBE
      case o3 => rfl
      case w3 => rfl
      case e3 => rfl
      case s3 => intro _ hSw; exact range_row hSw.2.2
    simp only [Act.put, List.setIfInBounds_toArray, List.set_cons_zero, List.set_cons_succ]
    try simp only [Array.toArray_toList]
    refine wpAnyH_take (i := 2) (oi := ?oi4) (v := .agg ([.int .i64 e0, .int .i64 e1, .int .i64 e2] : List Value).toArray) ?hi4 (by kernel_rfl) (by kernel_rfl) (by kernel_rfl) (fun _ _ _ h => h) ?hy4 hS1 ?rest4
    case hi4 => simp only [List.getElem?_toArray, List.getElem?_cons_succ, List.getElem?_cons_zero]; rfl
    case hy4 => 
      refine yieldsIf_load_mid ?w4 _ ?x4 ?o4 (z8 + 1) 0 ?e4 ([.int .i64 e0, .int .i64 e1, .int .i64 e2] : List Value) _ ?s4 Try.underlying63 rfl infoRE
      case o4 => rfl
      case w4 => rfl
      case e4 => rfl
      case s4 => intro _ hSw; exact range_row hSw.2.1
    simp only [Act.put, List.setIfInBounds_toArray, List.set_cons_zero, List.set_cons_succ]
    try simp only [Array.toArray_toList]
    refine wpAnyH_take (i := 3) (oi := ?oi5) (v := .bool true) ?hi5 (by kernel_rfl) (by kernel_rfl) (by kernel_rfl) (fun _ _ _ h => h) ?hy5 hS1 ?rest5
    case hi5 => simp only [List.getElem?_toArray, List.getElem?_cons_succ, List.getElem?_cons_zero]; rfl
    case hy5 => exact Or.inl ⟨rfl, fun _ hSw => by go_simp⟩
    simp only [Act.put, List.setIfInBounds_toArray, List.set_cons_zero, List.set_cons_succ]
    refine wpAnyH_take (i := 4) (oi := ?oi6) (v := .bool true) ?hi6 (by kernel_rfl) (by kernel_rfl) (by kernel_rfl) (fun _ _ _ h => h) ?hy6 hS1 ?rest6
    case hi6 => simp only [List.getElem?_toArray, List.getElem?_cons_succ, List.getElem?_cons_zero]; rfl
    case hy6 => exact Or.inl ⟨rfl, fun _ hSw => rfl⟩
    simp only [Act.put, List.setIfInBounds_toArray, List.set_cons_zero, List.set_cons_succ]
    refine wpAnyH_take (i := 5) (oi := ?oi7) (v := .int .i64 (EE : Int)) ?hi7 (by kernel_rfl) (by kernel_rfl) (by kernel_rfl) (fun _ _ _ h => h) ?hy7 hS1 ?rest7
    case hi7 => simp only [List.getElem?_toArray, List.getElem?_cons_succ, List.getElem?_cons_zero]; rfl
    case hy7 => exact Or.inl ⟨rfl, fun _ hSw => rfl⟩
    simp only [Act.put, List.setIfInBounds_toArray, List.set_cons_zero, List.set_cons_succ]
    refine wpAnyH_take (i := 6) (oi := ?oi8) (v := .int .i64 (EE : Int)) ?hi8 (by kernel_rfl) (by kernel_rfl) (by kernel_rfl) (fun _ _ _ h => h) ?hy8 hS1 ?rest8
    case hi8 => simp only [List.getElem?_toArray, List.getElem?_cons_succ, List.getElem?_cons_zero]; rfl
    case hy8 => exact Or.inl ⟨rfl, fun _ hSw => rfl⟩
    simp only [Act.put, List.setIfInBounds_toArray, List.set_cons_zero, List.set_cons_succ]
    refine wpAnyH_take (i := 7) (oi := ?oi9) (v := .bool true) ?hi9 (by kernel_rfl) (by kernel_rfl) (by kernel_rfl) (fun _ _ _ h => h) ?hy9 hS1 ?rest9
    case hi9 => simp only [List.getElem?_toArray, List.getElem?_cons_succ, List.getElem?_cons_zero]; rfl
    case hy9 => exact Or.inl ⟨rfl, fun _ hSw => by go_simp⟩
    simp only [Act.put, List.setIfInBounds_toArray, List.set_cons_zero, List.set_cons_succ]
    refine wpAnyH_take (i := 8) (oi := ?oi10) (v := .bool true) ?hi10 (by kernel_rfl) (by kernel_rfl) (by kernel_rfl) (fun _ _ _ h => h) ?hy10 hS1 ?rest10
    case hi10 => simp only [List.getElem?_toArray, List.getElem?_cons_succ, List.getElem?_cons_zero]; rfl
    case hy10 => exact Or.inl ⟨rfl, fun _ hSw => by go_simp⟩
    simp only [Act.put, List.setIfInBounds_toArray, List.set_cons_zero, List.set_cons_succ]
    have b5 : Below w4.heap.size w4 w4.drew := (Below.refl _ _).drew
    have I5 := hid (I4.out.below b5)
    have R5 := hid (R24.out.below b5)
    have O5 := hid (O4.out.below b5)
    have T5 := hid (HT4.out.trans (BxTo.below b5))
    clear b5 I4 R24 O4 HT4 RB4 RE4 EB4
    generalize w4.drew = wd at *
    have hk6 := set3_kept (w := wd) (B := w.heap.size + 1 + 1) (.int .i64 V) (.int .i64 X') (.slice arl L'.length crl)
    have hne11 := hS1.2.2.nb_rb R5.out (by decide)
    obtain ⟨⟨z0, s0⟩, f0, s1, f1, s2, f2⟩ := R5.out.wr
    have hret := R5.out.set V X' (.slice arl L'.length crl)
    have hfi := I5.out.setR R5.out hk6
    have hfo := O5.out.other hk6 (R5.out.nown O5.out)
    have hft := T5.out.fin hk6 (by omega)
    have HF := hid (And.intro hret (And.intro hfi (And.intro hfo hft)))
    clear hret hfi hfo hft
    refine wpAnyH_ready (rs := [9]) (by kernel_rfl) (by simp) ?_
    refine AllReadyH.cons (o := ?oiu11_9) ?hiu11_9 ?stepu11_9 AllReadyH.nil
    case hiu11_9 => simp only [List.getElem?_toArray, List.getElem?_cons_succ, List.getElem?_cons_zero]; rfl
    intro K hK
    go_simp
    refine hK.out _ _ ⟨hS1.1.other hk6 (by omega), hS1.2.1.other hk6 (by omega), hS1.2.2.other hk6 hne11⟩ (fun hS2 => ?_)
    clear hK K s0 s1 s2 f0 f1 f2
    try simp only [Act.put, List.setIfInBounds_toArray, List.set_cons_zero, List.set_cons_succ]
    generalize World.setCell _ _ _ = w9 at *
    refine wpAnyH_ready (rs := [10]) (by kernel_rfl) (by simp) ?_
    refine AllReadyH.cons (o := ?oiu12_10) ?hiu12_10 ?stepu12_10 AllReadyH.nil
    case hiu12_10 => simp only [List.getElem?_toArray, List.getElem?_cons_succ, List.getElem?_cons_zero]; rfl
    intro K hK
    go_simp
    refine hK.out _ _ hS2 (fun hS3 => ?_)
    clear hK K
    try simp only [Act.put, List.setIfInBounds_toArray, List.set_cons_zero, List.set_cons_succ]
    refine wpAnyH_done (by kernel_rfl) ?_ _
    refine NoPanic.normal ?_
    go_wp2
    refine ret_rbs Try.results11 _ _ (w.heap.size + 1 + 1) V X' (.slice arl L'.length crl) (.bool true) ?_ HF.out.1 ?_ ?_ ?_
    · rfl
    · rfl
    · rfl
    first
      | exact ⟨_, _, rfl, HF.out.2.1, HF.out.2.2.1, HF.out.2.2.2⟩
      | exact ⟨_, rfl, _, HF.out.2.1, HF.out.2.2.1, HF.out.2.2.2⟩
      | exact ⟨rfl, _, _, HF.out.2.1, HF.out.2.2.1, HF.out.2.2.2⟩
  · by_cases hk1 : k = 1
    · subst hk1
      have hX1 : Bv.stX X L (1, u, m, on, off) = X := rfl
      have hL1 : Bv.stL X L (1, u, m, on, off) = L := rfl
      rw [hX1, hL1]
      have HREF := hid (fun wx hx => rget18_any V X r L u wx hx HG.out.up hl)
      have HBOX := hid (fun v wx hx => get_any b v V X L u wx hx HG.out.up (by omega))
      obtain ⟨⟨e0, e1, e2⟩, hE⟩ : ∃ E, Bv.getR L u = E := ⟨_, rfl⟩
      rw [hE] at HREF HBOX
      generalize Bv.getE L u = EE at *
      clear hX1 hL1 hE hk0
      unfold rbV beV at HREF
      unfold beV at HBOX
      obtain ⟨arl, crl, hrl⟩ := ownsRow_slice HR.out
      subst hrl
      obtain ⟨r, hrr⟩ : ∃ r, r = Value.slice arl L.length crl := ⟨_, rfl⟩
      have HRR := hid hrr
      rw [← hrr] at HR HREF ⊢
      clear hrr
      go_enter Try.func11, Try.ntmps11
      go_upto_region 1 with (fail)
      generalize hW0 : World.alloc _ _ = w0
      obtain ⟨b0, b1, b2, hb0, hs0⟩ := three_blocks w _ _ _ w0 hW0
      have R0 := hid (show RbAt w0 w.heap.size V X r from b0)
      have A1 := hid b1
      have R2 := hid (show RbAt w0 (w.heap.size + 1 + 1) 0 0 (.slice none 0 0) from b2)
      have HB0 := hid hb0
      have HS0 := hid hs0
      have I0 := hid (HI.out.below hb0)
      have O0 := hid (HR.out.below hb0)
      clear hW0 b0 b1 b2 hb0 hs0
      obtain ⟨c0, c1, c2⟩ := R0.out.c
      have a0 := cell_of_row _ _ 0 _ _ _ A1.out
      have a1 := cell_of_row _ _ 1 _ _ _ A1.out
      have a2 := cell_of_row _ _ 2 _ _ _ A1.out
      have a3 := cell_of_row _ _ 3 _ _ _ A1.out
      have a4 := cell_of_row _ _ 4 _ _ _ A1.out
      simp only [List.getElem?_toArray, List.getElem?_cons_zero, List.getElem?_cons_succ] at a0 a1 a2 a3 a4
      go_wp2_with fail
      refine (HREF.out w0 O0.out).mono ?_
      rintro e w1 ⟨rfl, hb1⟩
      have HB1 := hid hb1
      clear hb1
      go_upto_region 8 with (fail)
      generalize hW2 : World.alloc _ _ = w2
      have hb2 : Below w1.heap.size w1 w2 := by rw [← hW2]; exact (Below.refl _ _).alloc (Nat.le_refl _) _
      have RE2 := hid (show EntAt w2 w1.heap.size 63 (e0, e1, e2) from by rw [← hW2]; exact heap_alloc_new _ _)
      have HB2 := hid (HB1.out.trans (hb2.mono HB1.out.size))
      have RB2 := hid (R0.out.below HB2.out)
      have O2 := hid (O0.out.below HB2.out)
      have I2 := hid (I0.out.below HB2.out)
      have R22 := hid (R2.out.below HB2.out)
      have A2 := hid ((HB2.out.block _ (Array.getElem?_eq_some_iff.1 A1.out).1).trans A1.out)
      have HW2 := hid (HB0.out.trans (HB2.out.mono HB0.out.size))
      have hz8 : w.heap.size + 1 + 1 < w1.heap.size := by have := HB1.out.size; have := HS0.out; omega
      clear hW2 hb2 c0 c1 c2 a0 a1 a2 a3 a4
      have a0 := cell_of_row _ _ 0 _ _ _ A2.out
      have a1 := cell_of_row _ _ 1 _ _ _ A2.out
      have a2 := cell_of_row _ _ 2 _ _ _ A2.out
      have a3 := cell_of_row _ _ 3 _ _ _ A2.out
      have a4 := cell_of_row _ _ 4 _ _ _ A2.out
      simp only [List.getElem?_toArray, List.getElem?_cons_zero, List.getElem?_cons_succ] at a0 a1 a2 a3 a4
      clear HREF HB1 I0 O0 R0 R2 A1 HS0 HB0
      generalize w1.heap.size = z13 at *
      go_wp2_with fail
      refine (HBOX.out v w2 I2.out).mono ?_
      rintro e w3 ⟨rfl, hb3⟩
      obtain ⟨hi3, hk3⟩ : IsB w3 b v V X L ∧ BxTo w2 b v w3 v := ⟨I2.out.below hb3, BxTo.below hb3⟩
      clear hb3
      have K3 := hid hk3
      have I3 := hid hi3
      have RB3 := hid (rb_toR RB2.out I2.out hk3)
      have RE3 := hid (re_toR RE2.out I2.out hk3)
      have R23 := hid (rb_toR R22.out I2.out hk3)
      have O3 := hid (O2.out.toR I2.out hk3)
      have HT3 := hid ((BxTo.below HW2.out).trans hk3)
      clear hi3 hk3 a0 a1 a2 a3 a4 A2 RB2 RE2 R22 O2 I2 HBOX
      go_upto_region 9 with (fail)
      generalize hW4 : World.alloc _ _ = w4
      have hb4 : Below w3.heap.size w3 w4 := by rw [← hW4]; exact (Below.refl _ _).alloc (Nat.le_refl _) _
      have EB4 := hid (show EntAt w4 w3.heap.size 38 (e0, e1, e2) from by rw [← hW4]; exact heap_alloc_new _ _)
      have I4 := hid (I3.out.below hb4)
      have RB4 := hid (RB3.out.below hb4)
      have RE4 := hid (RE3.out.below hb4)
      have R24 := hid (R23.out.below hb4)
      have O4 := hid (O3.out.below hb4)
      have HT4 := hid (HT3.out.trans (BxTo.below hb4))
      clear hW4 hb4 I3 RB3 RE3 R23 O3 HT3 K3
      generalize w3.heap.size = z11 at *
      have hrr := HRR.out
      subst hrr
      clear HRR
      refine wp_region_noPanic ?_
      refine wp_region_held_drew (S := fun W : World => RbAt W w.heap.size V X (.slice arl L.length crl) ∧ EntAt W z13 63 (e0, e1, e2) ∧ EntAt W z11 38 (e0, e1, e2)) (by kernel_rfl) (⟨RB4.out, RE4.out, EB4.out⟩) (fun hS1 => ?_)
      change wpAnyH _ _ _ _ _ 11 _ _ _
      refine wpAnyH_take (i := 0) (oi := ?oi15) (v := .agg ([.int .i64 V, .int .i64 X, .slice arl L.length crl] : List Value).toArray) ?hi15 (by kernel_rfl) (by kernel_rfl) (by kernel_rfl) (fun _ _ _ h => h) ?hy15 hS1 ?rest15
      case hi15 => simp only [List.getElem?_toArray, List.getElem?_cons_zero]; rfl
      case hy15 => 
        refine yieldsIf_load_mid ?w15 _ ?x15 ?o15 w.heap.size 0 ?e15 ([.int .i64 V, .int .i64 X, .slice arl L.length crl] : List Value) _ ?s15 Try.underlying28 rfl infoRB
        case o15 => rfl
        case w15 => rfl
        case e15 => rfl
        case s15 => intro _ hSw; exact range_row hSw.1
      simp only [Act.put, List.setIfInBounds_toArray, List.set_cons_zero, List.set_cons_succ]
      try simp only [Array.toArray_toList]
      refine wpAnyH_take (i := 1) (oi := ?oi16) (v := .agg ([.int .i64 e0, .int .i64 e1, .int .i64 e2] : List Value).toArray) ?hi16 (by kernel_rfl) (by kernel_rfl) (by kernel_rfl) (fun _ _ _ h => h) ?hy16 hS1 ?rest16
      case hi16 => simp only [List.getElem?_toArray, List.getElem?_cons_succ, List.getElem?_cons_zero]; rfl
      case hy16 => 
        refine yieldsIf_load_mid ?w16 _ ?x16 ?o16 z11 0 ?e16 ([.int .i64 e0, .int .i64 e1, .int .i64 e2] : List Value) _ ?s16 Try.underlying38 rfl infoBE
        case o16 => rfl
        case w16 => rfl
        case e16 => rfl
        case s16 => intro _ hSw; exact range_row hSw.2.2
      simp only [Act.put, List.setIfInBounds_toArray, List.set_cons_zero, List.set_cons_succ]
      try simp only [Array.toArray_toList]
      refine wpAnyH_take (i := 2) (oi := ?oi17) (v := .agg ([.int .i64 e0, .int .i64 e1, .int .i64 e2] : List Value).toArray) ?hi17 (by kernel_rfl) (by kernel_rfl) (by kernel_rfl) (fun _ _ _ h => h) ?hy17 hS1 ?rest17
      case hi17 => simp only [List.getElem?_toArray, List.getElem?_cons_succ, List.getElem?_cons_zero]; rfl
      case hy17 => 
        refine yieldsIf_load_mid ?w17 _ ?x17 ?o17 z13 0 ?e17 ([.int .i64 e0, .int .i64 e1, .int .i64 e2] : List Value) _ ?s17 Try.underlying63 rfl infoRE
        case o17 => rfl
        case w17 => rfl
        case e17 => rfl
        case s17 => intro _ hSw; exact range_row hSw.2.1
      simp only [Act.put, List.setIfInBounds_toArray, List.set_cons_zero, List.set_cons_succ]
      try simp only [Array.toArray_toList]
      refine wpAnyH_take (i := 3) (oi := ?oi18) (v := .bool true) ?hi18 (by kernel_rfl) (by kernel_rfl) (by kernel_rfl) (fun _ _ _ h => h) ?hy18 hS1 ?rest18
      case hi18 => simp only [List.getElem?_toArray, List.getElem?_cons_succ, List.getElem?_cons_zero]; rfl
      case hy18 => exact Or.inl ⟨rfl, fun _ hSw => by go_simp⟩
      simp only [Act.put, List.setIfInBounds_toArray, List.set_cons_zero, List.set_cons_succ]
      refine wpAnyH_take (i := 4) (oi := ?oi19) (v := .bool true) ?hi19 (by kernel_rfl) (by kernel_rfl) (by kernel_rfl) (fun _ _ _ h => h) ?hy19 hS1 ?rest19
      case hi19 => simp only [List.getElem?_toArray, List.getElem?_cons_succ, List.getElem?_cons_zero]; rfl
      case hy19 => exact Or.inl ⟨rfl, fun _ hSw => rfl⟩
      simp only [Act.put, List.setIfInBounds_toArray, List.set_cons_zero, List.set_cons_succ]
      refine wpAnyH_take (i := 5) (oi := ?oi20) (v := .int .i64 (EE : Int)) ?hi20 (by kernel_rfl) (by kernel_rfl) (by kernel_rfl) (fun _ _ _ h => h) ?hy20 hS1 ?rest20
      case hi20 => simp only [List.getElem?_toArray, List.getElem?_cons_succ, List.getElem?_cons_zero]; rfl
      case hy20 => exact Or.inl ⟨rfl, fun _ hSw => rfl⟩
      simp only [Act.put, List.setIfInBounds_toArray, List.set_cons_zero, List.set_cons_succ]
      refine wpAnyH_take (i := 6) (oi := ?oi21) (v := .int .i64 (EE : Int)) ?hi21 (by kernel_rfl) (by kernel_rfl) (by kernel_rfl) (fun _ _ _ h => h) ?hy21 hS1 ?rest21
      case hi21 => simp only [List.getElem?_toArray, List.getElem?_cons_succ, List.getElem?_cons_zero]; rfl
      case hy21 => exact Or.inl ⟨rfl, fun _ hSw => rfl⟩
      simp only [Act.put, List.setIfInBounds_toArray, List.set_cons_zero, List.set_cons_succ]
      refine wpAnyH_take (i := 7) (oi := ?oi22) (v := .bool true) ?hi22 (by kernel_rfl) (by kernel_rfl) (by kernel_rfl) (fun _ _ _ h => h) ?hy22 hS1 ?rest22
      case hi22 => simp only [List.getElem?_toArray, List.getElem?_cons_succ, List.getElem?_cons_zero]; rfl
      case hy22 => exact Or.inl ⟨rfl, fun _ hSw => by go_simp⟩
      simp only [Act.put, List.setIfInBounds_toArray, List.set_cons_zero, List.set_cons_succ]
      refine wpAnyH_take (i := 8) (oi := ?oi23) (v := .bool true) ?hi23 (by kernel_rfl) (by kernel_rfl) (by kernel_rfl) (fun _ _ _ h => h) ?hy23 hS1 ?rest23
      case hi23 => simp only [List.getElem?_toArray, List.getElem?_cons_succ, List.getElem?_cons_zero]; rfl
      case hy23 => exact Or.inl ⟨rfl, fun _ hSw => by go_simp⟩
      simp only [Act.put, List.setIfInBounds_toArray, List.set_cons_zero, List.set_cons_succ]
      have b5 : Below w4.heap.size w4 w4.drew := (Below.refl _ _).drew
      have I5 := hid (I4.out.below b5)
      have R5 := hid (R24.out.below b5)
      have O5 := hid (O4.out.below b5)
      have T5 := hid (HT4.out.trans (BxTo.below b5))
      clear b5 I4 R24 O4 HT4 RB4 RE4 EB4
      generalize w4.drew = wd at *
      have hk6 := set3_kept (w := wd) (B := w.heap.size + 1 + 1) (.int .i64 V) (.int .i64 X) (.slice arl L.length crl)
      have hne11 := hS1.2.2.nb_rb R5.out (by decide)
      obtain ⟨⟨z0, s0⟩, f0, s1, f1, s2, f2⟩ := R5.out.wr
      have hret := R5.out.set V X (.slice arl L.length crl)
      have hfi := I5.out.setR R5.out hk6
      have hfo := O5.out.other hk6 (R5.out.nown O5.out)
      have hft := T5.out.fin hk6 (by omega)
      have HF := hid (And.intro hret (And.intro hfi (And.intro hfo hft)))
      clear hret hfi hfo hft
      refine wpAnyH_ready (rs := [9]) (by kernel_rfl) (by simp) ?_
      refine AllReadyH.cons (o := ?oiu24_9) ?hiu24_9 ?stepu24_9 AllReadyH.nil
      case hiu24_9 => simp only [List.getElem?_toArray, List.getElem?_cons_succ, List.getElem?_cons_zero]; rfl
      intro K hK
      go_simp
      refine hK.out _ _ ⟨hS1.1.other hk6 (by omega), hS1.2.1.other hk6 (by omega), hS1.2.2.other hk6 hne11⟩ (fun hS2 => ?_)
      clear hK K s0 s1 s2 f0 f1 f2
      try simp only [Act.put, List.setIfInBounds_toArray, List.set_cons_zero, List.set_cons_succ]
      generalize World.setCell _ _ _ = w9 at *
      refine wpAnyH_ready (rs := [10]) (by kernel_rfl) (by simp) ?_
      refine AllReadyH.cons (o := ?oiu25_10) ?hiu25_10 ?stepu25_10 AllReadyH.nil
      case hiu25_10 => simp only [List.getElem?_toArray, List.getElem?_cons_succ, List.getElem?_cons_zero]; rfl
      intro K hK
      go_simp
      refine hK.out _ _ hS2 (fun hS3 => ?_)
      clear hK K
      try simp only [Act.put, List.setIfInBounds_toArray, List.set_cons_zero, List.set_cons_succ]
      refine wpAnyH_done (by kernel_rfl) ?_ _
      refine NoPanic.normal ?_
      go_wp2
      refine ret_rbs Try.results11 _ _ (w.heap.size + 1 + 1) V X (.slice arl L.length crl) (.bool true) ?_ HF.out.1 ?_ ?_ ?_
      · rfl
      · rfl
      · rfl
      first
        | exact ⟨_, _, rfl, HF.out.2.1, HF.out.2.2.1, HF.out.2.2.2⟩
        | exact ⟨_, rfl, _, HF.out.2.1, HF.out.2.2.1, HF.out.2.2.2⟩
        | exact ⟨rfl, _, _, HF.out.2.1, HF.out.2.2.1, HF.out.2.2.2⟩
    · by_cases hk2 : k = 2
      · subst hk2
        have hX1 : Bv.stX X L (2, u, m, on, off) = X := rfl
        have hL1 : Bv.stL X L (2, u, m, on, off) = Bv.setL L u on off := rfl
        rw [hX1, hL1]
        have HREF := hid (fun wx hx => rset18_any V X r L u on off wx hx HG.out.up HFS.out hl)
        have HBOX := hid (fun v wx hx => set_any b v V X L u on off wx hx HG.out.up (by omega))
        obtain ⟨⟨e0, e1, e2⟩, hE⟩ : ∃ E, Bv.setR L u on off = E := ⟨_, rfl⟩
        rw [hE] at HREF HBOX
        generalize Bv.setE L u on off = EE at *
        generalize Bv.setL L u on off = L' at *
        clear hX1 hL1 hE hk0 hk1
        unfold rbV beV at HREF
        unfold beV at HBOX
        go_enter Try.func11, Try.ntmps11
        go_upto_region 1 with (fail)
        generalize hW0 : World.alloc _ _ = w0
        obtain ⟨b0, b1, b2, hb0, hs0⟩ := three_blocks w _ _ _ w0 hW0
        have R0 := hid (show RbAt w0 w.heap.size V X r from b0)
        have A1 := hid b1
        have R2 := hid (show RbAt w0 (w.heap.size + 1 + 1) 0 0 (.slice none 0 0) from b2)
        have HB0 := hid hb0
        have HS0 := hid hs0
        have I0 := hid (HI.out.below hb0)
        have O0 := hid (HR.out.below hb0)
        clear hW0 b0 b1 b2 hb0 hs0
        obtain ⟨c0, c1, c2⟩ := R0.out.c
        have a0 := cell_of_row _ _ 0 _ _ _ A1.out
        have a1 := cell_of_row _ _ 1 _ _ _ A1.out
        have a2 := cell_of_row _ _ 2 _ _ _ A1.out
        have a3 := cell_of_row _ _ 3 _ _ _ A1.out
        have a4 := cell_of_row _ _ 4 _ _ _ A1.out
        simp only [List.getElem?_toArray, List.getElem?_cons_zero, List.getElem?_cons_succ] at a0 a1 a2 a3 a4
        go_wp2_with fail
        refine (HREF.out w0 O0.out).mono ?_
        rintro e w1 ⟨rl, rfl, hol, hb1⟩
        have O1 := hid hol
        have HB1 := hid hb1
        clear hol hb1
        obtain ⟨arl, crl, hrl⟩ := ownsRow_slice O1.out
        subst hrl
        go_upto_region 12 with (fail)
        generalize hW2 : World.alloc _ _ = w2
        obtain ⟨b0, b1, hb2, hs2⟩ := two_blocks w1 _ _ w2 hW2
        have RB2 := hid (show RbAt w2 w1.heap.size V X (.slice arl L'.length crl) from b0)
        have RE2 := hid (show EntAt w2 (w1.heap.size + 1) 63 (e0, e1, e2) from b1)
        have HB2 := hid (HB1.out.trans (hb2.mono HB1.out.size))
        have O2 := hid (O1.out.below hb2)
        have I2 := hid (I0.out.below HB2.out)
        have R22 := hid (R2.out.below HB2.out)
        have A2 := hid ((HB2.out.block _ (Array.getElem?_eq_some_iff.1 A1.out).1).trans A1.out)
        have HW2 := hid (HB0.out.trans (HB2.out.mono HB0.out.size))
        have hz8 : w.heap.size + 1 + 1 < w1.heap.size := by have := HB1.out.size; have := HS0.out; omega
        clear hW2 b0 b1 hb2 hs2 c0 c1 c2 a0 a1 a2 a3 a4
        have a0 := cell_of_row _ _ 0 _ _ _ A2.out
        have a1 := cell_of_row _ _ 1 _ _ _ A2.out
        have a2 := cell_of_row _ _ 2 _ _ _ A2.out
        have a3 := cell_of_row _ _ 3 _ _ _ A2.out
        have a4 := cell_of_row _ _ 4 _ _ _ A2.out
        simp only [List.getElem?_toArray, List.getElem?_cons_zero, List.getElem?_cons_succ] at a0 a1 a2 a3 a4
        clear HREF O1 HB1 I0 O0 R0 R2 A1 HS0 HB0
        generalize w1.heap.size = z8 at *
        go_wp2_with fail
        refine (HBOX.out v w2 I2.out).mono ?_
        rintro e w3 ⟨rfl, hi3, hk3⟩
        have K3 := hid hk3
        have I3 := hid hi3
        have RB3 := hid (rb_toR RB2.out I2.out hk3)
        have RE3 := hid (re_toR RE2.out I2.out hk3)
        have R23 := hid (rb_toR R22.out I2.out hk3)
        have O3 := hid (O2.out.toR I2.out hk3)
        have HT3 := hid ((BxTo.below HW2.out).trans hk3)
        clear hi3 hk3 a0 a1 a2 a3 a4 A2 RB2 RE2 R22 O2 I2 HBOX
        go_upto_region 13 with (fail)
        generalize hW4 : World.alloc _ _ = w4
        have hb4 : Below w3.heap.size w3 w4 := by rw [← hW4]; exact (Below.refl _ _).alloc (Nat.le_refl _) _
        have EB4 := hid (show EntAt w4 w3.heap.size 38 (e0, e1, e2) from by rw [← hW4]; exact heap_alloc_new _ _)
        have I4 := hid (I3.out.below hb4)
        have RB4 := hid (RB3.out.below hb4)
        have RE4 := hid (RE3.out.below hb4)
        have R24 := hid (R23.out.below hb4)
        have O4 := hid (O3.out.below hb4)
        have HT4 := hid (HT3.out.trans (BxTo.below hb4))
        clear hW4 hb4 I3 RB3 RE3 R23 O3 HT3 K3
        generalize w3.heap.size = z11 at *
        refine wp_region_noPanic ?_
        refine wp_region_held_drew (S := fun W : World => RbAt W z8 V X (.slice arl L'.length crl) ∧ EntAt W (z8 + 1) 63 (e0, e1, e2) ∧ EntAt W z11 38 (e0, e1, e2)) (by kernel_rfl) (⟨RB4.out, RE4.out, EB4.out⟩) (fun hS1 => ?_)
        change wpAnyH _ _ _ _ _ 11 _ _ _
        refine wpAnyH_take (i := 0) (oi := ?oi28) (v := .agg ([.int .i64 V, .int .i64 X, .slice arl L'.length crl] : List Value).toArray) ?hi28 (by kernel_rfl) (by kernel_rfl) (by kernel_rfl) (fun _ _ _ h => h) ?hy28 hS1 ?rest28
        case hi28 => simp only [List.getElem?_toArray, List.getElem?_cons_zero]; rfl
        case hy28 => 
          refine yieldsIf_load_mid ?w28 _ ?x28 ?o28 z8 0 ?e28 ([.int .i64 V, .int .i64 X, .slice arl L'.length crl] : List Value) _ ?s28 Try.underlying28 rfl infoRB
          case o28 => rfl
          case w28 => rfl
          case e28 => rfl
          case s28 => intro _ hSw; exact range_row hSw.1
        simp only [Act.put, List.setIfInBounds_toArray, List.set_cons_zero, List.set_cons_succ]
        try simp only [Array.toArray_toList]
        refine wpAnyH_take (i := 1) (oi := ?oi29) (v := .agg ([.int .i64 e0, .int .i64 e1, .int .i64 e2] : List Value).toArray) ?hi29 (by kernel_rfl) (by kernel_rfl) (by kernel_rfl) (fun _ _ _ h => h) ?hy29 hS1 ?rest29
        case hi29 => simp only [List.getElem?_toArray, List.getElem?_cons_succ, List.getElem?_cons_zero]; rfl
        case hy29 => 
          refine yieldsIf_load_mid ?w29 _ ?x29 ?o29 z11 0 ?e29 ([.int .i64 e0, .int .i64 e1, .int .i64 e2] : List Value) _ ?s29 Try.underlying38 rfl infoBE
          case o29 => rfl
          case w29 => rfl
          case e29 => rfl
          case s29 => intro _ hSw; exact range_row hSw.2.2
        simp only [Act.put, List.setIfInBounds_toArray, List.set_cons_zero, List.set_cons_succ]
        try simp only [Array.toArray_toList]
        refine wpAnyH_take (i := 2) (oi := ?oi30) (v := .agg ([.int .i64 e0, .int .i64 e1, .int .i64 e2] : List Value).toArray) ?hi30 (by kernel_rfl) (by kernel_rfl) (by kernel_rfl) (fun _ _ _ h => h) ?hy30 hS1 ?rest30
        case hi30 => simp only [List.getElem?_toArray, List.getElem?_cons_succ, List.getElem?_cons_zero]; rfl
        case hy30 => 
          refine yieldsIf_load_mid ?w30 _ ?x30 ?o30 (z8 + 1) 0 ?e30 ([.int .i64 e0, .int .i64 e1, .int .i64 e2] : List Value) _ ?s30 Try.underlying63 rfl infoRE
          case o30 => rfl
          case w30 => rfl
          case e30 => rfl
          case s30 => intro _ hSw; exact range_row hSw.2.1
        simp only [Act.put, List.setIfInBounds_toArray, List.set_cons_zero, List.set_cons_succ]
        try simp only [Array.toArray_toList]
        refine wpAnyH_take (i := 3) (oi := ?oi31) (v := .bool true) ?hi31 (by kernel_rfl) (by kernel_rfl) (by kernel_rfl) (fun _ _ _ h => h) ?hy31 hS1 ?rest31
        case hi31 => simp only [List.getElem?_toArray, List.getElem?_cons_succ, List.getElem?_cons_zero]; rfl
        case hy31 => exact Or.inl ⟨rfl, fun _ hSw => by go_simp⟩
        simp only [Act.put, List.setIfInBounds_toArray, List.set_cons_zero, List.set_cons_succ]
        refine wpAnyH_take (i := 4) (oi := ?oi32) (v := .bool true) ?hi32 (by kernel_rfl) (by kernel_rfl) (by kernel_rfl) (fun _ _ _ h => h) ?hy32 hS1 ?rest32
        case hi32 => simp only [List.getElem?_toArray, List.getElem?_cons_succ, List.getElem?_cons_zero]; rfl
        case hy32 => exact Or.inl ⟨rfl, fun _ hSw => rfl⟩
        simp only [Act.put, List.setIfInBounds_toArray, List.set_cons_zero, List.set_cons_succ]
        refine wpAnyH_take (i := 5) (oi := ?oi33) (v := .int .i64 (EE : Int)) ?hi33 (by kernel_rfl) (by kernel_rfl) (by kernel_rfl) (fun _ _ _ h => h) ?hy33 hS1 ?rest33
        case hi33 => simp only [List.getElem?_toArray, List.getElem?_cons_succ, List.getElem?_cons_zero]; rfl
        case hy33 => exact Or.inl ⟨rfl, fun _ hSw => rfl⟩
        simp only [Act.put, List.setIfInBounds_toArray, List.set_cons_zero, List.set_cons_succ]
        refine wpAnyH_take (i := 6) (oi := ?oi34) (v := .int .i64 (EE : Int)) ?hi34 (by kernel_rfl) (by kernel_rfl) (by kernel_rfl) (fun _ _ _ h => h) ?hy34 hS1 ?rest34
        case hi34 => simp only [List.getElem?_toArray, List.getElem?_cons_succ, List.getElem?_cons_zero]; rfl
        case hy34 => exact Or.inl ⟨rfl, fun _ hSw => rfl⟩
        simp only [Act.put, List.setIfInBounds_toArray, List.set_cons_zero, List.set_cons_succ]
        refine wpAnyH_take (i := 7) (oi := ?oi35) (v := .bool true) ?hi35 (by kernel_rfl) (by kernel_rfl) (by kernel_rfl) (fun _ _ _ h => h) ?hy35 hS1 ?rest35
        case hi35 => simp only [List.getElem?_toArray, List.getElem?_cons_succ, List.getElem?_cons_zero]; rfl
        case hy35 => exact Or.inl ⟨rfl, fun _ hSw => by go_simp⟩
        simp only [Act.put, List.setIfInBounds_toArray, List.set_cons_zero, List.set_cons_succ]
        refine wpAnyH_take (i := 8) (oi := ?oi36) (v := .bool true) ?hi36 (by kernel_rfl) (by kernel_rfl) (by kernel_rfl) (fun _ _ _ h => h) ?hy36 hS1 ?rest36
        case hi36 => simp only [List.getElem?_toArray, List.getElem?_cons_succ, List.getElem?_cons_zero]; rfl
        case hy36 => exact Or.inl ⟨rfl, fun _ hSw => by go_simp⟩
        simp only [Act.put, List.setIfInBounds_toArray, List.set_cons_zero, List.set_cons_succ]
        have b5 : Below w4.heap.size w4 w4.drew := (Below.refl _ _).drew
        have I5 := hid (I4.out.below b5)
        have R5 := hid (R24.out.below b5)
        have O5 := hid (O4.out.below b5)
        have T5 := hid (HT4.out.trans (BxTo.below b5))
        clear b5 I4 R24 O4 HT4 RB4 RE4 EB4
        generalize w4.drew = wd at *
        have hk6 := set3_kept (w := wd) (B := w.heap.size + 1 + 1) (.int .i64 V) (.int .i64 X) (.slice arl L'.length crl)
        have hne11 := hS1.2.2.nb_rb R5.out (by decide)
        obtain ⟨⟨z0, s0⟩, f0, s1, f1, s2, f2⟩ := R5.out.wr
        have hret := R5.out.set V X (.slice arl L'.length crl)
        have hfi := I5.out.setR R5.out hk6
        have hfo := O5.out.other hk6 (R5.out.nown O5.out)
        have hft := T5.out.fin hk6 (by omega)
        have HF := hid (And.intro hret (And.intro hfi (And.intro hfo hft)))
        clear hret hfi hfo hft
        refine wpAnyH_ready (rs := [9]) (by kernel_rfl) (by simp) ?_
        refine AllReadyH.cons (o := ?oiu37_9) ?hiu37_9 ?stepu37_9 AllReadyH.nil
        case hiu37_9 => simp only [List.getElem?_toArray, List.getElem?_cons_succ, List.getElem?_cons_zero]; rfl
        intro K hK
        go_simp
        refine hK.out _ _ ⟨hS1.1.other hk6 (by omega), hS1.2.1.other hk6 (by omega), hS1.2.2.other hk6 hne11⟩ (fun hS2 => ?_)
        clear hK K s0 s1 s2 f0 f1 f2
        try simp only [Act.put, List.setIfInBounds_toArray, List.set_cons_zero, List.set_cons_succ]
        generalize World.setCell _ _ _ = w9 at *
        refine wpAnyH_ready (rs := [10]) (by kernel_rfl) (by simp) ?_
        refine AllReadyH.cons (o := ?oiu38_10) ?hiu38_10 ?stepu38_10 AllReadyH.nil
        case hiu38_10 => simp only [List.getElem?_toArray, List.getElem?_cons_succ, List.getElem?_cons_zero]; rfl
        intro K hK
        go_simp
        refine hK.out _ _ hS2 (fun hS3 => ?_)
        clear hK K
        try simp only [Act.put, List.setIfInBounds_toArray, List.set_cons_zero, List.set_cons_succ]
        refine wpAnyH_done (by kernel_rfl) ?_ _
        refine NoPanic.normal ?_
        go_wp2
        refine ret_rbs Try.results11 _ _ (w.heap.size + 1 + 1) V X (.slice arl L'.length crl) (.bool true) ?_ HF.out.1 ?_ ?_ ?_
        · rfl
        · rfl
        · rfl
        first
          | exact ⟨_, _, rfl, HF.out.2.1, HF.out.2.2.1, HF.out.2.2.2⟩
          | exact ⟨_, rfl, _, HF.out.2.1, HF.out.2.2.1, HF.out.2.2.2⟩
          | exact ⟨rfl, _, _, HF.out.2.1, HF.out.2.2.1, HF.out.2.2.2⟩
      · by_cases hk3 : k = 3
        · subst hk3
          have hX1 : Bv.stX X L (3, u, m, on, off) = X := rfl
          have hL1 : Bv.stL X L (3, u, m, on, off) = Bv.remL L u := rfl
          rw [hX1, hL1]
          have HREF := hid (fun wx hx => rremove18_any V X r L u wx hx HG.out.up hl)
          have HBOX := hid (fun v wx hx => remove_any b v V X L u wx hx HG.out.up hl)
          obtain ⟨⟨e0, e1, e2⟩, hE⟩ : ∃ E, Bv.getR L u = E := ⟨_, rfl⟩
          rw [hE] at HREF HBOX
          generalize Bv.getE L u = EE at *
          generalize Bv.remL L u = L' at *
          clear hX1 hL1 hE hk0 hk1 hk2
          unfold rbV beV at HREF
          unfold beV at HBOX
          go_enter Try.func11, Try.ntmps11
          go_upto_region 1 with (fail)
          generalize hW0 : World.alloc _ _ = w0
          obtain ⟨b0, b1, b2, hb0, hs0⟩ := three_blocks w _ _ _ w0 hW0
          have R0 := hid (show RbAt w0 w.heap.size V X r from b0)
          have A1 := hid b1
          have R2 := hid (show RbAt w0 (w.heap.size + 1 + 1) 0 0 (.slice none 0 0) from b2)
          have HB0 := hid hb0
          have HS0 := hid hs0
          have I0 := hid (HI.out.below hb0)
          have O0 := hid (HR.out.below hb0)
          clear hW0 b0 b1 b2 hb0 hs0
          obtain ⟨c0, c1, c2⟩ := R0.out.c
          have a0 := cell_of_row _ _ 0 _ _ _ A1.out
          have a1 := cell_of_row _ _ 1 _ _ _ A1.out
          have a2 := cell_of_row _ _ 2 _ _ _ A1.out
          have a3 := cell_of_row _ _ 3 _ _ _ A1.out
          have a4 := cell_of_row _ _ 4 _ _ _ A1.out
          simp only [List.getElem?_toArray, List.getElem?_cons_zero, List.getElem?_cons_succ] at a0 a1 a2 a3 a4
          go_wp2_with fail
          refine (HREF.out w0 O0.out).mono ?_
          rintro e w1 ⟨rl, rfl, hol, hb1⟩
          have O1 := hid hol
          have HB1 := hid hb1
          clear hol hb1
          obtain ⟨arl, crl, hrl⟩ := ownsRow_slice O1.out
          subst hrl
          go_upto_region 16 with (fail)
          generalize hW2 : World.alloc _ _ = w2
          obtain ⟨b0, b1, hb2, hs2⟩ := two_blocks w1 _ _ w2 hW2
          have RB2 := hid (show RbAt w2 w1.heap.size V X (.slice arl L'.length crl) from b0)
          have RE2 := hid (show EntAt w2 (w1.heap.size + 1) 63 (e0, e1, e2) from b1)
          have HB2 := hid (HB1.out.trans (hb2.mono HB1.out.size))
          have O2 := hid (O1.out.below hb2)
          have I2 := hid (I0.out.below HB2.out)
          have R22 := hid (R2.out.below HB2.out)
          have A2 := hid ((HB2.out.block _ (Array.getElem?_eq_some_iff.1 A1.out).1).trans A1.out)
          have HW2 := hid (HB0.out.trans (HB2.out.mono HB0.out.size))
          have hz8 : w.heap.size + 1 + 1 < w1.heap.size := by have := HB1.out.size; have := HS0.out; omega
          clear hW2 b0 b1 hb2 hs2 c0 c1 c2 a0 a1 a2 a3 a4
          have a0 := cell_of_row _ _ 0 _ _ _ A2.out
          have a1 := cell_of_row _ _ 1 _ _ _ A2.out
          have a2 := cell_of_row _ _ 2 _ _ _ A2.out
          have a3 := cell_of_row _ _ 3 _ _ _ A2.out
          have a4 := cell_of_row _ _ 4 _ _ _ A2.out
          simp only [List.getElem?_toArray, List.getElem?_cons_zero, List.getElem?_cons_succ] at a0 a1 a2 a3 a4
          clear HREF O1 HB1 I0 O0 R0 R2 A1 HS0 HB0
          generalize w1.heap.size = z8 at *
          go_wp2_with fail
          refine (HBOX.out v w2 I2.out).mono ?_
          rintro e w3 ⟨v3, rfl, hi3, hk3⟩
          have K3 := hid hk3
          have I3 := hid hi3
          have RB3 := hid (rb_toR RB2.out I2.out hk3)
          have RE3 := hid (re_toR RE2.out I2.out hk3)
          have R23 := hid (rb_toR R22.out I2.out hk3)
          have O3 := hid (O2.out.toR I2.out hk3)
          have HT3 := hid ((BxTo.below HW2.out).trans hk3)
          clear hi3 hk3 a0 a1 a2 a3 a4 A2 RB2 RE2 R22 O2 I2 HBOX
          go_upto_region 17 with (fail)
          generalize hW4 : World.alloc _ _ = w4
          have hb4 : Below w3.heap.size w3 w4 := by rw [← hW4]; exact (Below.refl _ _).alloc (Nat.le_refl _) _
          have EB4 := hid (show EntAt w4 w3.heap.size 38 (e0, e1, e2) from by rw [← hW4]; exact heap_alloc_new _ _)
          have I4 := hid (I3.out.below hb4)
          have RB4 := hid (RB3.out.below hb4)
          have RE4 := hid (RE3.out.below hb4)
          have R24 := hid (R23.out.below hb4)
          have O4 := hid (O3.out.below hb4)
          have HT4 := hid (HT3.out.trans (BxTo.below hb4))
          clear hW4 hb4 I3 RB3 RE3 R23 O3 HT3 K3
          generalize w3.heap.size = z11 at *
          refine wp_region_noPanic ?_
          refine wp_region_held_drew (S := fun W : World => RbAt W z8 V X (.slice arl L'.length crl) ∧ EntAt W (z8 + 1) 63 (e0, e1, e2) ∧ EntAt W z11 38 (e0, e1, e2)) (by kernel_rfl) (⟨RB4.out, RE4.out, EB4.out⟩) (fun hS1 => ?_)
          change wpAnyH _ _ _ _ _ 11 _ _ _
          refine wpAnyH_take (i := 0) (oi := ?oi41) (v := .agg ([.int .i64 V, .int .i64 X, .slice arl L'.length crl] : List Value).toArray) ?hi41 (by kernel_rfl) (by kernel_rfl) (by kernel_rfl) (fun _ _ _ h => h) ?hy41 hS1 ?rest41
          case hi41 => simp only [List.getElem?_toArray, List.getElem?_cons_zero]; rfl
          case hy41 => 
            refine yieldsIf_load_mid ?w41 _ ?x41 ?o41 z8 0 ?e41 ([.int .i64 V, .int .i64 X, .slice arl L'.length crl] : List Value) _ ?s41 Try.underlying28 rfl infoRB
            case o41 => rfl
            case w41 => rfl
            case e41 => rfl
            case s41 => intro _ hSw; exact range_row hSw.1
          simp only [Act.put, List.setIfInBounds_toArray, List.set_cons_zero, List.set_cons_succ]
          try simp only [Array.toArray_toList]
          refine wpAnyH_take (i := 1) (oi := ?oi42) (v := .agg ([.int .i64 e0, .int .i64 e1, .int .i64 e2] : List Value).toArray) ?hi42 (by kernel_rfl) (by kernel_rfl) (by kernel_rfl) (fun _ _ _ h => h) ?hy42 hS1 ?rest42
          case hi42 => simp only [List.getElem?_toArray, List.getElem?_cons_succ, List.getElem?_cons_zero]; rfl
          case hy42 => 
            refine yieldsIf_load_mid ?w42 _ ?x42 ?o42 z11 0 ?e42 ([.int .i64 e0, .int .i64 e1, .int .i64 e2] : List Value) _ ?s42 Try.underlying38 rfl infoBE
            case o42 => rfl
            case w42 => rfl
            case e42 => rfl
            case s42 => intro _ hSw; exact range_row hSw.2.2
          simp only [Act.put, List.setIfInBounds_toArray, List.set_cons_zero, List.set_cons_succ]
          try simp only [Array.toArray_toList]
          refine wpAnyH_take (i := 2) (oi := ?oi43) (v := .agg ([.int .i64 e0, .int .i64 e1, .int .i64 e2] : List Value).toArray) ?hi43 (by kernel_rfl) (by kernel_rfl) (by kernel_rfl) (fun _ _ _ h => h) ?hy43 hS1 ?rest43
          case hi43 => simp only [List.getElem?_toArray, List.getElem?_cons_succ, List.getElem?_cons_zero]; rfl
          case hy43 => 
            refine yieldsIf_load_mid ?w43 _ ?x43 ?o43 (z8 + 1) 0 ?e43 ([.int .i64 e0, .int .i64 e1, .int .i64 e2] : List Value) _ ?s43 Try.underlying63 rfl infoRE
            case o43 => rfl
            case w43 => rfl
            case e43 => rfl
            case s43 => intro _ hSw; exact range_row hSw.2.1
          simp only [Act.put, List.setIfInBounds_toArray, List.set_cons_zero, List.set_cons_succ]
          try simp only [Array.toArray_toList]
          refine wpAnyH_take (i := 3) (oi := ?oi44) (v := .bool true) ?hi44 (by kernel_rfl) (by kernel_rfl) (by kernel_rfl) (fun _ _ _ h => h) ?hy44 hS1 ?rest44
          case hi44 => simp only [List.getElem?_toArray, List.getElem?_cons_succ, List.getElem?_cons_zero]; rfl
          case hy44 => exact Or.inl ⟨rfl, fun _ hSw => by go_simp⟩
          simp only [Act.put, List.setIfInBounds_toArray, List.set_cons_zero, List.set_cons_succ]
          refine wpAnyH_take (i := 4) (oi := ?oi45) (v := .bool true) ?hi45 (by kernel_rfl) (by kernel_rfl) (by kernel_rfl) (fun _ _ _ h => h) ?hy45 hS1 ?rest45
          case hi45 => simp only [List.getElem?_toArray, List.getElem?_cons_succ, List.getElem?_cons_zero]; rfl
          case hy45 => exact Or.inl ⟨rfl, fun _ hSw => rfl⟩
          simp only [Act.put, List.setIfInBounds_toArray, List.set_cons_zero, List.set_cons_succ]
          refine wpAnyH_take (i := 5) (oi := ?oi46) (v := .int .i64 (EE : Int)) ?hi46 (by kernel_rfl) (by kernel_rfl) (by kernel_rfl) (fun _ _ _ h => h) ?hy46 hS1 ?rest46
          case hi46 => simp only [List.getElem?_toArray, List.getElem?_cons_succ, List.getElem?_cons_zero]; rfl
          case hy46 => exact Or.inl ⟨rfl, fun _ hSw => rfl⟩
          simp only [Act.put, List.setIfInBounds_toArray, List.set_cons_zero, List.set_cons_succ]
          refine wpAnyH_take (i := 6) (oi := ?oi47) (v := .int .i64 (EE : Int)) ?hi47 (by kernel_rfl) (by kernel_rfl) (by kernel_rfl) (fun _ _ _ h => h) ?hy47 hS1 ?rest47
          case hi47 => simp only [List.getElem?_toArray, List.getElem?_cons_succ, List.getElem?_cons_zero]; rfl
          case hy47 => exact Or.inl ⟨rfl, fun _ hSw => rfl⟩
          simp only [Act.put, List.setIfInBounds_toArray, List.set_cons_zero, List.set_cons_succ]
          refine wpAnyH_take (i := 7) (oi := ?oi48) (v := .bool true) ?hi48 (by kernel_rfl) (by kernel_rfl) (by kernel_rfl) (fun _ _ _ h => h) ?hy48 hS1 ?rest48
          case hi48 => simp only [List.getElem?_toArray, List.getElem?_cons_succ, List.getElem?_cons_zero]; rfl
          case hy48 => exact Or.inl ⟨rfl, fun _ hSw => by go_simp⟩
          simp only [Act.put, List.setIfInBounds_toArray, List.set_cons_zero, List.set_cons_succ]
          refine wpAnyH_take (i := 8) (oi := ?oi49) (v := .bool true) ?hi49 (by kernel_rfl) (by kernel_rfl) (by kernel_rfl) (fun _ _ _ h => h) ?hy49 hS1 ?rest49
          case hi49 => simp only [List.getElem?_toArray, List.getElem?_cons_succ, List.getElem?_cons_zero]; rfl
          case hy49 => exact Or.inl ⟨rfl, fun _ hSw => by go_simp⟩
          simp only [Act.put, List.setIfInBounds_toArray, List.set_cons_zero, List.set_cons_succ]
          have b5 : Below w4.heap.size w4 w4.drew := (Below.refl _ _).drew
          have I5 := hid (I4.out.below b5)
          have R5 := hid (R24.out.below b5)
          have O5 := hid (O4.out.below b5)
          have T5 := hid (HT4.out.trans (BxTo.below b5))
          clear b5 I4 R24 O4 HT4 RB4 RE4 EB4
          generalize w4.drew = wd at *
          have hk6 := set3_kept (w := wd) (B := w.heap.size + 1 + 1) (.int .i64 V) (.int .i64 X) (.slice arl L'.length crl)
          have hne11 := hS1.2.2.nb_rb R5.out (by decide)
          obtain ⟨⟨z0, s0⟩, f0, s1, f1, s2, f2⟩ := R5.out.wr
          have hret := R5.out.set V X (.slice arl L'.length crl)
          have hfi := I5.out.setR R5.out hk6
          have hfo := O5.out.other hk6 (R5.out.nown O5.out)
          have hft := T5.out.fin hk6 (by omega)
          have HF := hid (And.intro hret (And.intro hfi (And.intro hfo hft)))
          clear hret hfi hfo hft
          refine wpAnyH_ready (rs := [9]) (by kernel_rfl) (by simp) ?_
          refine AllReadyH.cons (o := ?oiu50_9) ?hiu50_9 ?stepu50_9 AllReadyH.nil
          case hiu50_9 => simp only [List.getElem?_toArray, List.getElem?_cons_succ, List.getElem?_cons_zero]; rfl
          intro K hK
          go_simp
          refine hK.out _ _ ⟨hS1.1.other hk6 (by omega), hS1.2.1.other hk6 (by omega), hS1.2.2.other hk6 hne11⟩ (fun hS2 => ?_)
          clear hK K s0 s1 s2 f0 f1 f2
          try simp only [Act.put, List.setIfInBounds_toArray, List.set_cons_zero, List.set_cons_succ]
          generalize World.setCell _ _ _ = w9 at *
          refine wpAnyH_ready (rs := [10]) (by kernel_rfl) (by simp) ?_
          refine AllReadyH.cons (o := ?oiu51_10) ?hiu51_10 ?stepu51_10 AllReadyH.nil
          case hiu51_10 => simp only [List.getElem?_toArray, List.getElem?_cons_succ, List.getElem?_cons_zero]; rfl
          intro K hK
          go_simp
          refine hK.out _ _ hS2 (fun hS3 => ?_)
          clear hK K
          try simp only [Act.put, List.setIfInBounds_toArray, List.set_cons_zero, List.set_cons_succ]
          refine wpAnyH_done (by kernel_rfl) ?_ _
          refine NoPanic.normal ?_
          go_wp2
          refine ret_rbs Try.results11 _ _ (w.heap.size + 1 + 1) V X (.slice arl L'.length crl) (.bool true) ?_ HF.out.1 ?_ ?_ ?_
          · rfl
          · rfl
          · rfl
          first
            | exact ⟨_, _, rfl, HF.out.2.1, HF.out.2.2.1, HF.out.2.2.2⟩
            | exact ⟨_, rfl, _, HF.out.2.1, HF.out.2.2.1, HF.out.2.2.2⟩
            | exact ⟨rfl, _, _, HF.out.2.1, HF.out.2.2.1, HF.out.2.2.2⟩
        · have g0 : (k == 0) = false := by simpa using hk0
          have g1 : (k == 1) = false := by simpa using hk1
          have g2 : (k == 2) = false := by simpa using hk2
          have g3 : (k == 3) = false := by simpa using hk3
          have hX1 : Bv.stX X L (k, u, m, on, off) = X := by unfold Bv.stX; rw [if_neg hk0]
          have hL1 : Bv.stL X L (k, u, m, on, off) = Bv.left L := by unfold Bv.stL; rw [if_neg hk0, if_neg hk1, if_neg hk2, if_neg hk3]
          rw [hX1, hL1]
          have HREF := hid (fun wx hx => rexpunge18_any V X r L wx hx HFS.out hl)
          have HBOX := hid (fun v wx (hx : IsB wx b v V X L) => expunge_any hx hl)
          have HSM := hid (fun vl gl u (h1 : OwnB u 38 vl (Bv.gone L)) (h2 : OwnB u 63 gl (Bv.gone L)) => same_any vl gl (Bv.gone L) u h1 h2 (Nat.le_trans (Bv.gone_len L) hl))
          generalize Bv.left L = L' at *
          generalize Bv.gone L = G at *
          clear hX1 hL1 hk0 hk1 hk2 hk3
          unfold rbV at HREF
          go_enter Try.func11, Try.ntmps11
          go_upto_region 1 with (fail)
          generalize hW0 : World.alloc _ _ = w0
          obtain ⟨b0, b1, b2, hb0, hs0⟩ := three_blocks w _ _ _ w0 hW0
          have R0 := hid (show RbAt w0 w.heap.size V X r from b0)
          have A1 := hid b1
          have R2 := hid (show RbAt w0 (w.heap.size + 1 + 1) 0 0 (.slice none 0 0) from b2)
          have HB0 := hid hb0
          have HS0 := hid hs0
          have I0 := hid (HI.out.below hb0)
          have O0 := hid (HR.out.below hb0)
          clear hW0 b0 b1 b2 hb0 hs0
          obtain ⟨c0, c1, c2⟩ := R0.out.c
          have a0 := cell_of_row _ _ 0 _ _ _ A1.out
          have a1 := cell_of_row _ _ 1 _ _ _ A1.out
          have a2 := cell_of_row _ _ 2 _ _ _ A1.out
          have a3 := cell_of_row _ _ 3 _ _ _ A1.out
          have a4 := cell_of_row _ _ 4 _ _ _ A1.out
          simp only [List.getElem?_toArray, List.getElem?_cons_zero, List.getElem?_cons_succ] at a0 a1 a2 a3 a4
          go_wp2_with fail
          refine (HREF.out w0 O0.out).mono ?_
          rintro e w1 ⟨rl, rg, rfl, hol, hog, hb1⟩
          have O1 := hid hol
          have G1 := hid hog
          have HB1 := hid hb1
          clear hol hog hb1
          obtain ⟨arl, crl, hrl⟩ := ownsRow_slice O1.out
          subst hrl
          go_upto_region 19 with (fail)
          generalize hW2 : World.alloc _ _ = w2
          have hb2 : Below w1.heap.size w1 w2 := by rw [← hW2]; exact (Below.refl _ _).alloc (Nat.le_refl _) _
          have RB2 := hid (show RbAt w2 w1.heap.size V X (.slice arl L'.length crl) from by rw [← hW2]; exact heap_alloc_new _ _)
          have HB2 := hid (HB1.out.trans (hb2.mono HB1.out.size))
          have O2 := hid (O1.out.below hb2)
          have G2 := hid (G1.out.below hb2)
          have I2 := hid (I0.out.below HB2.out)
          have R22 := hid (R2.out.below HB2.out)
          have HW2 := hid (HB0.out.trans (HB2.out.mono HB0.out.size))
          have hz8 : w.heap.size + 1 + 1 < w1.heap.size := by have := HB1.out.size; have := HS0.out; omega
          clear hW2 hb2 c0 c1 c2 a0 a1 a2 a3 a4 HREF O1 G1 HB1 I0 O0 R0 R2 A1 HS0 HB0
          generalize w1.heap.size = z27 at *
          refine wp_region_noPanic ?_
          refine wp_region_held_drew (S := fun W : World => RbAt W z27 V X (.slice arl L'.length crl) ∧ OwnB W 63 rg G) (by kernel_rfl) (⟨RB2.out, G2.out.at (fun _ _ => rfl)⟩) (fun hS1 => ?_)
          change wpAnyH _ _ _ _ _ 7 _ _ _
          refine wpAnyH_take (i := 0) (oi := ?oi54) (v := .agg ([.int .i64 V, .int .i64 X, .slice arl L'.length crl] : List Value).toArray) ?hi54 (by kernel_rfl) (by kernel_rfl) (by kernel_rfl) (fun _ _ _ h => h) ?hy54 hS1 ?rest54
          case hi54 => simp only [List.getElem?_toArray, List.getElem?_cons_zero]; rfl
          case hy54 => 
            refine yieldsIf_load_mid ?w54 _ ?x54 ?o54 z27 0 ?e54 ([.int .i64 V, .int .i64 X, .slice arl L'.length crl] : List Value) _ ?s54 Try.underlying28 rfl infoRB
            case o54 => rfl
            case w54 => rfl
            case e54 => rfl
            case s54 => intro _ hSw; exact range_row hSw.1
          simp only [Act.put, List.setIfInBounds_toArray, List.set_cons_zero, List.set_cons_succ]
          try simp only [Array.toArray_toList]
          refine wpAnyH_take (i := 1) (oi := ?oi55) (v := .pointer (some ⟨b, 0, none⟩)) ?hi55 (by kernel_rfl) (by kernel_rfl) (by kernel_rfl) (fun _ _ _ h => h) ?hy55 hS1 ?rest55
          case hi55 => simp only [List.getElem?_toArray, List.getElem?_cons_succ, List.getElem?_cons_zero]; rfl
          case hy55 => exact Or.inl ⟨rfl, fun _ hSw => rfl⟩
          simp only [Act.put, List.setIfInBounds_toArray, List.set_cons_zero, List.set_cons_succ]
          refine wpAnyH_take (i := 3) (oi := ?oi56) (v := rg) ?hi56 (by kernel_rfl) (by kernel_rfl) (by kernel_rfl) (fun _ _ _ h => h) ?hy56 hS1 ?rest56
          case hi56 => simp only [List.getElem?_toArray, List.getElem?_cons_succ, List.getElem?_cons_zero]; rfl
          case hy56 => exact Or.inl ⟨rfl, fun _ hSw => rfl⟩
          simp only [Act.put, List.setIfInBounds_toArray, List.set_cons_zero, List.set_cons_succ]
          have b5 : Below w2.heap.size w2 w2.drew := (Below.refl _ _).drew
          have I5 := hid (I2.out.below b5)
          have R5 := hid (R22.out.below b5)
          have O5 := hid (O2.out.below b5)
          have T5 := hid (HW2.out.trans (b5.mono HW2.out.size))
          clear b5 I2 R22 O2 HW2 HB2 RB2 G2
          generalize w2.drew = wd at *
          refine wpAnyH_ready (rs := [2]) (by kernel_rfl) (by simp) ?_
          refine AllReadyH.cons (o := ?oiu57_2) ?hiu57_2 ?stepu57_2 AllReadyH.nil
          case hiu57_2 => simp only [List.getElem?_toArray, List.getElem?_cons_succ, List.getElem?_cons_zero]; rfl
          intro K hK
          go_simp
          refine (HBOX.out v wd I5.out).mono ?_
          rintro e w3 ⟨vo, v3, rfl, hi3, ho3, _, hf3, hk3⟩
          have ht3 : BxTo wd b v w3 v3 := ⟨hk3.mono (fun k hk => Or.inl hk), fun k hk => Or.inr (hf3 k hk)⟩
          have I3 := hid hi3
          have R3 := hid (rb_toR R5.out I5.out ht3)
          have O3 := hid (O5.out.toR I5.out ht3)
          have HT3 := hid ((BxTo.below (v := v) (b := b) T5.out).trans ht3)
          have HV := hid ho3
          refine hK.out _ _ ⟨rb_toR hS1.1 I5.out ht3, hS1.2.toR I5.out ht3⟩ (fun hS2 => ?_)
          clear hK K hi3 ho3 hf3 hk3 ht3 I5 R5 O5 T5 HBOX
          try simp only [Act.put, List.setIfInBounds_toArray, List.set_cons_zero, List.set_cons_succ]
          refine wpAnyH_ready (rs := [4]) (by kernel_rfl) (by simp) ?_
          refine AllReadyH.cons (o := ?oiu58_4) ?hiu58_4 ?stepu58_4 AllReadyH.nil
          case hiu58_4 => simp only [List.getElem?_toArray, List.getElem?_cons_succ, List.getElem?_cons_zero]; rfl
          intro K hK
          go_simp
          refine (HSM.out vo rg w3 HV.out hS2.2).mono ?_
          rintro e w4 ⟨rfl, hb4⟩
          have I4 := hid (I3.out.below hb4)
          have R4 := hid (R3.out.below hb4)
          have O4 := hid (O3.out.below hb4)
          have HT4 := hid (HT3.out.trans (BxTo.below hb4))
          refine hK.out _ _ ⟨hS2.1.below hb4, hS2.2.below hb4⟩ (fun hS3 => ?_)
          clear hK K hb4 I3 R3 O3 HT3 HV HSM hS2
          try simp only [Act.put, List.setIfInBounds_toArray, List.set_cons_zero, List.set_cons_succ]
          have hk6 := set3_kept (w := w4) (B := w.heap.size + 1 + 1) (.int .i64 V) (.int .i64 X) (.slice arl L'.length crl)
          obtain ⟨⟨z0, s0⟩, f0, s1, f1, s2, f2⟩ := R4.out.wr
          have hret := R4.out.set V X (.slice arl L'.length crl)
          have hfi := I4.out.setR R4.out hk6
          have hfo := O4.out.other hk6 (R4.out.nown O4.out)
          have hft := HT4.out.fin hk6 (by omega)
          have HF := hid (And.intro hret (And.intro hfi (And.intro hfo hft)))
          have hs5 := hS3.1.other hk6 (by omega)
          have hg5 := hS3.2.other hk6 (R4.out.nown hS3.2)
          clear hret hfi hfo hft hS3
          refine wpAnyH_ready (rs := [5]) (by kernel_rfl) (by simp) ?_
          refine AllReadyH.cons (o := ?oiu59_5) ?hiu59_5 ?stepu59_5 AllReadyH.nil
          case hiu59_5 => simp only [List.getElem?_toArray, List.getElem?_cons_succ, List.getElem?_cons_zero]; rfl
          intro K hK
          go_simp
          refine hK.out _ _ ⟨hs5, hg5⟩ (fun hS4 => ?_)
          clear hK K s0 s1 s2 f0 f1 f2 hs5 hg5
          try simp only [Act.put, List.setIfInBounds_toArray, List.set_cons_zero, List.set_cons_succ]
          generalize World.setCell _ _ _ = w9 at *
          refine wpAnyH_ready (rs := [6]) (by kernel_rfl) (by simp) ?_
          refine AllReadyH.cons (o := ?oiu60_6) ?hiu60_6 ?stepu60_6 AllReadyH.nil
          case hiu60_6 => simp only [List.getElem?_toArray, List.getElem?_cons_succ, List.getElem?_cons_zero]; rfl
          intro K hK
          go_simp
          refine hK.out _ _ hS4 (fun hS5 => ?_)
          clear hK K
          try simp only [Act.put, List.setIfInBounds_toArray, List.set_cons_zero, List.set_cons_succ]
          refine wpAnyH_done (by kernel_rfl) ?_ _
          refine NoPanic.normal ?_
          go_wp2
          refine ret_rbs Try.results11 _ _ (w.heap.size + 1 + 1) V X (.slice arl L'.length crl) (.bool true) ?_ HF.out.1 ?_ ?_ ?_
          · rfl
          · rfl
          · rfl
          first
            | exact ⟨_, _, rfl, HF.out.2.1, HF.out.2.2.1, HF.out.2.2.2⟩
            | exact ⟨_, rfl, _, HF.out.2.1, HF.out.2.2.1, HF.out.2.2.2⟩
            | exact ⟨rfl, _, _, HF.out.2.1, HF.out.2.2.1, HF.out.2.2.2⟩
end Go.Proofs.Ytlfjhpmachblkaa
