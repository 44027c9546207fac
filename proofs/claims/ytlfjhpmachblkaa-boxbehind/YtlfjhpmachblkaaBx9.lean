/-
  Layer 18: a mailbox, read from its bytes.
-/
import Derived.Test.YtlfjhpmachblkaaBx7
import Derived.Test.YtlfjhpmachblkaaBx8
namespace Go.Proofs.Ytlfjhpmachblkaa
open Go.ChangeShapes Go.WideShapes Go.ChangeAt Go.RowKit
open Go.Lib (hid)

/-- A mailbox of the call's own, while what lies in block i is read. -/
structure RdS (w0 w : World) (i b : Nat) (v : Value) (V X : Int) (L : List Bv.E) (s : List Nat) : Prop where
  is : IsB w b v V X L
  inn : InAt w i (s, 0)
  fb : w0.heap.size ≤ b
  fv : VFresh w0 v
  il : i < w0.heap.size
  kept : KeptB i w0 w
theorem KeptB.q {i : Nat} {w w' : World} (h : KeptB i w w') : KeptQ (fun k => k = i) w w' := ⟨h.os, h.tape, h.output, h.size, fun k hk hn => h.block k hk hn⟩
section
variable {w0 w w' : World} {i b : Nat} {v v' : Value} {V X X' : Int} {L L' : List Bv.E} {s s' : List Nat}
theorem RdS.ni (h : RdS w0 w i b v V X L s) : ∀ k, bxB b v k → ¬ k = i := by
  rintro k (rfl | hk) e
  · have := h.fb; have := h.il; omega
  · have := h.fv k hk; have := h.il; omega
theorem RdS.read (h : RdS w0 w i b v V X L s) (hi : InAt w' i (s', 0)) (hk : KeptB i w w') : RdS w0 w' i b v V X L s' :=
  ⟨h.is.kept hk.q h.ni, hi, h.fb, h.fv, h.il, h.kept.trans hk⟩
theorem RdS.below (h : RdS w0 w i b v V X L s) (hb : Below w.heap.size w w') : RdS w0 w' i b v V X L s := h.read (h.inn.below hb) (KeptB.of_below hb)
theorem RdS.to (h : RdS w0 w i b v V X L s) (hi : IsB w' b v' V X' L') (hk : BxTo w b v w' v') : RdS w0 w' i b v' V X' L' s := by
  have hne : ¬ bxB b v i := fun hb => h.ni i hb rfl
  have hil : i < w.heap.size := h.inn.lt
  refine ⟨hi, (hk.1.block i hil hne).trans h.inn, h.fb, h.fv.next hk.2 h.kept.size, h.il, ⟨hk.1.os.trans h.kept.os, hk.1.tape.trans h.kept.tape, hk.1.output.trans h.kept.output, Nat.le_trans h.kept.size hk.1.size, fun k hkl hn => ?_⟩⟩
  refine (hk.1.block k (Nat.lt_of_lt_of_le hkl h.kept.size) ?_).trans (h.kept.block k hkl hn)
  rintro (rfl | hb)
  · have := h.fb; omega
  · have := h.fv k hb; omega
end
theorem Bv.ent8_parts (u f m : Int) (r : List Nat) : Bv.ent8 (u, f, m) ++ r = Wx.num8 u.toNat ++ (Wx.num8 f.toNat ++ (Wx.num8 m.toNat ++ r)) := by
  simp [Bv.ent8, Wx.nums8]
theorem Bv.inum_is (u : Int) (h0 : 0 ≤ u) (h1 : u ≤ 9223372036854775807) (r : List Nat) : Wx.inum (Wx.num8 u.toNat ++ r) 0 = ((r, 0), u.toNat) ∧ ((u.toNat : Nat) : Int) = u :=
  ⟨Wx.inum_num8 u.toNat (by omega) r 0, Int.toNat_of_nonneg h0⟩
theorem Bv.num8_app_lt (n : Nat) {r : List Nat} (h : ∀ c ∈ r, c < 256) : ∀ c ∈ Wx.num8 n ++ r, c < 256 := by
  intro c hc
  rcases List.mem_append.1 hc with h1 | h1
  · exact Wx.num8_lt n c h1
  · exact h c h1
/-- One number is read. -/
theorem rd_num (w0 : World) {w : World} {i b : Nat} {v : Value} {V X : Int} {L : List Bv.E} {r : List Nat} (n : Int) (h0 : 0 ≤ n) (h1 : n ≤ 9223372036854775807) (hr : ∀ c ∈ r, c < 256) (h : RdS w0 w i b v V X L (Wx.num8 n.toNat ++ r)) :
    Calls Try.prog 44 #[.pointer (some ⟨i, 0, none⟩)] w fun e w' => e = .returned (.int .i64 n) ∧ RdS w0 w' i b v V X L r := by
  have hc := inum_any i (Wx.num8 n.toNat ++ r) 0 w h.inn (Bv.num8_app_lt _ hr)
  rw [(Bv.inum_is n h0 h1 r).1] at hc
  refine hc.mono ?_
  rintro e w' ⟨rfl, hi, hk⟩
  exact ⟨by rw [(Bv.inum_is n h0 h1 r).2], h.read hi hk⟩

set_option maxHeartbeats 4000000 in
set_option maxRecDepth 100000 in
theorem readAfter_any (w0 : World) {w : World} {i b : Nat} {v : Value} {V X : Int} {L : List Bv.E} {r : List Nat} (last u f m : Int) (hl : L.length ≤ 1000) (hlast : last < u) (hu0 : 0 ≤ u) (huX : u < X) (hX : X ≤ 1099511627776) (hf : Bv.fl f = true) (hm : Bv.okc m = true)
    (hr : ∀ c ∈ r, c < 256) (h : RdS w0 w i b v V X L (Bv.ent8 (u, f, m) ++ r)) :
    Calls Try.prog 47 #[.pointer (some ⟨b, 0, none⟩), .int .i64 last, .pointer (some ⟨i, 0, none⟩)] w fun e w' => ∃ v', e = .returned (.int .i64 u) ∧ RdS w0 w' i b v' V X (L ++ [(u, f, m)]) r := by
  have hf0 : 0 ≤ f ∧ f ≤ 31 := by unfold Bv.fl at hf; simpa using hf
  have hm0 : 1 ≤ m ∧ m ≤ 1099511627776 := by unfold Bv.okc at hm; simpa using hm
  rw [Bv.ent8_parts] at h
  have h1 := Bv.num8_app_lt m.toNat hr
  have h2 := Bv.num8_app_lt f.toNat h1
  have H0 := hid (rd_num w0 u hu0 (by omega) h2 h)
  have H1 := hid (fun wx hx => rd_num w0 (w := wx) (i := i) (b := b) (v := v) (V := V) (X := X) (L := L) f hf0.1 (by omega) h1 hx)
  have H2 := hid (fun wx hx => rd_num w0 (w := wx) (i := i) (b := b) (v := v) (V := V) (X := X) (L := L) m (by omega) (by omega) hr hx)
  have HAF := hid (fun (wx : World) => areFlags_any _ 1 _ _ (ints_oneB wx f 3) (by simp))
  rw [show ([f].all Bv.fl) = true from by simpa using hf] at HAF
  have HIC := hid (fun wx => isCount_any m wx)
  rw [hm] at HIC
  have hlu : ¬ u ≤ last := by omega
  have huX2 : ¬ X ≤ u := by omega
  obtain ⟨ao, cap, hv, _⟩ := h.is.own.es
  obtain ⟨n, hn⟩ : ∃ n, L.length = n := ⟨_, rfl⟩
  rw [hn] at hv hl
  subst hv
  have HN := hid hn
  clear h h1 h2 hf hm hf0 hm0 hn
  go_enter Try.func47, Try.ntmps47
  go_wp2_with fail
  refine H0.out.mono ?_
  rintro e w1 ⟨rfl, r1⟩
  go_wp2_with fail
  refine (H1.out _ r1).mono ?_
  rintro e w2 ⟨rfl, r2⟩
  go_wp2_with fail
  refine (H2.out _ r2).mono ?_
  rintro e w3 ⟨rfl, r3⟩
  have R3 := hid r3
  have c1 := r3.is.c1
  clear r1 r2 r3 H0 H1 H2
  go_wp2_with fail
  refine (HAF.out w3).mono ?_
  rintro e w4 ⟨rfl, rfl⟩
  have R4 := hid (R3.out.below ((Below.refl _ w3).alloc (Nat.le_refl _) (.cells #[.int .i64 f] 3)))
  clear R3 c1
  generalize w3.alloc _ = w4 at *
  go_wp2_with fail
  refine (HIC.out w4).mono ?_
  rintro e w5 ⟨rfl, rfl⟩
  go_upto_region 4 with (fail)
  have c2 := R4.out.is.c2
  have HX := hid (show EntAt (w5.alloc (.cells #[.int .i64 u, .int .i64 f, .int .i64 m] 38)) w5.heap.size 38 (u, f, m) from heap_alloc_new _ _)
  have R5 := hid (R4.out.below ((Below.refl _ w5).alloc (Nat.le_refl _) (.cells #[.int .i64 u, .int .i64 f, .int .i64 m] 38)))
  generalize hW5 : w5.alloc _ = w6 at *
  have hb6 : Below w5.heap.size w5 w6 := by rw [← hW5]; exact (Below.refl _ _).alloc (Nat.le_refl _) _
  go_wp2_with (refine wpList_appEnt eBox rfl _ _ rfl _ L rfl R5.out.is.own w5.heap.size (u, f, m) rfl HX.out (by rw [HN.out]; omega) ?_; intro v' w7 ho7 hg7 hn7; have hr7 := (hg7.block b R5.out.is.lt R5.out.is.ne).trans R5.out.is.row; have fz7 := frozen_of_row w7 b 2 _ _ hr7; have cz7 : w7.cell? ⟨b, 2, none⟩ = some (.slice ao n cap) := (by rw [cell_of_row _ b 2 _ _ _ hr7]; rfl); obtain ⟨ao7, cp7, hvv7⟩ := ownsRow_slice ho7; rw [List.length_append, List.length_singleton, HN.out] at hvv7; subst hvv7)
  go_ret
  have hg8 : w6.grownBy w7 (Value.slice ao n cap).ownBlock := hg7
  have hk8 : KeptQ (fun k => k = b) w7 (w7.setCell ⟨b, 2, none⟩ (.slice ao7 (n + 1) cp7)) := KeptQ.setCell _ _ _ rfl
  have hto : BxTo w6 b (.slice ao n cap) (w7.setCell ⟨b, 2, none⟩ (.slice ao7 (n + 1) cp7)) (.slice ao7 (n + 1) cp7) :=
    ⟨(show KeptQ (bxB b (.slice ao n cap)) w6 w7 from ⟨hg8.os, hg8.tape, hg8.output, hg8.size, fun k hk hp => hg8.block k hk (fun e => hp (Or.inr e))⟩).trans (hk8.mono (fun k hk => Or.inl hk)), hn7⟩
  have hnb : ∀ k, some k = (Value.slice ao7 (n + 1) cp7).ownBlock → ¬ k = b := by
    intro k hk he
    subst he
    rcases hn7 k hk with h1 | h1
    · exact R5.out.is.ne h1
    · have := R5.out.is.lt; omega
  refine ⟨_, rfl, R5.out.to ⟨?_, ho7.at (fun g hg => hk8.block g (OwnB.lt ho7 hg) (hnb g hg))⟩ hto⟩
  rw [heap_setCell_same _ b 2 _ _ _ hr7]
  rfl

namespace Bv
/-- A mailbox as it may be. -/
structure Good (V X : Int) (L : List E) : Prop where
  v : okc V = true
  x : okc X = true
  len : L.length ≤ 256
  up : Up L
  ent : ∀ i, i < L.length → 1 ≤ (L.getD i (0, 0, 0)).1 ∧ (L.getD i (0, 0, 0)).1 < X ∧ fl (L.getD i (0, 0, 0)).2.1 = true ∧ okc (L.getD i (0, 0, 0)).2.2 = true
theorem okc_le {n : Int} (h : okc n = true) : 1 ≤ n ∧ n ≤ 1099511627776 := by unfold okc at h; simpa using h
theorem fl_le {n : Int} (h : fl n = true) : 0 ≤ n ∧ n ≤ 31 := by unfold fl at h; simpa using h
theorem Good.fits {V X : Int} {L : List E} (h : Good V X L) : Fits V X L := by
  have h1 := okc_le h.v
  have h2 := okc_le h.x
  refine ⟨by omega, by omega, fun i hi => ?_⟩
  obtain ⟨a, b, c, d⟩ := h.ent i hi
  have h3 := fl_le c
  have h4 := okc_le d
  exact ⟨by omega, by omega, by omega⟩
theorem pack_parts (V X : Int) (L : List E) (r : List Nat) : pack V X L ++ r = Wx.num8 V.toNat ++ (Wx.num8 X.toNat ++ (Wx.num8 (L.length : Int).toNat ++ (ents8 L ++ r))) := by
  simp [pack, Wx.nums8]
theorem ents8_drop (L : List E) (k : Nat) (h : k < L.length) (r : List Nat) : ents8 (L.drop k) ++ r = ent8 (L.getD k (0, 0, 0)) ++ (ents8 (L.drop (k + 1)) ++ r) := by
  have e : L.drop k = L[k] :: L.drop (k + 1) := (List.getElem_cons_drop h).symm
  rw [List.getD_eq_getElem?_getD, List.getElem?_eq_getElem h, Option.getD_some]
  unfold ents8
  rw [e, List.flatMap_cons, List.append_assoc]
theorem ents8_lt (L : List E) : ∀ c ∈ ents8 L, c < 256 := by
  intro c hc
  obtain ⟨e, _, he⟩ := List.mem_flatMap.1 hc
  exact Wx.nums8_lt _ c he
end Bv
theorem rd_in {w : World} {i : Nat} {r : List Nat} (n : Int) (h0 : 0 ≤ n) (h1 : n ≤ 9223372036854775807) (hr : ∀ c ∈ r, c < 256) (h : InAt w i (Wx.num8 n.toNat ++ r, 0)) :
    Calls Try.prog 44 #[.pointer (some ⟨i, 0, none⟩)] w fun e w' => e = .returned (.int .i64 n) ∧ InAt w' i (r, 0) ∧ KeptB i w w' := by
  have hc := inum_any i (Wx.num8 n.toNat ++ r) 0 w h (Bv.num8_app_lt _ hr)
  rw [(Bv.inum_is n h0 h1 r).1] at hc
  refine hc.mono ?_
  rintro e w' ⟨rfl, hi, hk⟩
  exact ⟨by rw [(Bv.inum_is n h0 h1 r).2], hi, hk⟩

set_option maxHeartbeats 4000000 in
set_option maxRecDepth 100000 in
theorem bread_any {w : World} {i : Nat} {V X : Int} {L : List Bv.E} {r : List Nat} (hG : Bv.Good V X L) (hr : ∀ c ∈ r, c < 256) (h : InAt w i (Bv.pack V X L ++ r, 0)) :
    Calls Try.prog 20 #[.pointer (some ⟨i, 0, none⟩)] w fun e w' => ∃ b v, e = .returned (.tuple #[.pointer (some ⟨b, 0, none⟩), .int .i64 0]) ∧ RdS w w' i b v V X L r := by
  have hV := Bv.okc_le hG.v
  have hX := Bv.okc_le hG.x
  have hil := h.lt
  have hE : ∀ c ∈ Bv.ents8 L ++ r, c < 256 := by
    intro c hc
    rcases List.mem_append.1 hc with h1 | h1
    · exact Bv.ents8_lt L c h1
    · exact hr c h1
  rw [Bv.pack_parts] at h
  have h2 := Bv.num8_app_lt (L.length : Int).toNat hE
  have h1 := Bv.num8_app_lt X.toNat h2
  have hlen := hG.len
  have H0 := hid (rd_in V (by omega) (by omega) h1 h)
  have H1 := hid (fun wx hx => rd_in (w := wx) (i := i) X (by omega) (by omega) h2 hx)
  have H2 := hid (fun wx hx => rd_in (w := wx) (i := i) (L.length : Int) (by omega) (by omega) hE hx)
  have HC := hid (fun wx => isCount_any V wx)
  rw [hG.v] at HC
  have HD := hid (fun wx => isCount_any X wx)
  rw [hG.x] at HD
  have HNW := hid (fun wx => bnew_any V V (by omega) wx)
  have HG := hid hG
  have HR := hid hr
  obtain ⟨n, hn⟩ : ∃ n, L.length = n := ⟨_, rfl⟩
  have HN := hid hn
  rw [hn] at H0 H1 H2 hlen
  have hn256 : ¬ (256 : Int) < (n : Int) := by omega
  clear h h1 h2 hE hr hG hV hX hn
  go_enter Try.func20, Try.ntmps20
  go_wp2_with fail
  refine H0.out.mono ?_
  rintro e w1 ⟨rfl, r1, k1⟩
  go_wp2_with fail
  refine (H1.out _ r1).mono ?_
  rintro e w2 ⟨rfl, r2, k2⟩
  go_wp2_with fail
  refine (H2.out _ r2).mono ?_
  rintro e w3 ⟨rfl, r3, k3⟩
  have R3 := hid r3
  have K3 := hid ((k1.trans k2).trans k3)
  clear r1 r2 r3 k1 k2 k3 H0 H1 H2
  go_wp2_with fail
  refine (HC.out _).mono ?_
  rintro e w4 ⟨rfl, rfl⟩
  go_wp2_with fail
  refine (HD.out _).mono ?_
  rintro e w5 ⟨rfl, rfl⟩
  go_wp2_with fail
  refine (HNW.out _).mono ?_
  rintro e w6 ⟨rfl, hi6, hb6⟩
  have R6 := hid (show RdS w w6 i w5.heap.size (.slice none 0 0) V 1 [] (Bv.ents8 L ++ r) from ⟨hi6, R3.out.below hb6, K3.out.size, VFresh.nil _, hil, K3.out.trans (KeptB.of_below hb6)⟩)
  clear hi6 hb6 R3 K3 HC HD HNW
  generalize w5.heap.size = b at *
  have c1 := R6.out.is.c1
  have f1 := R6.out.is.fr 1
  go_upto_region 8 with (fail)
  have hk7 : KeptQ (fun k => k = b) w6 (w6.setCell ⟨b, 1, none⟩ (.int .i64 X)) := KeptQ.setCell _ _ _ rfl
  have R7 := hid (R6.out.to (w' := w6.setCell ⟨b, 1, none⟩ (.int .i64 X)) (v' := .slice none 0 0) (X' := X) (L' := []) ⟨by rw [heap_setCell_same _ b 1 _ _ _ R6.out.is.row]; rfl, OwnB.nil _ _⟩ (BxTo.of hk7 (fun k hk => Or.inl hk)))
  clear hk7 R6 c1 f1
  generalize w6.setCell _ _ = w7 at *
  go_loopw [8, 9] (fun l j wr => ∃ (p : Nat) (a : Int) (v : Value), p ≤ n ∧ j = .int .i64 p ∧ l = .int .i64 a ∧ (p < n → a < (L.getD p (0, 0, 0)).1) ∧ RdS w wr i b v V X (L.take p) (Bv.ents8 (L.drop p) ++ r))
    (fun _ j _ => n - (intOf j).toNat)
  case atStart => exact ⟨0, 0, _, by omega, rfl, rfl, fun h => by have := (HG.out.ent 0 (by rw [HN.out]; exact h)).1; omega, R7.out⟩
  case round =>
    obtain ⟨p, a, v, hp, rfl, rfl, ha, hR⟩ := hrel
    have R := hid hR
    have HE := hid (ierr_any i _ wr hR.inn)
    clear hR R7
    by_cases hlt : p < n
    · have hpL : p < L.length := by rw [HN.out]; exact hlt
      have hpi : (p : Int) < (n : Int) := by omega
      have hal := ha hlt
      obtain ⟨e1, e2, e3, e4⟩ := HG.out.ent p hpL
      have hdr := Bv.ents8_drop L p hpL r
      have htk : L.take (p + 1) = L.take p ++ [L.getD p (0, 0, 0)] := by rw [List.take_add_one, List.getD_eq_getElem?_getD, List.getElem?_eq_getElem hpL]; rfl
      have hnx : p + 1 < n → (L.getD p (0, 0, 0)).1 < (L.getD (p + 1) (0, 0, 0)).1 := fun h => HG.out.up p (p + 1) (by omega) (by rw [HN.out]; exact h)
      obtain ⟨⟨yu, yf, ym⟩, hy⟩ : ∃ y, L.getD p (0, 0, 0) = y := ⟨_, rfl⟩
      rw [hy] at hdr htk hal e1 e2 e3 e4 hnx
      dsimp only at hal e1 e2 e3 e4 hnx
      have hX := Bv.okc_le HG.out.x
      have hr' : ∀ c ∈ Bv.ents8 (L.drop (p + 1)) ++ r, c < 256 := by
        intro c hc
        rcases List.mem_append.1 hc with h1 | h1
        · exact Bv.ents8_lt _ c h1
        · exact HR.out c h1
      have hra := readAfter_any w (b := b) a yu yf ym (by rw [List.length_take, HN.out]; omega) hal (by omega) e2 hX.2 e3 e4 hr' (hdr ▸ R.out)
      rw [← htk] at hra
      have HRA := hid hra
      have HNX := hid hnx
      clear hra hnx hr' hX hal e1 e2 e3 e4 htk hdr hy ha
      go_wp2_with fail
      refine HE.out.mono ?_
      rintro e wx ⟨rfl, rfl⟩
      go_wp2_with fail
      refine HRA.out.mono ?_
      rintro e wx2 ⟨v2, rfl, hR2⟩
      have R2 := hid hR2
      clear hR2 HRA HE R
      go_wp2
      exact ⟨⟨p + 1, yu, v2, by omega, by go_num, rfl, HNX.out, R2.out⟩, by simp [intOf]; omega⟩
    · obtain rfl : p = n := by omega
      have hpi : ¬ (p : Int) < (p : Int) := by omega
      have hRR := R.out
      rw [List.take_of_length_le (by rw [HN.out]; exact Nat.le_refl _), List.drop_of_length_le (by rw [HN.out]; exact Nat.le_refl _), show Bv.ents8 [] = [] from rfl, List.nil_append] at hRR
      have RF := hid hRR
      clear hRR R ha
      go_wp2_with fail
      refine HE.out.mono ?_
      rintro e wx ⟨rfl, rfl⟩
      go_wp2
      go_ret2
      exact ⟨b, v, rfl, RF.out⟩
end Go.Proofs.Ytlfjhpmachblkaa
