/-
  For every tape, texts and place: texts that an ideal suite seals, each at its own place, under one root: each can be shown and opened, and nothing of another place is (law SealwaxShown); without conditions.
-/
import Derived.Test.YtnhecallffkedabDoorSu3
import Derived.Test.YtnhecallffkedabDoorTree13
import Derived.Test.YtnhecallffkedabDoorTree11
import Derived.Test.YtnhecallffkedabDoorLTreeGrows
import Derived.Test.YtnhecallffkedabDoorLawKit
namespace Go.Proofs.YtnhecallffkedabDoor
open Go.ChangeShapes Go.WideShapes Go.ChangeAt Go.RowKit
open Go.Lib (hid)

namespace Shn
/-- So many bytes of the tape are taken by the first k texts. -/
def upto (F : List (List Nat)) : Nat → Nat
  | 0 => 0
  | k + 1 => upto F k + ((F.getD k []).length + 16)
theorem upto_le (F : List (List Nat)) (h : ∀ t ∈ F, t.length ≤ 1000) (k : Nat) : upto F k ≤ 1016 * k := by
  induction k with
  | zero => simp [upto]
  | succ k ih =>
    have : (F.getD k []).length ≤ 1000 := by
      by_cases hk : k < F.length
      · rw [List.getD_eq_getElem?_getD, List.getElem?_eq_getElem hk]
        exact h _ (List.getElem_mem hk)
      · rw [List.getD_eq_getElem?_getD, List.getElem?_eq_none (by omega)]; simp
    unfold upto
    omega
/-- What the k-th text is sealed as. -/
def C (T : List Nat) (F : List (List Nat)) (k : Nat) : List Nat := Iv.take T (upto F k) ((F.getD k []).length + 16)
def all (T : List Nat) (F : List (List Nat)) (k : Nat) : List (List Nat) := (List.range k).map (C T F)
theorem all_succ (T : List Nat) (F : List (List Nat)) (k : Nat) : all T F k ++ [C T F k] = all T F (k + 1) := by simp [all, List.range_succ]
theorem all_length (T : List Nat) (F : List (List Nat)) (k : Nat) : (all T F k).length = k := by simp [all]
theorem all_get (T : List Nat) (F : List (List Nat)) (k j : Nat) (h : j < k) : (all T F k).getD j [] = C T F j := by
  simp [all, List.getD_eq_getElem?_getD, h]
theorem all_lt (T : List Nat) (hT : ∀ x ∈ T, x < 256) (F : List (List Nat)) (k : Nat) : ∀ x ∈ (all T F k).flatten, x < 256 := by
  intro x hx
  simp only [all, List.mem_flatten, List.mem_map] at hx
  obtain ⟨l, ⟨j, _, rfl⟩, hx⟩ := hx
  exact Iv.take_lt T hT _ _ x hx
theorem all_each (T : List Nat) (F : List (List Nat)) (h : ∀ t ∈ F, t.length ≤ 30) (k : Nat) : ∀ t ∈ all T F k, t.length ≤ 46 := by
  intro t ht
  simp only [all, List.mem_map] at ht
  obtain ⟨j, _, rfl⟩ := ht
  unfold C
  rw [Iv.take_length]
  have : (F.getD j []).length ≤ 30 := by
    by_cases hk : j < F.length
    · rw [List.getD_eq_getElem?_getD, List.getElem?_eq_getElem hk]
      exact h _ (List.getElem_mem hk)
    · rw [List.getD_eq_getElem?_getD, List.getElem?_eq_none (by omega)]; simp
  omega
def page : ByteArray := ⟨#[112, 97, 103, 101]⟩
def ent (T : List Nat) (F : List (List Nat)) (j : Nat) : (Nat × Nat) × (ByteArray × ByteArray × ByteArray) := ((1, j), (page, str (F.getD j []), str (C T F j)))
def S (T : List Nat) (F : List (List Nat)) (k : Nat) : List ((Nat × Nat) × (ByteArray × ByteArray × ByteArray)) := (List.range k).map (ent T F)
theorem S_succ (T : List Nat) (F : List (List Nat)) (k : Nat) : Mp.put (S T F k) (1, k) (page, str (F.getD k []), str (C T F k)) = S T F (k + 1) := by
  rw [Mp.put_new]
  · simp [S, List.range_succ, ent]
  · rw [Mp.get_none]
    intro p hp
    simp only [S, List.mem_map, List.mem_range] at hp
    obtain ⟨j, hj, rfl⟩ := hp
    simp [ent]
    omega
theorem S_get (T : List Nat) (F : List (List Nat)) (k j : Nat) (h : j < k) : Mp.get (S T F k) (1, j) = some (page, str (F.getD j []), str (C T F j)) := by
  induction k with
  | zero => omega
  | succ k ih =>
    rw [← S_succ, Mp.get_put]
    by_cases e : k = j
    · subst e; rw [if_pos rfl]
    · rw [if_neg (by simpa using e)]
      exact ih (by omega)
end Shn
theorem Iv.lim_of (n : Nat) (h : n ≤ 1099511627776) : Iv.lim (n : Int) = n := by unfold Iv.lim; omega
theorem OwnS.keptP {p : Nat → Prop} {w w' : World} {base : Nat} {v : Value} {L : List (List Nat)} (h : OwnS w base v L) (hk : KeptP p w w') (hp : ∀ k, p k → k < base) : OwnS w' base v L := by
  obtain ⟨h1, h2⟩ := h
  refine ⟨h1, ?_⟩
  rcases h2 with h2 | ⟨g, cap, cur, hv, hg, hh, r⟩
  · exact Or.inl h2
  · exact Or.inr ⟨g, cap, cur, hv, hg, by rw [hk.block g (Array.getElem?_eq_some_iff.1 hh).1 (fun hq => by have := hp g hq; omega)]; exact hh, r⟩
/-- Texts in a block between lo and hi. -/
def StrsIn (lo hi : Nat) (u : World) (ao : Option Addr) (F : List (List Nat)) : Prop := ∀ i, i < F.length → ∃ sb so, ao = some ⟨sb, so, none⟩ ∧ lo ≤ sb ∧ sb < hi ∧ u.cell? ⟨sb, so + i, none⟩ = some (.string (str (F.getD i [])))
theorem StrsIn.strs {lo hi : Nat} {u : World} {ao : Option Addr} {F : List (List Nat)} (h : StrsIn lo hi u ao F) : Strs u ao F := fun i hi => by
  obtain ⟨sb, so, h1, _, _, h2⟩ := h i hi
  exact ⟨sb, so, h1, h2⟩
theorem StrsIn.keptP {lo hi : Nat} {u u' : World} {p : Nat → Prop} {ao : Option Addr} {F : List (List Nat)} (h : StrsIn lo hi u ao F) (hk : KeptP p u u') (hp : ∀ k, p k → k < lo) : StrsIn lo hi u' ao F := fun i hi => by
  obtain ⟨sb, so, h1, h2, h3, h4⟩ := h i hi
  refine ⟨sb, so, h1, h2, h3, ?_⟩
  rw [← h4]
  have hb := hk.block sb (block_lt_of_cell h4) (fun hq => by have := hp sb hq; omega)
  simp only [World.cell?, hb]
theorem StrsIn.below {lo hi : Nat} {u u' : World} {ao : Option Addr} {F : List (List Nat)} (h : StrsIn lo hi u ao F) (hb : Below hi u u') : StrsIn lo hi u' ao F := fun i hi => by
  obtain ⟨sb, so, h1, h2, h3, h4⟩ := h i hi
  refine ⟨sb, so, h1, h2, h3, ?_⟩
  rw [hb.cell h3]; exact h4
theorem OwnS.strsIn {w : World} {base : Nat} {v : Value} {L : List (List Nat)} (h : OwnS w base v L) : ∃ ao cap, v = .slice ao L.length cap ∧ StrsIn base w.heap.size w ao L ∧ L.length ≤ cap ∧ (ao = none → cap = 0) := by
  obtain ⟨h1, ⟨hv, h0⟩ | ⟨g, cap, cur, hv, hg, hh, hn, _, hs, hc⟩⟩ := h
  · have hl : L = [] := List.eq_nil_of_length_eq_zero h0
    subst hl
    exact ⟨none, 0, hv, fun i hi => absurd hi (by simp), Nat.le_refl _, fun _ => rfl⟩
  · refine ⟨_, cap, hv, fun i hi => ⟨g, 0, rfl, hg, (Array.getElem?_eq_some_iff.1 hh).1, ?_⟩, hn, fun e => by cases e⟩
    rw [Nat.zero_add, cell_of_row w g i cur _ _ hh]
    have h2 : cur[i]? = (cur.toList.take (L.length * 1))[i]? := by
      rw [List.getElem?_take, if_pos (by omega), Array.getElem?_toList]
    rw [h2, hc]
    simp [hi]
/-- While the texts are sealed. -/
structure Sh (w : World) (b b1 b2 b3 : Nat) (T : List Nat) (F : List (List Nat)) (aoF : Option Addr) (B B2 : Nat) (k : Nat) (v : Value) (u : World) : Prop where
  su : IsI u b b1 b2 b3 ⟨T, Shn.upto F k, Shn.S T F k, [], []⟩
  tx : StrsIn B B2 u aoF F
  se : OwnS u B2 v (Shn.all T F k)
  tab : Tabs u
  bel : Below w.heap.size w u
  big : B2 ≤ u.heap.size
theorem Sh.keep {w : World} {b b1 b2 b3 : Nat} {T : List Nat} {F : List (List Nat)} {aoF : Option Addr} {B B2 k : Nat} {v : Value} {u u' : World} (h : Sh w b b1 b2 b3 T F aoF B B2 k v u) (hb : Below u.heap.size u u') : Sh w b b1 b2 b3 T F aoF B B2 k v u' :=
  ⟨h.su.below hb, h.tx.below (hb.mono h.big), h.se.below hb, h.tab.below hb (Nat.le_refl _), h.bel.trans (hb.mono h.bel.size), Nat.le_trans h.big hb.size⟩

/-- While what is sealed is shown and opened. -/
structure Sg (w : World) (b b1 b2 b3 : Nat) (T : List Nat) (F : List (List Nat)) (aoF ao2 : Option Addr) (A : List (List Nat)) (u : World) : Prop where
  su : IsI u b b1 b2 b3 ⟨T, Shn.upto F F.length, Shn.S T F F.length, [], []⟩
  tx : Strs u aoF F
  se : Strs u ao2 A
  tab : Tabs u
  bel : Below w.heap.size w u
theorem Sg.keep {w : World} {b b1 b2 b3 : Nat} {T : List Nat} {F : List (List Nat)} {aoF ao2 : Option Addr} {A : List (List Nat)} {u u' : World} (h : Sg w b b1 b2 b3 T F aoF ao2 A u) (hb : Below u.heap.size u u') : Sg w b b1 b2 b3 T F aoF ao2 A u' :=
  ⟨h.su.below hb, h.tx.below hb, h.se.below hb, h.tab.below hb (Nat.le_refl _), h.bel.trans (hb.mono h.bel.size)⟩

structure Sk (w : World) (b b1 b2 b3 : Nat) (T : List Nat) (F : List (List Nat)) (aoF ao2 : Option Addr) (A : List (List Nat)) (q : Nat) (R : List Nat) (vS : Value) (SH : List (List Nat)) (u : World) : Prop where
  g : Sg w b b1 b2 b3 T F aoF ao2 A u
  r : Row u q .u8 27 R
  s : Sums u vS SH
theorem Sk.keep {w : World} {b b1 b2 b3 : Nat} {T : List Nat} {F : List (List Nat)} {aoF ao2 : Option Addr} {A : List (List Nat)} {q : Nat} {R : List Nat} {vS : Value} {SH : List (List Nat)} {u u' : World} (h : Sk w b b1 b2 b3 T F aoF ao2 A q R vS SH u) (hb : Below u.heap.size u u') : Sk w b b1 b2 b3 T F aoF ao2 A q R vS SH u' :=
  ⟨h.g.keep hb, h.r.below hb h.r.lt, h.s.below hb⟩
namespace SealwaxShown
/-- A world for the witnesses: the settled one, the tables holding what their initialisers lay. -/
noncomputable def laidWorld (os : Os) : World :=
  { World.holding Tryd.prog os ⟨#[], #[], []⟩ with heap := (((((World.holding Tryd.prog os ⟨#[], #[], []⟩).heap.modify 2 (relaid (ints .i64 [0, 4, 8, 12, 1, 5, 9, 13, 2, 6, 10, 14, 3, 7, 11, 15, 0, 5, 10, 15, 1, 6, 11, 12, 2, 7, 8, 13, 3, 4, 9, 14]))).modify 3 (relaid (ints .u8 [255, 255, 255, 15, 252, 255, 255, 15, 252, 255, 255, 15, 252, 255, 255, 15]))).modify 0 (relaid (ints .u32 Sx.K))).modify 1 (relaid (ints .u32 Sx.H0))) }
theorem tabsS_of {W : World} (h : laidMetH Tryd.prog [("sealwax/poly.kept", Rows.laid_sealwax_poly_kept), ("sealwax/sha.first", Rows.laid_sealwax_sha_first), ("sealwax/sha.constants", Rows.laid_sealwax_sha_constants), ("sealwax/stream.quarters", Rows.laid_sealwax_stream_quarters)] W) : Tabs W := by
  have h' : laidMet Tryd.prog [("sealwax/poly.kept", Rows.laid_sealwax_poly_kept), ("sealwax/sha.first", Rows.laid_sealwax_sha_first), ("sealwax/sha.constants", Rows.laid_sealwax_sha_constants), ("sealwax/stream.quarters", Rows.laid_sealwax_stream_quarters)] W := h
  have h2 := laidMet.tail h'
  have h3 := laidMet.tail h2
  rw [dataH] at h2
  rw [dataK] at h3
  have t1 := Lib.tabIs_of_head gH gHType Tryd.underlying58 Tryd.underlying57 cells34 cells35 h2
  have t2 := Lib.tabIs_of_head gK gKType Tryd.underlying123 Tryd.underlying57 cells34 cells67 h3
  refine ⟨fun i hi => ?_, fun i hi => ?_⟩
  · rw [t2.cell gK i (by rw [List.length_map]; exact hi), getD_cast]
  · rw [t1.cell gH i (by rw [List.length_map]; exact hi), getD_cast]
theorem root0 : Tx.root (Tx.limit 0) [] = Sx.digest [76] := by
  rw [show Tx.limit 0 = 0 from rfl]
  have h1 : (Tx.lev 0 [] 0) = ([], Tx.hl []) := rfl
  unfold Tx.root Tx.sumAt
  rw [h1]
  show Tx.hl [] = _
  unfold Tx.hl Tx.leaf
  exact Eq.refl _

set_option maxHeartbeats 4000000 in
set_option maxRecDepth 100000 in
theorem walk (s0 : ByteArray) (hs0 : s0.size ≤ maxLen) (ao : Option Addr) (L : List ByteArray) (cap : Nat) (n2 : Int) (w : World) (hT : Tabs w) (hA : StrsB w ao L) (hL : L.length ≤ maxLen) (hs : ∀ s ∈ L, s.size ≤ maxLen) :
    Calls Tryd.prog 3 #[.string s0, .slice ao L.length cap, .int .i64 n2] w fun e w' => e = .returned (.bool true) ∧ Below w.heap.size w w' := by
  have HC := hid (fun wx => cut_any s0 20 wx hs0 (by omega))
  have htb := cut_lt' s0 20
  have htl := cut_le' s0 20
  obtain ⟨T0, hT0⟩ : ∃ T0, T0 = (nums s0).take 20 := ⟨_, rfl⟩
  rw [← hT0] at HC htb htl
  clear hT0
  have HI := hid (fun wx => ideal_any T0 wx (by omega))
  obtain ⟨tp, tb, tl⟩ := Iv.tapeOf_ok T0 htb
  generalize Iv.tapeOf T0 = T at *
  have HF := hid (fun wx hx => few_any ao L cap 8 30 wx hx hL hs (by omega) (by omega))
  have hfl := few_length L 8 30
  have hfe := few_each L 8 30
  have hfb := few_lt L 8 30
  have hfz : (few L 8 30).length ≤ 8 := by omega
  generalize few L 8 30 = F at *
  have HT := hid hT
  have HA := hid hA
  have HR0 := hid (fun wx hx => root_any 0 none [] 0 (by simp) (fun _ => rfl) (by simp) (by simp) (by simp) wx hx (fun i hi => absurd hi (by simp)))
  rw [root0] at HR0
  have HOL := hid (fun wx hx => of_one [76] (by decide) (by decide) wx hx 9)
  rw [show str [76] = (⟨#[76]⟩ : ByteArray) from rfl] at HOL
  have heq := fun wx => neq_sums wx (Sx.digest [76]) (Sx.digest [76]) (digest_lt _) (digest_lt _) (digest_length _) (digest_length _)
  rw [beq_self_eq_true] at heq
  generalize Sx.digest [76] = D0 at *
  clear hT hA hfl
  go_enter Tryd.func3, Tryd.ntmps3
  go_wp2_with fail
  refine (HC.out _).mono ?_
  rintro e w1 ⟨rfl, hw1⟩
  obtain rfl : w = w1 := hw1
  go_wp2_with fail
  refine (HI.out _).mono ?_
  rintro e w1 ⟨b, b1, b2, b3, rfl, hi1, g0, g1, g2, g3, hb1⟩
  have HB1 := hid hb1
  have HI1 := hid hi1
  clear hb1 hi1 HC HI
  go_wp2_with fail
  refine (HR0.out _ (HT.out.below HB1.out (Nat.le_refl _))).mono ?_
  rintro e w2 ⟨rfl, hb2⟩
  have HB2 := hid (HB1.out.next (Nat.le_refl _) hb2)
  have HI2 := hid (HI1.out.below hb2)
  clear hb2 HB1 HI1 HR0
  go_wp2_with fail
  refine (HOL.out _ (HT.out.below HB2.out (Nat.le_refl _))).mono ?_
  rintro e w3 ⟨rfl, hb3⟩
  have HB3 := hid (HB2.out.next (Nat.le_refl _) hb3)
  have HI3 := hid (HI2.out.below hb3)
  clear hb3 HB2 HI2 HOL
  go_wp2_with fail
  clear heq
  refine (HF.out _ (HA.out.below HB3.out)).mono ?_
  rintro e w4 ⟨vF, rfl, ht4, hb4⟩
  have hz3 : w.heap.size ≤ w3.heap.size := HB3.out.size
  have hlb : b < w3.heap.size := (Array.getElem?_eq_some_iff.1 HI3.out.row).1
  have hl1 := HI3.out.m1.lt
  have hl2 := HI3.out.m2.lt
  have hl3 := HI3.out.m3.lt
  obtain ⟨aoF, capF, rfl, hst4, hcF, haF⟩ := ht4.strsIn
  have H4 := hid (show Sh w b b1 b2 b3 T F aoF w3.heap.size w4.heap.size 0 (.slice none 0 0) w4 from ⟨HI3.out.below hb4, hst4, OwnS.nil _ _, HT.out.below (HB3.out.trans (hb4.mono hz3)) (Nat.le_refl _), HB3.out.trans (hb4.mono hz3), Nat.le_refl _⟩)
  have hB2 : w3.heap.size ≤ w4.heap.size := hb4.size
  generalize w3.heap.size = B at *
  generalize w4.heap.size = B2 at *
  have HTT := HT
  clear HF HA HT HB3 HI3 hb4 ht4 hst4
  go_wp2
  have hfu := fun k (hk : k ≤ F.length) => Nat.le_trans (Shn.upto_le F (fun t ht => Nat.le_trans (hfe t ht) (by decide)) k) (by omega : 1016 * k ≤ 8128)
  go_loopw [8, 34] (fun v i wr => ∃ k : Nat, k ≤ F.length ∧ i = .int .i64 k ∧ Sh w b b1 b2 b3 T F aoF B B2 k v wr)
    (fun _ i _ => F.length - (intOf i).toNat)
  case atStart => exact ⟨0, by omega, rfl, H4.out⟩
  case round =>
    clear H4
    obtain ⟨k, hk, rfl, hsh⟩ := hrel
    have HS := hid hsh
    by_cases hlt : k < F.length
    · obtain ⟨sb, so, hao, _, _, c0⟩ := hsh.tx k hlt
      subst hao
      have hkl : (F.getD k []).length ≤ 30 := hfe _ (by rw [List.getD_eq_getElem?_getD, List.getElem?_eq_getElem hlt]; exact List.getElem_mem hlt)
      have hku := hfu k hk
      have HSE := hid (fun wx hx => seal_any b b1 b2 b3 ⟨T, Shn.upto F k, Shn.S T F k, [], []⟩ tb tp (by show T.length ≤ _; omega) (by show Shn.upto F k ≤ _; omega) 1 (k : Int) Shn.page (str (F.getD k [])) (by rw [str_size]; omega) wx hx)
      simp only [str_size] at HSE
      rw [show Iv.lim 1 = 1 from rfl, Iv.lim_of k (by omega), show Iv.take T (Shn.upto F k) ((F.getD k []).length + 16) = Shn.C T F k from rfl, show Shn.upto F k + ((F.getD k []).length + 16) = Shn.upto F (k + 1) from rfl, Shn.S_succ] at HSE
      unfold Shn.page at HSE
      have HAS := hid (Shn.all_succ T F k)
      have hal := Shn.all_length T F k
      generalize Shn.C T F k = CK at *
      generalize str (F.getD k []) = TK at *
      have hbB : ∀ x, (x = b ∨ x = b1) → x < B := fun x hx => by omega
      have hbw : ∀ x, (x = b ∨ x = b1) → w.heap.size ≤ x := fun x hx => by omega
      have HBB := hid hbB
      have HBW := hid hbw
      clear hsh hbB hbw hkl
      go_wp2_with fail
      refine (HSE.out _ HS.out.su).mono ?_
      rintro e w5 ⟨rfl, hi5, hk5⟩
      have HK := HS.out
      have hb5 : Below w.heap.size w w5 := HK.bel.trans (hk5.below HBW.out HK.bel.size)
      have HI5 := hid hi5
      have HT5 := hid (HK.tx.keptP hk5 HBB.out)
      have HE5 := hid (HK.se.keptP hk5 (fun x hx => Nat.lt_of_lt_of_le (HBB.out x hx) hB2))
      have HB5 := hid hb5
      have hB5 : B2 ≤ w5.heap.size := Nat.le_trans HK.big hk5.size
      clear HK hi5 hk5 hb5 HSE c0
      go_wp2_with (refine wpList_appS rfl _ _ rfl B2 _ (Shn.all T F k) rfl (HE5.out.below ((Below.refl _ _).alloc (Nat.le_refl _) _)) _ CK rfl (by rw [Addr.add_mid, cell_of_row _ _ _ _ _ _ (heap_alloc_new _ _)]; rfl) (by rw [hal]; omega) (by rw [World.size_alloc]; omega) ?_; intro v' w6 hown6 hbel6)
      have hb6 : Below B2 w5 w6 := ((Below.refl B2 w5).alloc hB5 _).trans hbel6
      rw [HAS.out] at hown6
      have hBb : B2 ≤ w5.heap.size := hB5
      have HS6 := hid (show Sh w b b1 b2 b3 T F (some ⟨sb, so, none⟩) B B2 (k + 1) v' w6 from
        ⟨HI5.out.kept (p := fun x => B2 ≤ x) ⟨hb6.os, hb6.tape, hb6.output, hb6.size, fun x _ hx => hb6.block x (by omega)⟩ (by omega) (by omega) (by omega) (by omega), HT5.out.below hb6, hown6,
          HTT.out.below (HB5.out.trans (hb6.mono (by omega))) (Nat.le_refl _), HB5.out.trans (hb6.mono (by omega)), Nat.le_trans hB5 hb6.size⟩)
      clear hown6 hbel6 hb6 HI5 HT5 HE5 HB5 HS
      go_roundw
      case rel => exact ⟨k + 1, by omega, by go_num, HS6.out⟩
      case measure => simp [intOf]; omega
    · obtain rfl : k = F.length := by omega
      obtain ⟨ao2, cap2, hv2, hst2, hc2, ha2⟩ := hsh.se.capd
      have H5 := hid (show Sg w b b1 b2 b3 T F aoF ao2 (Shn.all T F F.length) wr from ⟨hsh.su, hsh.tx.strs, hst2, hsh.tab, hsh.bel⟩)
      have hAl := Shn.all_length T F F.length
      have HAG := hid (fun j hj => Shn.all_get T F F.length j hj)
      have hAb := Shn.all_lt T tb F F.length
      have hAe := Shn.all_each T F (fun t ht => hfe t ht) F.length
      have HSG := hid (fun j hj => Shn.S_get T F F.length j hj)
      generalize Shn.all T F F.length = A at *
      rw [hAl] at hv2 hc2
      subst hv2
      have HRA := hid (fun wx hx hy => root_any 3 ao2 A cap2 (by omega) ha2 (by omega) hAb (fun t ht => Nat.le_trans (hAe t ht) (by decide)) wx hx hy)
      have ga := Tx.sumAt_good 3 A (by omega) 3 0
      rw [show Tx.sumAt 3 A 3 0 = Tx.root 3 A from rfl] at ga
      rw [show Tx.limit 3 = 3 from rfl, hAl] at HRA
      have HSH := hid (fun i wx hx hy => show_any 3 i ao2 A cap2 (by omega) ha2 (by omega) hAb (fun t ht => Nat.le_trans (hAe t ht) (by decide)) wx hx hy)
      rw [show Tx.limit 3 = 3 from rfl, hAl] at HSH
      have HSM := hid (fun (j : Nat) (hj : j < 8) => Tx.holds_shown 3 j A (by decide) hj)
      have HSD := hid (fun (j : Nat) => Tx.shows_good 3 j A (by omega) 3)
      have HSL := hid (fun (j : Nat) => Tx.shows_length 3 j A 3)
      have sza : (ints .u8 (Tx.root 3 A)).size = 32 := by rw [ints_size, ga.1]
      have HGA := hid ga
      obtain ⟨R, hR⟩ : ∃ R, R = Tx.root 3 A := ⟨_, rfl⟩
      rw [← hR] at HRA HSM HGA sza
      have HAB := hid hAb
      have HAE := hid hAe
      have HAL := hid hAl
      clear hsh HS hfu ga hR hst2 hAb hAe hAl HTT
      go_wp2_with fail
      refine (HRA.out _ H5.out.tab H5.out.se).mono ?_
      rintro e w5 ⟨rfl, hb5⟩
      have H6 := hid (H5.out.keep hb5)
      clear hb5 H5 HRA
      go_upto_region 12 with (refine wpList_store_row rfl _ _ _ rfl w5.heap.size _ rfl rfl _ _ (heap_alloc_new _ _) (by rw [sza]; exact info27) (by rw [sza]; rfl) (ints_one _ _) ?_)
      generalize hw6 : (w5.alloc _).setRow _ _ = w6
      have hb6 : Below w5.heap.size w5 w6 := by rw [← hw6]; exact below_setRow ((Below.refl _ _).alloc (Nat.le_refl _) _) (Nat.le_refl _) _
      have R6 := hid (show Row w6 w5.heap.size .u8 27 R from by rw [← hw6]; exact setRow_heap _ _ _ _ _ _ (heap_alloc_new _ _))
      have H7 := hid (H6.out.keep hb6)
      clear hw6 hb6 H6
      generalize w5.heap.size = q at *
      by_cases hn0 : F.length = 0
      · have HS0 := hid (fun wx hx => show_any 3 0 none [] 0 (by simp) (fun _ => rfl) (by simp) (by simp) (by simp) wx hx (fun i hi => absurd hi (by simp)))
        have hsl0 : (Tx.showL (Tx.limit 3) 0 []).length = 3 := by
          rw [show Tx.limit 3 = 3 from rfl, Tx.showL, if_pos (by decide), Tx.shows_length]
        generalize Tx.showL (Tx.limit 3) 0 [] = SH0 at *
        have hfz0 : ((F.length : Int) == 0) = true := by rw [beq_iff_eq]; omega
        have hfz1 : (F.length : Int) = 0 := by omega
        go_wp2_with fail
        refine (HS0.out _ H7.out.tab).mono ?_
        rintro e w7 ⟨vS, rfl, hown7, hb7⟩
        have H8 := hid (H7.out.keep hb7)
        obtain ⟨ao3, ca3, rfl, _⟩ := hown7.sums
        rw [hsl0]
        clear hown7 hb7 H7
        go_wp2_with fail
        go_ret
        exact ⟨rfl, H8.out.bel⟩
      · have hnp : 0 < F.length := by omega
        obtain ⟨j0, hj0, hand⟩ := and_le n2 255 (by decide)
        rw [show ((255 : Nat) : Int) = 255 from rfl] at hand
        obtain ⟨i, hi⟩ : ∃ i, i = j0 % F.length := ⟨_, rfl⟩
        have hil : i < F.length := by rw [hi]; exact Nat.mod_lt _ hnp
        have hie : (j0 : Int) % (F.length : Int) = (i : Int) := by rw [hi]; simp
        have him : (j0 : Int).tmod (F.length : Int) = (i : Int) := by rw [Int.tmod_eq_emod_of_nonneg (Int.natCast_nonneg j0)]; exact hie
        have hfz0 : ((F.length : Int) == 0) = false := by rw [beq_eq_false_iff_ne]; omega
        have hfz1 : ¬ (F.length : Int) = 0 := by omega
        clear hi
        go_wp2_with fail
        refine (HSH.out (i : Int) _ H7.out.tab H7.out.se).mono ?_
        rintro e w7 ⟨vS, rfl, hown7, hb7⟩
        have hip : Tx.isPos (i : Int) 3 = true := by unfold Tx.isPos; rw [decide_eq_true (by decide : (3 : Nat) ≤ 16), decide_eq_true (by omega : (0 : Int) ≤ (i : Int)), decide_eq_true (by omega : (i : Int) < ((2 ^ 3 : Nat) : Int))]; rfl
        rw [Tx.showL, if_pos hip, Int.toNat_natCast] at hown7
        have hho := HSM.out i (by omega)
        have HG := hid (HSD.out i)
        have hSl := HSL.out i
        generalize Tx.shows 3 i A 3 = SH at *
        have K7 := hid (show Sk w b b1 b2 b3 T F aoF ao2 A q R vS SH w7 from ⟨H7.out.keep hb7, R6.out.below hb7 R6.out.lt, hown7.sums⟩)
        obtain ⟨ao3, ca3, rfl, _⟩ := hown7.sums
        rw [hSl] at K7 ⊢
        clear hown7 hb7 HSH HSM HSD HSL H7 R6 hip hn0 him hie hand hj0
        obtain ⟨sb2, so2, hao2, _⟩ := K7.out.g.se i (by rw [HAL.out]; exact hil)
        subst hao2
        obtain ⟨ai, hai⟩ : ∃ ai, ai = A.getD i [] := ⟨_, rfl⟩
        have haib : ∀ x ∈ ai, x < 256 := fun x hx => HAB.out x (getD_mem_flatten A i x (by rw [← hai]; exact hx))
        have hail : ai.length ≤ 46 := by
          rw [hai, List.getD_eq_getElem?_getD, List.getElem?_eq_getElem (show i < A.length by rw [HAL.out]; exact hil)]
          exact HAE.out _ (List.getElem_mem _)
        rw [← hai] at hho
        have HHO := hid (fun wx hx hy => holds_any R HGA.out.1 HGA.out.2 (i : Int) ai haib (by omega) SH (fun f hf => (HG.out f hf).1) (fun f hf => (HG.out f hf).2) (by omega) ao3 ca3 wx hx hy)
        rw [hho, hSl] at HHO
        have HCX := hid (fun wx hx hy hz => clashX_any (i : Int) ai (ai ++ [33]) haib (by intro x hx; rcases List.mem_append.1 hx with h | h; exact haib x h; simp at h; omega) (by omega) (by simp; omega) SH SH (fun f hf => (HG.out f hf).1) (fun f hf => (HG.out f hf).2) (fun f hf => (HG.out f hf).1) (fun f hf => (HG.out f hf).2) (by omega) (by omega) ao3 ao3 ca3 ca3 wx hx hy hz)
        rw [hSl] at HCX
        have KAI := hid (fun u (hu : Sk w b b1 b2 b3 T F aoF (some ⟨sb2, so2, none⟩) A q R (.slice ao3 3 ca3) SH u) => (show u.cell? ⟨sb2, so2 + i, none⟩ = some (.string (str ai)) from by
          obtain ⟨_, _, e, h⟩ := hu.g.se i (by rw [HAL.out]; exact hil)
          cases e
          rw [hai]; exact h))
        have HAI := hid hai
        obtain ⟨XA, hXA⟩ : ∃ XA, XA = str ai := ⟨_, rfl⟩
        rw [← hXA] at HHO HCX KAI
        have HXA := hid (fun _ : Nat => hXA)
        clear hai hho hXA
        go_upto_region 16 with (fail)
        refine wp_region_class (Sk w b b1 b2 b3 T F aoF (some ⟨sb2, so2, none⟩) A q R (.slice ao3 3 ca3) SH) (by kernel_rfl) (by kernel_rfl) (K7.out.keep ((Below.refl _ _).drew)) ?_
        intro Z φ hne hSφ hφ
        have C1 := hid (fun z => calls_class hφ ((HHO.out (φ z) (hSφ z).g.tab (hSφ z).s).mono fun e w' h => ⟨h.1, (hSφ z).keep h.2⟩))
        have cz : ∀ z, (φ z).cell? ⟨sb2, so2 + i, none⟩ = some (.string XA) := fun z => KAI.out _ (hSφ z)
        have HSZ := hid hSφ
        clear hSφ hφ
        have hRz := hid (fun u (hu : ∃ z, u = φ z) => (show u.rangeAt q 0 (ints .u8 R).toList from by obtain ⟨z, rfl⟩ := hu; exact range_row (HSZ.out z).r))
        refine wpQuiet_load_arr rfl _ _ rfl q 0 rfl _ _ hRz.out Tryd.underlying27 rfl (by rw [Array.length_toList, sza]; exact info27) ?_
        simp only [Act.put, List.setIfInBounds_toArray, List.set_cons_zero, List.set_cons_succ]
        repeat (go_big_quiet_step (first | (go_at_call 11; exact C1.out _)))
        refine wpQuiet_nil ?_
        intro z
        have K8 := hid (HSZ.out z)
        clear C1 cz HSZ hRz K7 HHO
        generalize φ z = w8 at *
        clear hne
        have HSGI := hid (HSG.out i hil)
        go_wp2
        go_loopw [75] (fun x wr => ∃ k : Nat, k ≤ F.length ∧ x = .int .i64 k ∧ Sk w b b1 b2 b3 T F aoF (some ⟨sb2, so2, none⟩) A q R (.slice ao3 3 ca3) SH wr)
          (fun x _ => F.length - (intOf x).toNat)
        case atStart => exact ⟨0, by omega, rfl, K8.out⟩
        case round =>
          clear K8
          obtain ⟨k, hk, rfl, hsk⟩ := hrel
          have KS := hid hsk
          have ca := KAI.out _ hsk
          by_cases hlt : k < F.length
          · obtain ⟨_, _, eA, ck⟩ := hsk.g.se k (by rw [HAL.out]; exact hlt)
            cases eA
            obtain ⟨sb, so, eF, cf⟩ := hsk.g.tx k hlt
            subst eF
            have HOP := hid (fun wx hx => open_any b b1 b2 b3 ⟨T, Shn.upto F F.length, Shn.S T F F.length, [], []⟩ 1 (k : Int) Shn.page XA wx hx)
            have hakb : ∀ x ∈ A.getD k [], x < 256 := fun x hx => HAB.out x (getD_mem_flatten A k x hx)
            have hcmp := str_beq (A.getD k []) ai hakb haib
            rw [← HXA.out 0] at hcmp
            have hopn : Iv.open_ (Shn.S T F F.length) (1, k) Shn.page XA = if A.getD k [] = ai then (str (F.getD k []), true) else (⟨#[]⟩, false) := by
              rw [HXA.out 0]
              unfold Iv.open_
              rw [HSG.out k hlt, ← HAG.out k hlt]
              by_cases e : A.getD k [] = ai
              · rw [if_pos e, e]; simp
              · rw [if_neg e]
                have : str (A.getD k []) ≠ str ai := fun h => e (by
                  have := congrArg nums h
                  rwa [nums_str _ hakb, nums_str _ haib] at this)
                exact if_neg (fun h => this h.2)
            simp only at HOP
            rw [show Iv.lim 1 = 1 from rfl, Iv.lim_of k (by omega), hopn] at HOP
            unfold Shn.page at HOP
            obtain ⟨KT, hKT⟩ : ∃ KT, KT = str (F.getD k []) := ⟨_, rfl⟩
            rw [← hKT] at HOP cf
            obtain ⟨ak, hak⟩ : ∃ ak, ak = A.getD k [] := ⟨_, rfl⟩
            rw [← hak] at HOP ck hcmp
            have HCK := hid (fun u (hu : Sk w b b1 b2 b3 T F (some ⟨sb, so, none⟩) (some ⟨sb2, so2, none⟩) A q R (.slice ao3 3 ca3) SH u) => (show u.cell? ⟨sb2, so2 + k, none⟩ = some (.string (str ak)) ∧ u.cell? ⟨sb, so + k, none⟩ = some (.string KT) from by
              obtain ⟨_, _, e, h⟩ := hu.g.se k (by rw [HAL.out]; exact hlt)
              cases e
              obtain ⟨_, _, e2, h2⟩ := hu.g.tx k hlt
              cases e2
              rw [hak, hKT]; exact ⟨h, h2⟩))
            clear hak hKT hopn hakb hsk cf ck
            by_cases hki : ak = ai
            · rw [if_pos hki] at HOP
              have hXk : str ak = XA := by rw [hki]; exact (HXA.out 0).symm
              rw [hXk] at HCK
              clear hcmp hki hXk
              go_wp2_with fail
              refine (HOP.out _ KS.out.g.su).mono ?_
              rintro e w9 ⟨rfl, hb9⟩
              have K9 := hid (KS.out.keep hb9)
              obtain ⟨ck9, cf9⟩ := HCK.out _ K9.out
              have ca9 := KAI.out _ K9.out
              have hbk : (k : Int) < (F.length : Int) := by omega
              have hbi : (i : Int) < (F.length : Int) := by omega
              clear hb9 KS HOP HCK ca
              go_upto_region 22 with (fail)
              go_quiet (fail)
              go_wp2
              exact ⟨⟨k + 1, by omega, by go_num, K9.out.keep ⟨rfl, rfl, rfl, Nat.le_refl _, fun _ _ => rfl⟩⟩, by simp [intOf]; omega⟩
            · rw [if_neg hki] at HOP
              rw [show (ak == ai) = false from by rw [beq_eq_false_iff_ne]; exact hki] at hcmp
              go_wp2_with fail
              refine (HOP.out _ KS.out.g.su).mono ?_
              rintro e w9 ⟨rfl, hb9⟩
              have K9 := hid (KS.out.keep hb9)
              obtain ⟨ck9, cf9⟩ := HCK.out _ K9.out
              have ca9 := KAI.out _ K9.out
              have hbk : (k : Int) < (F.length : Int) := by omega
              have hbi : (i : Int) < (F.length : Int) := by omega
              clear hb9 KS HOP HCK ca hki
              generalize str ak = XK at *
              go_upto_region 22 with (fail)
              go_quiet (fail)
              go_wp2
              exact ⟨⟨k + 1, by omega, by go_num, K9.out.keep ⟨rfl, rfl, rfl, Nat.le_refl _, fun _ _ => rfl⟩⟩, by simp [intOf]; omega⟩
          · obtain rfl : k = F.length := by omega
            have hbi : (i : Int) < (F.length : Int) := by omega
            have hcat : XA ++ ⟨#[33]⟩ = str (ai ++ [33]) := by rw [HXA.out 0, ← str_append]; rfl
            have hXs : XA.size ≤ 9223372036854775806 := by rw [HXA.out 0, str_size]; omega
            clear hsk
            go_wp2
            clear hcF haF ca
            refine wp_region_noPanic ?_
            refine wp_region_held_drew (S := Sk w b b1 b2 b3 T F aoF (some ⟨sb2, so2, none⟩) A q R (.slice ao3 3 ca3) SH) (by kernel_rfl) (KS.out.keep ((Below.refl _ _).drew)) (fun hS1 => ?_)
            change wpAnyH _ _ _ _ _ 20 _ _ _
            refine wpAnyH_take (i := 0) (oi := ?oi2) (v := .int .i64 i) ?hi2 (by kernel_rfl) (by kernel_rfl) (by kernel_rfl) (fun _ _ _ h => h) ?hy2 hS1 ?rest2
            case hi2 => simp only [List.getElem?_toArray, List.getElem?_cons_zero]; rfl
            case hy2 => exact Or.inl ⟨rfl, fun _ hSw => by go_simp⟩
            simp only [Act.put, List.setIfInBounds_toArray, List.set_cons_zero, List.set_cons_succ]
            refine wpAnyH_take (i := 1) (oi := ?oi3) (v := .slice (some ⟨sb2, so2, none⟩) F.length cap2) ?hi3 (by kernel_rfl) (by kernel_rfl) (by kernel_rfl) (fun _ _ _ h => h) ?hy3 hS1 ?rest3
            case hi3 => simp only [List.getElem?_toArray, List.getElem?_cons_succ, List.getElem?_cons_zero]; rfl
            case hy3 => exact Or.inl ⟨rfl, fun _ hSw => by go_simp⟩
            simp only [Act.put, List.setIfInBounds_toArray, List.set_cons_zero, List.set_cons_succ]
            refine wpAnyH_take (i := 2) (oi := ?oi4) (v := .int .i64 i) ?hi4 (by kernel_rfl) (by kernel_rfl) (by kernel_rfl) (fun _ _ _ h => h) ?hy4 hS1 ?rest4
            case hi4 => simp only [List.getElem?_toArray, List.getElem?_cons_succ, List.getElem?_cons_zero]; rfl
            case hy4 => exact Or.inl ⟨rfl, fun _ hSw => by go_simp⟩
            simp only [Act.put, List.setIfInBounds_toArray, List.set_cons_zero, List.set_cons_succ]
            refine wpAnyH_take (i := 3) (oi := ?oi5) (v := .pointer (some ⟨sb2, so2 + i, none⟩)) ?hi5 (by kernel_rfl) (by kernel_rfl) (by kernel_rfl) (fun _ _ _ h => h) ?hy5 hS1 ?rest5
            case hi5 => simp only [List.getElem?_toArray, List.getElem?_cons_succ, List.getElem?_cons_zero]; rfl
            case hy5 => exact Or.inl ⟨rfl, fun _ hSw => by go_simp⟩
            simp only [Act.put, List.setIfInBounds_toArray, List.set_cons_zero, List.set_cons_succ]
            refine wpAnyH_take (i := 4) (oi := ?oi6) (v := .string XA) ?hi6 (by kernel_rfl) (by kernel_rfl) (by kernel_rfl) (fun _ _ _ h => h) ?hy6 hS1 ?rest6
            case hi6 => simp only [List.getElem?_toArray, List.getElem?_cons_succ, List.getElem?_cons_zero]; rfl
            case hy6 => exact Or.inl ⟨rfl, fun _ hSw => by have hc := KAI.out _ hSw; go_simp⟩
            simp only [Act.put, List.setIfInBounds_toArray, List.set_cons_zero, List.set_cons_succ]
            refine wpAnyH_take (i := 5) (oi := ?oi7) (v := .slice ao3 3 ca3) ?hi7 (by kernel_rfl) (by kernel_rfl) (by kernel_rfl) (fun _ _ _ h => h) ?hy7 hS1 ?rest7
            case hi7 => simp only [List.getElem?_toArray, List.getElem?_cons_succ, List.getElem?_cons_zero]; rfl
            case hy7 => exact Or.inl ⟨rfl, fun _ hSw => by go_simp⟩
            simp only [Act.put, List.setIfInBounds_toArray, List.set_cons_zero, List.set_cons_succ]
            refine wpAnyH_take (i := 6) (oi := ?oi8) (v := .slice (some ⟨sb2, so2, none⟩) F.length cap2) ?hi8 (by kernel_rfl) (by kernel_rfl) (by kernel_rfl) (fun _ _ _ h => h) ?hy8 hS1 ?rest8
            case hi8 => simp only [List.getElem?_toArray, List.getElem?_cons_succ, List.getElem?_cons_zero]; rfl
            case hy8 => exact Or.inl ⟨rfl, fun _ hSw => by go_simp⟩
            simp only [Act.put, List.setIfInBounds_toArray, List.set_cons_zero, List.set_cons_succ]
            refine wpAnyH_take (i := 7) (oi := ?oi9) (v := .int .i64 i) ?hi9 (by kernel_rfl) (by kernel_rfl) (by kernel_rfl) (fun _ _ _ h => h) ?hy9 hS1 ?rest9
            case hi9 => simp only [List.getElem?_toArray, List.getElem?_cons_succ, List.getElem?_cons_zero]; rfl
            case hy9 => exact Or.inl ⟨rfl, fun _ hSw => by go_simp⟩
            simp only [Act.put, List.setIfInBounds_toArray, List.set_cons_zero, List.set_cons_succ]
            refine wpAnyH_take (i := 8) (oi := ?oi10) (v := .pointer (some ⟨sb2, so2 + i, none⟩)) ?hi10 (by kernel_rfl) (by kernel_rfl) (by kernel_rfl) (fun _ _ _ h => h) ?hy10 hS1 ?rest10
            case hi10 => simp only [List.getElem?_toArray, List.getElem?_cons_succ, List.getElem?_cons_zero]; rfl
            case hy10 => exact Or.inl ⟨rfl, fun _ hSw => by go_simp⟩
            simp only [Act.put, List.setIfInBounds_toArray, List.set_cons_zero, List.set_cons_succ]
            refine wpAnyH_take (i := 9) (oi := ?oi11) (v := .string XA) ?hi11 (by kernel_rfl) (by kernel_rfl) (by kernel_rfl) (fun _ _ _ h => h) ?hy11 hS1 ?rest11
            case hi11 => simp only [List.getElem?_toArray, List.getElem?_cons_succ, List.getElem?_cons_zero]; rfl
            case hy11 => exact Or.inl ⟨rfl, fun _ hSw => by have hc := KAI.out _ hSw; go_simp⟩
            simp only [Act.put, List.setIfInBounds_toArray, List.set_cons_zero, List.set_cons_succ]
            refine wpAnyH_take (i := 10) (oi := ?oi12) (v := .string (str (ai ++ [33]))) ?hi12 (by kernel_rfl) (by kernel_rfl) (by kernel_rfl) (fun _ _ _ h => h) ?hy12 hS1 ?rest12
            case hi12 => simp only [List.getElem?_toArray, List.getElem?_cons_succ, List.getElem?_cons_zero]; rfl
            case hy12 => exact Or.inl ⟨rfl, fun _ hSw => by go_simp⟩
            simp only [Act.put, List.setIfInBounds_toArray, List.set_cons_zero, List.set_cons_succ]
            refine wpAnyH_take (i := 11) (oi := ?oi13) (v := .slice ao3 3 ca3) ?hi13 (by kernel_rfl) (by kernel_rfl) (by kernel_rfl) (fun _ _ _ h => h) ?hy13 hS1 ?rest13
            case hi13 => simp only [List.getElem?_toArray, List.getElem?_cons_succ, List.getElem?_cons_zero]; rfl
            case hy13 => exact Or.inl ⟨rfl, fun _ hSw => by go_simp⟩
            simp only [Act.put, List.setIfInBounds_toArray, List.set_cons_zero, List.set_cons_succ]
            refine wpAnyH_ready (rs := [12]) (by kernel_rfl) (by simp) ?_
            refine AllReadyH.cons (o := ?oi14) ?hi14 ?step14 AllReadyH.nil
            case hi14 => simp only [List.getElem?_toArray, List.getElem?_cons_succ, List.getElem?_cons_zero]; rfl
            intro K hK
            go_simp
            refine (HCX.out _ hS1.g.tab hS1.s hS1.s).mono ?_
            rintro e w9 ⟨⟨x, y, is, rfl, hm⟩, hb9⟩
            refine hK.out _ _ (hS1.keep hb9) (fun hS2 => ?_)
            clear hK K
            try simp only [Act.put, List.setIfInBounds_toArray, List.set_cons_zero, List.set_cons_succ]
            refine wpAnyH_take (i := 13) (oi := ?oi15) (v := .tuple #[.string (str x), .string (str y), .bool is]) ?hi15 (by kernel_rfl) (by kernel_rfl) (by kernel_rfl) (fun _ _ _ h => h) ?hy15 hS2 ?rest15
            case hi15 => simp only [List.getElem?_toArray, List.getElem?_cons_succ, List.getElem?_cons_zero]; rfl
            case hy15 => exact Or.inl ⟨rfl, fun _ hSw => by go_simp⟩
            simp only [Act.put, List.setIfInBounds_toArray, List.set_cons_zero, List.set_cons_succ]
            refine wpAnyH_take (i := 14) (oi := ?oi16) (v := .string (str x)) ?hi16 (by kernel_rfl) (by kernel_rfl) (by kernel_rfl) (fun _ _ _ h => h) ?hy16 hS2 ?rest16
            case hi16 => simp only [List.getElem?_toArray, List.getElem?_cons_succ, List.getElem?_cons_zero]; rfl
            case hy16 => exact Or.inl ⟨rfl, fun _ hSw => by go_simp⟩
            simp only [Act.put, List.setIfInBounds_toArray, List.set_cons_zero, List.set_cons_succ]
            refine wpAnyH_take (i := 15) (oi := ?oi17) (v := .string (str y)) ?hi17 (by kernel_rfl) (by kernel_rfl) (by kernel_rfl) (fun _ _ _ h => h) ?hy17 hS2 ?rest17
            case hi17 => simp only [List.getElem?_toArray, List.getElem?_cons_succ, List.getElem?_cons_zero]; rfl
            case hy17 => exact Or.inl ⟨rfl, fun _ hSw => by go_simp⟩
            simp only [Act.put, List.setIfInBounds_toArray, List.set_cons_zero, List.set_cons_succ]
            refine wpAnyH_take (i := 16) (oi := ?oi18) (v := .bool is) ?hi18 (by kernel_rfl) (by kernel_rfl) (by kernel_rfl) (fun _ _ _ h => h) ?hy18 hS2 ?rest18
            case hi18 => simp only [List.getElem?_toArray, List.getElem?_cons_succ, List.getElem?_cons_zero]; rfl
            case hy18 => exact Or.inl ⟨rfl, fun _ hSw => by go_simp⟩
            simp only [Act.put, List.setIfInBounds_toArray, List.set_cons_zero, List.set_cons_succ]
            refine wpAnyH_take (i := 17) (oi := ?oi19) (v := .string (str x)) ?hi19 (by kernel_rfl) (by kernel_rfl) (by kernel_rfl) (fun _ _ _ h => h) ?hy19 hS2 ?rest19
            case hi19 => simp only [List.getElem?_toArray, List.getElem?_cons_succ, List.getElem?_cons_zero]; rfl
            case hy19 => exact Or.inl ⟨rfl, fun _ hSw => by go_simp⟩
            simp only [Act.put, List.setIfInBounds_toArray, List.set_cons_zero, List.set_cons_succ]
            refine wpAnyH_take (i := 18) (oi := ?oi20) (v := .string (str y)) ?hi20 (by kernel_rfl) (by kernel_rfl) (by kernel_rfl) (fun _ _ _ h => h) ?hy20 hS2 ?rest20
            case hi20 => simp only [List.getElem?_toArray, List.getElem?_cons_succ, List.getElem?_cons_zero]; rfl
            case hy20 => exact Or.inl ⟨rfl, fun _ hSw => by go_simp⟩
            simp only [Act.put, List.setIfInBounds_toArray, List.set_cons_zero, List.set_cons_succ]
            refine wpAnyH_take (i := 19) (oi := ?oi21) (v := .bool is) ?hi21 (by kernel_rfl) (by kernel_rfl) (by kernel_rfl) (fun _ _ _ h => h) ?hy21 hS2 ?rest21
            case hi21 => simp only [List.getElem?_toArray, List.getElem?_cons_succ, List.getElem?_cons_zero]; rfl
            case hy21 => exact Or.inl ⟨rfl, fun _ hSw => by go_simp⟩
            simp only [Act.put, List.setIfInBounds_toArray, List.set_cons_zero, List.set_cons_succ]
            refine wpAnyH_done (by kernel_rfl) ?_ _
            refine NoPanic.normal ?_
            have K9 := hid hS2
            clear hS1 hS2 hb9 KS HCX KAI hcat hXs
            rcases hm with ⟨rfl, h1, h2, h3, h4, h5⟩ | ⟨rfl, rfl, rfl, _⟩
            · have hxy : ((str x).toList == (str y).toList) = (x == y) := str_beq x y h4.1 h5.1
              rw [show (x == y) = false from by simpa using h2] at hxy
              have HOX := hid (fun wx hx => of_one x h4.1 (by omega) wx hx 9)
              have HOY := hid (fun wx hx => of_one y h5.1 (by omega) wx hx 9)
              have heq := fun wx => neq_sums wx (Sx.digest x) (Sx.digest y) (digest_lt x) (digest_lt y) (digest_length x) (digest_length y)
              rw [show (Sx.digest x == Sx.digest y) = true from by rw [h3]; exact beq_self_eq_true _] at heq
              have heq2 := fun wx => eql_sums wx (Sx.digest x) (Sx.digest y) (digest_lt x) (digest_lt y) (digest_length x) (digest_length y)
              rw [show (Sx.digest x == Sx.digest y) = true from by rw [h3]; exact beq_self_eq_true _] at heq2
              clear h1 h2 h3 h4 h5
              generalize Sx.digest x = DX at *
              generalize Sx.digest y = DY at *
              generalize str x = X at *
              generalize str y = Y at *
              go_wp2_with fail
              refine (HOX.out _ K9.out.g.tab).mono ?_
              rintro e wa ⟨rfl, hba⟩
              have KA := hid (K9.out.keep hba)
              clear hba K9
              go_wp2_with fail
              refine (HOY.out _ KA.out.g.tab).mono ?_
              rintro e wb ⟨rfl, hbb⟩
              have KB := hid (KA.out.keep hbb)
              clear hbb KA
              go_wp2_with fail
              go_ret
              exact ⟨rfl, KB.out.g.bel⟩
            · rw [show str ([] : List Nat) = ⟨#[]⟩ from rfl]
              go_wp2_with fail
              go_ret
              exact ⟨rfl, K9.out.g.bel⟩


set_option maxRecDepth 100000 in
theorem contract (H : Type) (enc : TypeId × Value → H) (W : World) (base : Nat) (args : Array Value) (ds gs : List (DataW H)) (before : List MemPlace)
    (hval : ∀ (j : Nat) t v, Tryd.f3.params[j]? = some t → args[j]? = some v → Value.okWide Tryd.prog W .any base t v)
    (hW : DataW.Whole enc Tryd.prog Tryd.f3.params.toList Rows.sealwaxShownSpec.vars false W args.toList ds gs before) (hL : laidMetH Tryd.prog Rows.sealwaxShownRow.laid W) :
    Calls Tryd.prog 3 args W fun e W' => ∃ v, e = .returned v ∧ Rows.sealwaxShownSpec.post enc Tryd.prog Tryd.f3 false true false false W args v W' := by
  have hW' := hW
  obtain ⟨p, q, hA0, hV, rfl, hfz, hnd⟩ := hW
  have hA : DataW.TrodAll enc Tryd.prog W 0 (fun _ => true) true Tryd.f3.params.toList args.toList ds p := hA0
  rw [Tryd.params3] at hA hval
  obtain ⟨v0, vs0, d0, ds0, p0, q0, hargs, rfl, rfl, h0, r0⟩ := trodAll_cons hA
  obtain ⟨v1, vs1, d1, ds1, p1, q1, rfl, rfl, rfl, h1, r1⟩ := trodAll_cons r0
  obtain ⟨v2, vs2, d2, ds2, p2, q2, rfl, rfl, rfl, h2, r2⟩ := trodAll_cons r1
  obtain ⟨rfl, rfl, rfl⟩ := trodAll_nil r2
  obtain rfl : args = #[v0, v1, v2] := by cases args; simp_all
  obtain ⟨s0, rfl, rfl, rfl, hs0⟩ := Go.ChangeMaps.open_string Tryd.underlying9 (hval 0 9 v0 rfl rfl) h0
  obtain ⟨ao1, L1, cap1, rfl, hL1, hb1⟩ := open_strs (hval 1 22 v1 rfl rfl) h1
  obtain ⟨n2, rfl, rfl, rfl, wn2⟩ := open_int Tryd.underlying3 (hval 2 3 v2 rfl rfl) h2
  refine (walk s0 hs0 ao1 L1 cap1 n2 W (tabsS_of hL) hL1 hb1.1 hb1.2).mono fun e W' ⟨he, hb⟩ => ?_
  subst he
  exact ⟨_, rfl, law_post rfl rfl (by rw [Tryd.params3]; decide +kernel) hW' rfl hb⟩

theorem laid_met (os : Os) : laidMet Tryd.prog Rows.sealwaxShownRow.laid ((laidWorld os).forCall (fun _ _ => 0) ⟨#[], #[.string ByteArray.empty, .slice none 0 0, .int .i64 0], []⟩).memory :=
  laidMet_of_run' 8 (by kernel_rfl) (by kernel_rfl)
theorem reads (os : Os) {H : Type} (enc : TypeId × Value → H) : ∃ places, DataW.whole enc Tryd.prog ((laidWorld os).forCall (fun _ _ => 0) ⟨#[], #[.string ByteArray.empty, .slice none 0 0, .int .i64 0], []⟩).memory Tryd.f3.params.toList Rows.sealwaxShownSpec.vars false (#[.string ByteArray.empty, .slice none 0 0, .int .i64 0] : Array Value).toList 8
    = some ([.lit (.string []), .nil, .lit (.int .i64 0)], [], places) :=
  ⟨[], by kernel_rfl⟩

set_option maxRecDepth 100000 in
theorem lifted (os : Os) (started : os.Started) (H : Type) (enc : TypeId × Value → H) (F : Stop.Interp) :
    ReturnsInHanded {} Tryd.checked os 3 .any ((OpenSpec.ofChange Rows.sealwaxShownSpec).preRow enc Tryd.prog Tryd.f3 Rows.sealwaxShownRow.domain false Rows.sealwaxShownRow.laid) (((OpenSpec.ofChange Rows.sealwaxShownSpec).at F).post enc Tryd.prog Tryd.f3 false true false false) := by
  obtain ⟨places, hx⟩ := reads os enc
  refine returnsInHanded_of_row (C := Tryd.checked) (s := OpenSpec.ofChange Rows.sealwaxShownSpec) own started (by kernel_rfl) Tryd.func3
    (witness_row_at (enc := enc) (C := Tryd.checked) false (laidWorld os) #[.string ByteArray.empty, .slice none 0 0, .int .i64 0] rfl (by kernel_rfl) (by kernel_rfl) (by kernel_rfl)
      (OpenSpec.preRow_of_cond 8 hx (by kernel_rfl) (fun k hk => by cases hk) (by kernel_rfl) (laid_met os))) ?_
  intro W base args ds gs before hval hW _ _ _ hL _ _
  exact contract H enc W base args ds gs before hval hW hL

theorem said : Rows.SealwaxShownSaid :=
  OpenClaim.holds_of_cond 3 Tryd.f3 rfl rfl rfl rfl rfl rfl rfl ⟨rfl, rfl, rfl, rfl, rfl⟩ rfl rfl rfl rfl rfl (by kernel_rfl) Tryd.func3 (by kernel_rfl)
    (of_decide_eq_true (by kernel_rfl)) (by unfold Func.isWrapper; first | (rw [if_pos (by decide +kernel)]; kernel_rfl) | (rw [if_neg (by decide +kernel)]; exact ⟨rfl, rfl⟩))
    (fun os started H enc _ F => by rw [OpenClaim.pre_eq_preRow]; exact lifted os started H enc F)

theorem plain (f : FuncId) (fn : Func) (hf : Tryd.pinned.checked.prog.funcNamed "sealwax/sealwaxtop.SealwaxShown" = some f) (hfn : Tryd.pinned.checked.prog.funcs[f]? = some fn) :
    false = Tryd.pinned.checked.prog.looks [] ∧ ∀ (j : Nat) t, fn.params[j]? = some t → Tryd.pinned.checked.prog.wantsStandIn t = false := by
  obtain rfl : f = 3 := Option.some.inj ((show Tryd.prog.funcNamed "sealwax/sealwaxtop.SealwaxShown" = some 3 by kernel_rfl).symm.trans hf) |>.symm
  obtain rfl : fn = Tryd.f3 := (Option.some.inj (Tryd.func3.symm.trans hfn)).symm
  refine ⟨by kernel_rfl, fun j t ht => ?_⟩
  rw [Tryd.params3] at ht
  have hmem := Array.mem_of_getElem? ht
  exact (show ∀ t ∈ (Tryd.f3.params), Tryd.prog.wantsStandIn t = false from by rw [Tryd.params3]; decide +kernel) t (by rw [Tryd.params3]; exact hmem)

theorem card : Rows.SealwaxShownCardSaid :=
  Claim7.holds_tied_plain_at .later [] _ _ _ _ said (fun _ h => by cases h) (by kernel_rfl) (fun _ h => by cases h) sealwaxShown_row_tie rfl ⟨rfl, rfl⟩ (by kernel_rfl) rfl plain (by kernel_rfl)

end SealwaxShown
theorem sealwaxShown_card : Rows.SealwaxShownCardSaid := SealwaxShown.card
end Go.Proofs.YtnhecallffkedabDoor
