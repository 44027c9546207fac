/-
  Layer 7: what tree.Root returns.
-/
import Derived.Test.YtnhecallffkedabDoorBase
import Derived.Test.YtnhecallffkedabDoorTree5
namespace Go.Proofs.YtnhecallffkedabDoor
open Go.RowKit
open Go.Lib (hid)

namespace Tx
/-- The level of height k: its first sums, and the one that is everywhere else. -/
def fst (F : List (List Nat)) (r : List Nat) : Nat → List (List Nat) × List Nat
  | 0 => (F, r)
  | k + 1 => (up (fst F r k).1 (fst F r k).2, hn (fst F r k).2 (fst F r k).2)
/-- A level's sums are sums. -/
def Good (p : List (List Nat) × List Nat) : Prop := (∀ f ∈ p.1, f.length = 32) ∧ (∀ f ∈ p.1, ∀ x ∈ f, x < 256) ∧ p.2.length = 32 ∧ (∀ x ∈ p.2, x < 256) ∧ p.1.length ≤ 1000
theorem Good.up {p : List (List Nat) × List Nat} (h : Good p) : Good (Tx.up p.1 p.2, hn p.2 p.2) := by
  refine ⟨?_, ?_, hn_length _ _, hn_lt _ _, ?_⟩
  · intro f hf
    simp only [Tx.up, upN, List.mem_map] at hf
    obtain ⟨i, _, rfl⟩ := hf
    exact hn_length _ _
  · intro f hf
    simp only [Tx.up, upN, List.mem_map] at hf
    obtain ⟨i, _, rfl⟩ := hf
    exact hn_lt _ _
  · have := h.2.2.2.2
    rw [Tx.up, upN_length]; omega
theorem good_fst {F : List (List Nat)} {r : List Nat} (h : Good (F, r)) : ∀ k, Good (fst F r k)
  | 0 => h
  | k + 1 => (good_fst h k).up
theorem good_leaves (L : List (List Nat)) (h : L.length ≤ 1000) : Good (L.map hl, hl []) := by
  refine ⟨?_, ?_, hl_length _, hl_lt _, by simpa using h⟩
  · intro f hf
    simp only [List.mem_map] at hf
    obtain ⟨t, _, rfl⟩ := hf
    exact hl_length _
  · intro f hf
    simp only [List.mem_map] at hf
    obtain ⟨t, _, rfl⟩ := hf
    exact hl_lt _
/-- All levels of a tree of depth d whose first texts are these. -/
def lev (d : Nat) (L : List (List Nat)) (k : Nat) : List (List Nat) × List Nat := fst ((L.take (2 ^ d)).map hl) (hl []) k
theorem good_lev (d : Nat) (L : List (List Nat)) (h : L.length ≤ 1000) (k : Nat) : Good (lev d L k) := good_fst (good_leaves _ (by simp; omega)) k
/-- The sum at place i of height k. -/
def sumAt (d : Nat) (L : List (List Nat)) (k i : Nat) : List Nat := (lev d L k).1.getD i (lev d L k).2
def root (d : Nat) (L : List (List Nat)) : List Nat := sumAt d L d 0
theorem sumAt_good (d : Nat) (L : List (List Nat)) (h : L.length ≤ 1000) (k i : Nat) : (sumAt d L k i).length = 32 ∧ ∀ x ∈ sumAt d L k i, x < 256 := by
  have g := good_lev d L h k
  unfold sumAt
  by_cases hi : i < (lev d L k).1.length
  · have : (lev d L k).1.getD i (lev d L k).2 ∈ (lev d L k).1 := by simp [List.getD_eq_getElem?_getD, hi]
    exact ⟨g.1 _ this, g.2.1 _ this⟩
  · rw [show (lev d L k).1.getD i (lev d L k).2 = (lev d L k).2 from by simp [List.getD_eq_getElem?_getD, List.getElem?_eq_none (show (lev d L k).1.length ≤ i by omega)]]
    exact ⟨g.2.2.1, g.2.2.2.1⟩
end Tx
theorem OwnU.setRow {w : World} {base : Nat} {v : Value} {F : List (List Nat)} (h : OwnU w base v F) (q : Nat) (hq : q < base) (cs : Array Value) : OwnU (w.setRow q cs) base v F := by
  obtain ⟨o1, o2, o3 | ⟨g, c, cur, hv, hg, hh, rr⟩⟩ := h
  · exact ⟨o1, o2, Or.inl o3⟩
  · exact ⟨o1, o2, Or.inr ⟨g, c, cur, hv, hg, by rw [setRow_other _ _ _ _ (by omega)]; exact hh, rr⟩⟩
theorem OwnU.one {w : World} {base : Nat} {v : Value} {F : List (List Nat)} (h : OwnU w base v F) : v.oneCell' = true := by
  obtain ⟨a1, c1, h1, _⟩ := h.sums; rw [h1]; rfl
/-- A level lies at q. -/
structure Rs (w : World) (z q : Nat) (p : List (List Nat) × List Nat) (u : World) : Prop where
  lv : ∃ v, u.heap[q]? = some (.cells (lvC v p.2) 53 (0, 0)) ∧ ∃ base, OwnU u base v p.1
  res : Row u z .u8 27 (List.replicate 32 0)
  bel : Below w.heap.size w u

set_option maxHeartbeats 2000000 in
set_option maxRecDepth 100000 in
theorem root_any (d : Int) (ao : Option Addr) (L : List (List Nat)) (cap : Nat) (hcap : L.length ≤ cap) (hao : ao = none → cap = 0) (hL : L.length ≤ 1000) (hb : ∀ x ∈ L.flatten, x < 256) (hlen : ∀ t ∈ L, t.length ≤ 1000000) (w : World) (hT : Tabs w) (hA : Strs w ao L) :
    Calls Tryd.prog 6 #[.int .i64 d, .slice ao L.length cap] w fun e w' => e = .returned (.agg (ints .u8 (Tx.root (Tx.limit d) L))) ∧ Below w.heap.size w w' := by
  have HLI := hid (fun wx => limited_any d wx)
  have hd := Tx.limit_le d
  have HG := hid (Tx.good_lev (Tx.limit d) L hL)
  have HRL := hid (Tx.sumAt_good (Tx.limit d) L hL (Tx.limit d) 0)
  generalize Tx.limit d = D at *
  have HBO := hid (fun wx hx hy => bottom_any D hd ao L cap hcap hao hL hb hlen wx hx hy)
  rw [show (L.take (2 ^ D)).map Tx.hl = (Tx.lev D L 0).1 from rfl, show Tx.hl [] = (Tx.lev D L 0).2 from rfl] at HBO
  have HT := hid hT
  have HA := hid hA
  clear hT hA hb hlen hcap hao
  go_enter Tryd.func6, Tryd.ntmps6
  go_wp2_with fail
  refine (HLI.out _).mono ?_
  rintro e w1 ⟨rfl, hw1⟩
  subst hw1
  generalize hw1 : w.alloc _ = w1
  have HZ := hid (show Row w1 w.heap.size .u8 27 (List.replicate 32 0) from by rw [← hw1]; unfold Row; rw [heap_alloc_new]; kernel_rfl)
  have HB1 := hid (show Below w.heap.size w w1 from by rw [← hw1]; exact (Below.refl _ _).alloc (Nat.le_refl _) _)
  clear hw1
  go_wp2_with fail
  refine (HBO.out _ (HT.out.below HB1.out (Nat.le_refl _)) (HA.out.below HB1.out)).mono ?_
  rintro e w2 ⟨v0, rfl, ho2, hb2⟩
  have HO2 := hid ho2
  have HB2 := hid hb2
  have h33 : (lvC v0 (Tx.lev D L 0).2).size = 33 := lvC_size _ _ (HG.out 0).2.2.1
  have h1c := ho2.one
  clear ho2 hb2 HBO HLI HA
  go_upto_region 4 with (refine wpList_store_row rfl _ _ _ rfl w2.heap.size _ rfl rfl _ _ (heap_alloc_new _ _) (by rw [h33]; exact info51) (by rw [h33]; rfl) (lvC_one _ h1c _) ?_)
  generalize hw3 : (w2.alloc _).setRow _ _ = w3
  have hzq : w.heap.size < w2.heap.size := Nat.lt_of_lt_of_le HZ.out.lt HB2.out.size
  have HS3 := hid (show Rs w w.heap.size w2.heap.size (Tx.lev D L 0) w3 from by
    have hb3 : Below w2.heap.size w2 w3 := by rw [← hw3]; exact below_setRow ((Below.refl _ _).alloc (Nat.le_refl _) _) (Nat.le_refl _) _
    have hbw : Below w.heap.size w w2 := HB1.out.trans (HB2.out.mono HB1.out.size)
    refine ⟨⟨v0, ?_, _, HO2.out.below hb3⟩, (HZ.out.below HB2.out HZ.out.lt).below hb3 hzq, hbw.trans (hb3.mono hbw.size)⟩
    rw [← hw3]; exact setRow_heap _ _ _ _ _ _ (heap_alloc_new _ _))
  clear hw3 HZ HB1 HB2 HO2 h33 h1c
  generalize w2.heap.size = q at *
  go_loopw [12] (fun i wr => ∃ k : Nat, k ≤ D ∧ i = .int .i64 k ∧ Rs w w.heap.size q (Tx.lev D L k) wr)
    (fun i _ => D - (intOf i).toNat)
  case atStart => exact ⟨0, by omega, rfl, HS3.out⟩
  case round =>
    clear HS3
    obtain ⟨k, hk, rfl, hS⟩ := hrel
    obtain ⟨v, hlv, base, hO⟩ := hS.lv
    have g := HG.out k
    have h33 : (lvC v (Tx.lev D L k).2).size = 33 := lvC_size _ _ g.2.2.1
    have hq := (Array.getElem?_eq_some_iff.1 hlv).1
    have HLV := hid hlv
    have HO := hid hO
    have HRS := hid hS.res
    have HBL := hid hS.bel
    clear hS hlv hO
    by_cases hlt : k < D
    · have HAB := hid (fun wx hx hy => above_any v (Tx.lev D L k).1 (Tx.lev D L k).2 g.1 g.2.1 g.2.2.1 g.2.2.2.1 (by have := g.2.2.2.2; omega) wx hx hy)
      rw [show Tx.hn (Tx.lev D L k).2 (Tx.lev D L k).2 = (Tx.lev D L (k + 1)).2 from rfl, show Tx.up (Tx.lev D L k).1 (Tx.lev D L k).2 = (Tx.lev D L (k + 1)).1 from rfl] at HAB
      have hn3 := (HG.out (k + 1)).2.2.1
      have g1 : (k : Int) < D := by omega
      generalize hp1 : Tx.lev D L (k + 1) = p1 at *
      have HP1 := hid hp1
      clear hp1
      clear g
      generalize Tx.lev D L k = p0 at *
      generalize lvC v p0.2 = LV at *
      go_wp2_with (refine wpList_load_row rfl _ _ rfl q rfl _ _ _ _ HLV.out Tryd.underlying53 rfl (by rw [h33]; exact info51) ?_)
      refine (HAB.out _ (HT.out.below HBL.out (Nat.le_refl _)) HO.out.sums).mono ?_
      rintro e w5 ⟨v1, rfl, ho5, hb5⟩
      have h34 : (lvC v1 p1.2).size = 33 := lvC_size _ _ hn3
      have HL5 := hid (show w5.heap[q]? = some (.cells LV 53 (0, 0)) from by rw [hb5.block q hq]; exact HLV.out)
      have h1c := ho5.one
      have HS5 := hid (show Rs w w.heap.size q p1 (w5.setRow q (lvC v1 p1.2)) from by
        have hbw : Below w.heap.size w w5 := HBL.out.trans (hb5.mono HBL.out.size)
        refine ⟨⟨v1, setRow_heap _ _ _ _ _ _ HL5.out, _, ho5.setRow q hq _⟩, ?_, below_setRow hbw (by omega) _⟩
        unfold Row; rw [setRow_other _ _ _ _ (by omega)]; exact HRS.out.below hb5 HRS.out.lt)
      clear ho5 hb5 HAB HO HRS HBL HLV
      go_wp2_with (refine wpList_store_row rfl _ _ _ rfl q _ rfl rfl _ _ HL5.out (by rw [h34]; exact info51) (by rw [h34, h33]) (lvC_one _ h1c _) ?_)
      exact ⟨⟨k + 1, by omega, congrArg (Value.int .i64) (by omega), by rw [HP1.out]; exact HS5.out⟩, by simp only [intOf]; omega⟩
    · obtain rfl : k = D := by omega
      have HAT := hid (fun wx hx => at_any v (Tx.lev k L k).1 (Tx.lev k L k).2 g.1 g.2.2.1 (by have := g.2.2.2.2; omega) 0 (by omega) wx hx)
      rw [show (Tx.lev k L k).1.getD 0 (Tx.lev k L k).2 = Tx.root k L from rfl, show ((0 : Nat) : Int) = 0 from rfl] at HAT
      have hrs : (ints .u8 (Tx.root k L)).size = 32 := by rw [ints_size]; exact HRL.out.1
      clear g
      generalize Tx.lev k L k = p0 at *
      generalize lvC v p0.2 = LV at *
      generalize hTE : Tx.root k L = T at *
      have HTE := hid hTE
      clear hTE
      go_wp2_with (refine wpList_load_row rfl _ _ rfl q rfl _ _ _ _ HLV.out Tryd.underlying53 rfl (by rw [h33]; exact info51) ?_)
      refine (HAT.out _ HO.out.sums).mono ?_
      rintro e w5 ⟨rfl, hb5⟩
      have HR5 := hid (HRS.out.below hb5 HRS.out.lt)
      have HB5 := hid (HBL.out.trans (hb5.mono HBL.out.size))
      clear hb5
      go_wp2_with (refine wpList_store_row rfl _ _ _ rfl w.heap.size _ rfl rfl _ _ HR5.out (by rw [hrs]; exact info27) (by rw [hrs, ints_size, List.length_replicate]) (ints_one _ _) ?_)
      exact bodyPost_ret (v := .agg (ints .u8 T))
        (results_cell_row Tryd.results6 _ _ w.heap.size _ _ _ _ rfl (setRow_heap w5 w.heap.size _ _ _ _ HR5.out) Tryd.underlying27 rfl (by rw [hrs]; exact info27))
        rfl ⟨by rw [HTE.out], below_setRow HB5.out (Nat.le_refl _) _⟩
end Go.Proofs.YtnhecallffkedabDoor
