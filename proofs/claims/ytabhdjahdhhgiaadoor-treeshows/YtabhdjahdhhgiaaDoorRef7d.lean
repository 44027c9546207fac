/-
  Layer 7: what the reference's Root and Show return; the law's same.
-/
import Derived.Test.YtabhdjahdhhgiaaDoorRef7c
namespace Go.Proofs.YtabhdjahdhhgiaaDoor
open Go.RowKit
open Go.Lib (hid)

/-- The rows' slice, place by place. -/
theorem Rws.cell {w : World} {base : Nat} {v : Value} {RS : List (List (List Nat))} (h : Rws w base v RS) (h0 : 0 < RS.length) :
    ∃ g cap, v = .slice (some ⟨g, 0, none⟩) RS.length cap ∧ RS.length ≤ cap ∧ ∀ j, j < RS.length → ∃ aj cj, w.cell? ⟨g, j, none⟩ = some (.slice aj (RS.getD j []).length cj) ∧ Strs w aj (RS.getD j []) := by
  obtain ⟨vs, h1, ⟨_, ⟨_, h3⟩ | ⟨g, cap, cur, hv, hg, hh, hn, hm, hs, hc⟩⟩, h4⟩ := h
  · omega
  · refine ⟨g, cap, hv, hn, fun j hj => ?_⟩
    obtain ⟨aj, cj, hvj, hsj⟩ := (h4 j hj).strs
    refine ⟨aj, cj, ?_, hsj⟩
    rw [cell_of_row w g j cur _ _ hh]
    have h2 : cur[j]? = (cur.toList.take (RS.length * 1))[j]? := by
      rw [List.getElem?_take, if_pos (by omega), Array.getElem?_toList]
    rw [h2, hc, ← hvj, List.getD_eq_getElem?_getD, List.getElem?_eq_getElem (by omega)]
    rfl

set_option maxHeartbeats 2000000 in
set_option maxRecDepth 100000 in
theorem refRoot_any (d : Int) (ao : Option Addr) (L : List (List Nat)) (cap : Nat) (hL : L.length ≤ 1000) (hb : ∀ x ∈ L.flatten, x < 256) (hlen : ∀ t ∈ L, t.length ≤ 1000000) (w : World) (hA : Strs w ao L) :
    Calls Tryd.prog 14 #[.int .i64 d, .slice ao L.length cap] w fun e w' => e = .returned (.string (str (Tx.root (Tx.limit d) L))) ∧ Below w.heap.size w w' := by
  have HR := hid (rows_any d ao L cap hL hb hlen w hA)
  have hD := Tx.limit_le d
  generalize Tx.limit d = D at *
  have hrl := Tx.rowsN_length D L (D + 1)
  have HG := hid (Tx.rowsN_getD D L (D + 1) D [] (by omega))
  have HGL := hid (Tx.rowK_length D L D)
  have HG0 := hid (show (Tx.rowK D L D).getD 0 [] = Tx.root D L from Tx.rowK_getD D L D 0 [] (by rw [Nat.sub_self]; decide))
  generalize Tx.rowsN D L (D + 1) = RS at *
  clear hb hlen hA
  go_enter Tryd.func14, Tryd.ntmps14
  go_wp2_with fail
  refine HR.out.mono ?_
  rintro e w1 ⟨v, rfl, hr, hb1⟩
  obtain ⟨g, cg, rfl, hcg, hcell⟩ := hr.cell (by omega)
  obtain ⟨aj, cj, hc1, hs⟩ := hcell D (by omega)
  rw [HG.out, HGL.out, Nat.sub_self] at hc1
  rw [HG.out] at hs
  obtain ⟨sb, so, rfl, hc2⟩ := hs 0 (by rw [HGL.out, Nat.sub_self]; decide)
  rw [HG0.out, Nat.add_zero] at hc2
  have HB := hid hb1
  rw [hrl]
  clear hb1 hcell hs hr hrl HR
  have k1 : (((D + 1 : Nat) : Int) - 1).toNat = D := by omega
  have k2 : (0 : Int) ≤ ((D + 1 : Nat) : Int) - 1 := by omega
  have k3 : ((D + 1 : Nat) : Int) - 1 < ((D + 1 : Nat) : Int) := by omega
  generalize hS : str (Tx.root D L) = S at *
  have HS := hid hS
  clear hS
  go_wp2
  go_ret
  exact ⟨by rw [HS.out]; rfl, HB.out⟩

theorem Tx.nb_lt (m h : Nat) (hm : m < 2 * h) : Tx.nb m < 2 * h := by unfold Tx.nb; split <;> omega
theorem Tx.isPos_iff (i : Int) (D : Nat) (hD : D ≤ 16) : Tx.isPos i D = true ↔ 0 ≤ i ∧ i < (2 ^ D : Nat) := by
  unfold Tx.isPos
  simp [hD]

set_option maxHeartbeats 2000000 in
set_option maxRecDepth 100000 in
theorem refShow_any (d i : Int) (ao : Option Addr) (L : List (List Nat)) (cap : Nat) (hL : L.length ≤ 1000) (hb : ∀ x ∈ L.flatten, x < 256) (hlen : ∀ t ∈ L, t.length ≤ 1000000) (w : World) (hA : Strs w ao L) :
    Calls Tryd.prog 17 #[.int .i64 d, .int .i64 i, .slice ao L.length cap] w fun e w' => ∃ v, e = .returned v ∧ OwnS w' w.heap.size v (Tx.showL (Tx.limit d) i L) ∧ Below w.heap.size w w' := by
  have HR := hid (rows_any d ao L cap hL hb hlen w hA)
  have hD := Tx.limit_le d
  generalize Tx.limit d = D at *
  have hrl := Tx.rowsN_length D L (D + 1)
  have HG := hid (fun j (hj : j < D + 1) => Tx.rowsN_getD D L (D + 1) j [] hj)
  have HPI := hid (Tx.isPos_iff i D hD)
  have hp := pow_le16 D hD
  generalize Tx.rowsN D L (D + 1) = RS at *
  clear hb hlen hA
  go_enter Tryd.func17, Tryd.ntmps17
  go_wp2_with fail
  refine HR.out.mono ?_
  rintro e w1 ⟨v, rfl, hr, hb1⟩
  obtain ⟨g, cg, rfl, hcg, hcell⟩ := hr.cell (by omega)
  have HC1 := hid hcell
  obtain ⟨a0, c0, hc0, _⟩ := hcell 0 (by omega)
  rw [HG.out 0 (by omega), Tx.rowK_length, Nat.sub_zero] at hc0
  rw [hrl]
  have HB1 := hid hb1
  have hs1 := hb1.size
  clear hb1 hcell hr HR
  go_upto_region 3 with (fail)
  have HOE := hid (OwnS.empty w1 w1.heap.size (Nat.le_refl _))
  have hb2 : Below w1.heap.size w1 (w1.alloc (.cells #[] 9)) := (Below.refl _ _).alloc (Nat.le_refl _) _
  have hc0' : (w1.alloc (.cells #[] 9)).cell? ⟨g, 0, none⟩ = some (.slice a0 (2 ^ D) c0) := (hb2.cell (block_lt_of_cell hc0)).trans hc0
  have HB2 := hid hb2
  clear hb2 hc0
  generalize w1.alloc _ = w2 at *
  by_cases hpos : 0 ≤ i ∧ i < ((2 ^ D : Nat) : Int)
  · have HRES := hid (show Tx.showL D i L = Tx.shows D i.toNat L D from by unfold Tx.showL; rw [if_pos (HPI.out.2 hpos)])
    obtain ⟨n, rfl⟩ : ∃ n : Nat, i = (n : Int) := ⟨i.toNat, by omega⟩
    rw [Int.toNat_natCast] at HRES
    have HN2 := hid (show n < 2 ^ D from by omega)
    have hn : n < 65536 := by have := HN2.out; omega
    have g0 : ¬ (n : Int) < 0 := by omega
    have g1 : ¬ ((2 ^ D : Nat) : Int) ≤ (n : Int) := by omega
    clear hpos HPI
    generalize 2 ^ D = pp at hc0' g1
    have k1 : (((D + 1 : Nat) : Int) - 1).toNat = D := by omega
    have k2 : (0 : Int) ≤ ((D + 1 : Nat) : Int) - 1 := by omega
    have k3 : ((D + 1 : Nat) : Int) - 1 ≤ ((D + 1 : Nat) : Int) := by omega
    have k4 : ((D + 1 : Nat) : Int) - 1 = D := by omega
    go_upto_region 6 with (fail)
    clear k1 k2 k3 k4 hc0' g1 hp
    go_loopw [1, 8, 10, 11, 33] (fun a out _ _ c wr => ∃ j : Nat, j ≤ D ∧ c = .int .i64 j ∧ a = .int .i64 (n / 2 ^ j : Nat) ∧ OwnS wr w1.heap.size out (Tx.shows D n L j) ∧ Below w1.heap.size w1 wr)
      (fun _ _ _ _ c _ => D - (intOf c).toNat)
    case atStart => exact ⟨0, by omega, rfl, by simp, HOE.out, HB2.out⟩
    case round =>
      clear HOE HB2
      obtain ⟨j, hj, rfl, rfl, hO, hB⟩ := hrel
      have hsz := hB.size
      by_cases hlt : j < D
      · obtain ⟨aj, cj, hcj, hsj⟩ := HC1.out j (by omega)
        rw [HG.out j (by omega)] at hcj hsj
        have hcw : wr.cell? ⟨g, j, none⟩ = some (.slice aj (Tx.rowK D L j).length cj) := (hB.cell (block_lt_of_cell hcj)).trans hcj
        have hq2 : 2 ^ (D - j) = 2 * 2 ^ (D - (j + 1)) := by rw [show D - j = (D - (j + 1)) + 1 from by omega, Nat.pow_succ, Nat.mul_comm]
        have hml : n / 2 ^ j < 2 ^ (D - j) := by
          rw [Nat.div_lt_iff_lt_mul (Nat.pow_pos (by decide)), ← Nat.pow_add, show D - j + j = D from by omega]; exact HN2.out
        have hnb : Tx.nb (n / 2 ^ j) < 2 ^ (D - j) := by rw [hq2] at hml ⊢; exact Tx.nb_lt _ _ hml
        have hgf := Tx.rowK_getD D L j (Tx.nb (n / 2 ^ j)) [] hnb
        have hrk := Tx.rowK_length D L j
        obtain ⟨sb, so, rfl, hcf⟩ := hsj (Tx.nb (n / 2 ^ j)) (by rw [hrk]; exact hnb)
        rw [hgf] at hcf
        have hcf' : wr.cell? ⟨sb, so + Tx.nb (n / 2 ^ j), none⟩ = some (.string (str (Tx.sumAt D L j (Tx.nb (n / 2 ^ j))))) := (hB.cell (block_lt_of_cell hcf)).trans hcf
        rw [hrk] at hcw
        have HTS := hid (Tx.shows_succ D n L j)
        have htl := Tx.shows_length D n L j
        have HHALF := hid (show n / 2 ^ (j + 1) = n / 2 ^ j / 2 from by rw [Nat.div_div_eq_div_mul, Nat.pow_succ])
        have hm5 : n / 2 ^ j < 65536 := Nat.lt_of_le_of_lt (Nat.div_le_self _ _) hn
        have hq5 := pow_le16 (D - j) (by omega)
        have HO := hid hO
        have HB := hid hB
        clear hO hB hcj hsj hcf hgf hrk hq2 hml HC1
        generalize Tx.sumAt D L j (Tx.nb (n / 2 ^ j)) = f at *
        generalize Tx.shows D n L j = P at *
        generalize n / 2 ^ j = m at *
        generalize 2 ^ (D - j) = q at *
        have g2 : (j : Int) < D := by omega
        by_cases hodd : m % 2 = 1
        · obtain rfl | ⟨m', rfl⟩ : m = 0 ∨ ∃ m', m = m' + 1 := by cases m with | zero => exact Or.inl rfl | succ m' => exact Or.inr ⟨m', rfl⟩
          · omega
          · rw [show Tx.nb (m' + 1) = m' from by unfold Tx.nb; rw [if_pos hodd]; omega] at hnb hcf'
            have hm2 : ((m' + 1 : Nat) : Int) % 2 = 1 := by omega
            have k1 : ((m' + 1 : Nat) : Int) - 1 = m' := by omega
            have k2 : (m' : Int) < q := by omega
            go_wp2_with (refine wpList_appS rfl _ _ rfl w1.heap.size _ P rfl (HO.out.below ((Below.refl _ _).alloc (Nat.le_refl _) _)) _ f rfl (by rw [Addr.add_mid, cell_of_row _ _ _ _ _ _ (heap_alloc_new _ _)]; rfl) (by omega) (by simp; omega) ?_; intro v' w' hown' hbel')
            rw [HTS.out] at hown'
            exact ⟨⟨j + 1, by omega, congrArg (Value.int .i64) (by omega), congrArg (Value.int .i64) (by rw [HHALF.out]; omega), hown', (HB.out.alloc hsz _).trans hbel'⟩, by simp only [intOf]; omega⟩
        · rw [show Tx.nb m = m + 1 from by unfold Tx.nb; rw [if_neg hodd]] at hnb hcf'
          have hm2 : (m : Int) % 2 = 0 := by omega
          have k2 : (m : Int) + 1 < q := by omega
          go_wp2_with (refine wpList_appS rfl _ _ rfl w1.heap.size _ P rfl (HO.out.below ((Below.refl _ _).alloc (Nat.le_refl _) _)) _ f rfl (by rw [Addr.add_mid, cell_of_row _ _ _ _ _ _ (heap_alloc_new _ _)]; rfl) (by omega) (by simp; omega) ?_; intro v' w' hown' hbel')
          rw [HTS.out] at hown'
          exact ⟨⟨j + 1, by omega, congrArg (Value.int .i64) (by omega), congrArg (Value.int .i64) (by rw [HHALF.out]; omega), hown', (HB.out.alloc hsz _).trans hbel'⟩, by simp only [intOf]; omega⟩
      · obtain rfl : D = j := by omega
        have HO := hid hO
        have HB := hid hB
        have g2 : ¬ ((D : Int) < D) := by omega
        clear hO hB hlt hj
        generalize n / 2 ^ D = m at *
        go_wp2
        go_ret
        exact ⟨_, rfl, by rw [HRES.out]; exact HO.out.mono hs1, HB1.out.trans (HB.out.mono hs1)⟩
  · have HRES := hid (show Tx.showL D i L = [] from by unfold Tx.showL; rw [if_neg (fun h => hpos (HPI.out.1 h))])
    by_cases hneg : i < 0
    · go_wp2
      go_ret
      exact ⟨_, rfl, by rw [HRES.out]; exact HOE.out.mono hs1, HB1.out.trans (HB2.out.mono hs1)⟩
    · have g1 : ((2 ^ D : Nat) : Int) ≤ i := by omega
      clear hpos HPI hp
      generalize 2 ^ D = pp at *
      go_wp2
      go_ret
      exact ⟨_, rfl, by rw [HRES.out]; exact HOE.out.mono hs1, HB1.out.trans (HB2.out.mono hs1)⟩
end Go.Proofs.YtabhdjahdhhgiaaDoor
