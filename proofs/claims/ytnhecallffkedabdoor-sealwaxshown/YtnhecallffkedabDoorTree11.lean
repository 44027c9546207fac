/-
  Layer 7: what tree.Show returns.
-/
import Derived.Test.YtnhecallffkedabDoorBase
import Derived.Test.YtnhecallffkedabDoorTreeM
namespace Go.Proofs.YtnhecallffkedabDoor
open Go.RowKit
open Go.Lib (hid)

namespace Tx
/-- What Show tells. -/
def showL (d : Nat) (i : Int) (L : List (List Nat)) : List (List Nat) := if isPos i d = true then shows d i.toNat L d else []
theorem nb_xor (n : Nat) : n ^^^ 1 = nb n := by
  unfold nb
  apply Nat.eq_of_testBit_eq
  intro j
  rw [Nat.testBit_xor]
  cases j with
  | zero =>
    simp only [Nat.testBit_zero]
    by_cases h : n % 2 = 1
    · rw [if_pos h]
      have h1 : (n - 1) % 2 = 0 := by omega
      simp [h, h1]
    · rw [if_neg h]
      have h0 : n % 2 = 0 := by omega
      have h1 : (n + 1) % 2 = 1 := by omega
      simp [h0, h1]
  | succ j =>
    simp only [Nat.testBit_succ]
    rw [show (1 : Nat) / 2 = 0 from rfl, Nat.zero_testBit, Bool.xor_false]
    split
    · rw [show (n - 1) / 2 = n / 2 from by omega]
    · rw [show (n + 1) / 2 = n / 2 from by omega]
end Tx
/-- append(s, x...), s the call's own, with room for it, x one sum in memory: at the operation itself. -/
theorem wp_appF {w : World} {o : Oper} {a : Act} {K : Act → World → Prop} {Q : Exit → Act → World → Prop} (s x : Operand)
    (ho : o.op = .call { callee := .builtin .append, args := #[s, x], argTypes := #[34, 34] })
    (base g D : Nat) (F : List (List Nat)) (n : Nat) (hn : F.length = n) (hs : a.eval s = .slice (some ⟨g, 0, none⟩) n D) (hown : OwnU w base (.slice (some ⟨g, 0, none⟩) n D) F)
    (ad : Addr) (c : Nat) (f : List Nat) (hf : f.length = 32) (hx : a.eval x = .slice (some ad) 1 c) (hnews : ∀ j u, (ints .u8 f).toList[j]? = some u → w.cell? (ad.add j) = some u) (hfit : n + 1 ≤ D)
    (h : ∀ w', OwnU w' base (.slice (some ⟨g, 0, none⟩) (n + 1) D) (F ++ [f]) → w.grownBy w' (some g) → K (a.put o.dst (.slice (some ⟨g, 0, none⟩) (n + 1) D)) w') : o.wp Tryd.prog a w K Q := by
  subst hn
  obtain ⟨i, hi, hz0, hz1, hz2⟩ := info_parts info27z
  obtain ⟨w', hr, h2, h3⟩ := run_append_fits (P := Tryd.prog) w base 34 o.type 27 i 32 Tryd.underlying34 hi hz1 g F.length D _ hown.2 ad 1 c (ints .u8 f).toList (by rw [ints_llen, hf]) hnews (fun u hu => by
    simp only [ints, List.mem_map] at hu
    obtain ⟨y, _, rfl⟩ := hu
    rfl) hfit
  unfold Oper.wp execOp
  simp only [ho, resolve, invoke, builtin, Sem.run_bind, Sem.run_pure, Result.andThen_ok, List.map_toArray, List.map_cons, List.map_nil, hs, hx, hr]
  refine h w' ⟨?_, ?_⟩ h3
  · intro y hy
    rcases List.mem_append.1 hy with h' | h'
    · exact hown.1 y h'
    · rw [List.mem_singleton] at h'; rw [h']; exact hf
  · rw [List.length_append, cellsU_append, cellsU_one]
    exact h2
theorem wpList_appF {w : World} {ops : Array Oper} {rest : List Oper} {o : Oper} {a : Act} {Q : Exit → Act → World → Prop} (hgd : o.guard = none) (s x : Operand)
    (ho : o.op = .call { callee := .builtin .append, args := #[s, x], argTypes := #[34, 34] })
    (base g D : Nat) (F : List (List Nat)) (n : Nat) (hn : F.length = n) (hs : a.eval s = .slice (some ⟨g, 0, none⟩) n D) (hown : OwnU w base (.slice (some ⟨g, 0, none⟩) n D) F)
    (ad : Addr) (c : Nat) (f : List Nat) (hf : f.length = 32) (hx : a.eval x = .slice (some ad) 1 c) (hnews : ∀ j u, (ints .u8 f).toList[j]? = some u → w.cell? (ad.add j) = some u) (hfit : n + 1 ≤ D)
    (h : ∀ w', OwnU w' base (.slice (some ⟨g, 0, none⟩) (n + 1) D) (F ++ [f]) → w.grownBy w' (some g) → wpList Tryd.prog ops Q rest (a.put o.dst (.slice (some ⟨g, 0, none⟩) (n + 1) D)) w') : wpList Tryd.prog ops Q (o :: rest) a w :=
  wpList_plain hgd fun _ hK => wp_appF s x ho base g D F n hn hs hown ad c f hf hx hnews hfit (fun w' h1 h2 => hK _ _ (h w' h1 h2))
theorem cells_sum (w : World) (f : List Nat) : ∀ j u, (ints .u8 f).toList[j]? = some u → (w.alloc (.cells (ints .u8 f) 27)).cell? ((⟨w.heap.size, 0, none⟩ : Addr).add j) = some u := by
  intro j u hj
  rw [Addr.add_mid, Nat.zero_add, cell_of_row _ _ _ _ _ _ (heap_alloc_new _ _)]
  simpa using hj
theorem OwnU.other {w w' : World} {base : Nat} {v : Value} {F : List (List Nat)} (h : OwnU w base v F) (hb : ∀ k, base ≤ k → k < w.heap.size → w'.heap[k]? = w.heap[k]?) : OwnU w' base v F := by
  obtain ⟨h0, h1, h2⟩ := h
  refine ⟨h0, h1, ?_⟩
  rcases h2 with h2 | ⟨g, cap, cur, hv, hg, hh, r⟩
  · exact Or.inl h2
  · exact Or.inr ⟨g, cap, cur, hv, hg, by rw [hb g hg (Array.getElem?_eq_some_iff.1 hh).1]; exact hh, r⟩
theorem OwnU.at {w w' : World} {base g n D : Nat} {F : List (List Nat)} (h : OwnU w base (.slice (some ⟨g, 0, none⟩) n D) F) (hb : w'.heap[g]? = w.heap[g]?) : OwnU w' base (.slice (some ⟨g, 0, none⟩) n D) F := by
  obtain ⟨h0, h1, h2⟩ := h
  refine ⟨h0, h1, ?_⟩
  rcases h2 with h2 | ⟨g', cap, cur, hv, hg, hh, r⟩
  · exact Or.inl h2
  · obtain rfl : g = g' := by
      injection hv with e1
      injection e1 with e1
      injection e1
    exact Or.inr ⟨g, cap, cur, hv, hg, by rw [hb]; exact hh, r⟩

/-- While it is shown: what was told so far lies in block w.heap.size, the level at q. -/
structure Ss (w : World) (q D k : Nat) (S : List (List Nat)) (p : List (List Nat) × List Nat) (u : World) : Prop where
  own : OwnU u w.heap.size (.slice (some ⟨w.heap.size, 0, none⟩) k D) S
  lv : ∃ v, u.heap[q]? = some (.cells (lvC v p.2) 53 (0, 0)) ∧ OwnU u (w.heap.size + 1) v p.1
  bel : Below w.heap.size w u

set_option maxHeartbeats 2000000 in
set_option maxRecDepth 100000 in
theorem show_any (d i : Int) (ao : Option Addr) (L : List (List Nat)) (cap : Nat) (hcap : L.length ≤ cap) (hao : ao = none → cap = 0) (hL : L.length ≤ 1000) (hb : ∀ x ∈ L.flatten, x < 256) (hlen : ∀ t ∈ L, t.length ≤ 1000000) (w : World) (hT : Tabs w) (hA : Strs w ao L) :
    Calls Tryd.prog 10 #[.int .i64 d, .int .i64 i, .slice ao L.length cap] w fun e w' => ∃ v, e = .returned v ∧ OwnU w' w.heap.size v (Tx.showL (Tx.limit d) i L) ∧ Below w.heap.size w w' := by
  have HLI := hid (fun wx => limited_any d wx)
  have hd := Tx.limit_le d
  generalize Tx.limit d = D at *
  have HIP := hid (fun wx => isPos_any i D (by omega) wx)
  by_cases hp : Tx.isPos i D = true
  · have h0 : 0 ≤ i ∧ i < ((2 ^ D : Nat) : Int) := by
      simp only [Tx.isPos, Bool.and_eq_true, decide_eq_true_eq] at hp
      exact ⟨hp.1.2, hp.2⟩
    obtain ⟨n, rfl⟩ : ∃ n : Nat, i = (n : Int) := ⟨i.toNat, by omega⟩
    have hn : n < 65536 := by
      have : 2 ^ D ≤ 2 ^ 16 := Nat.pow_le_pow_right (by decide) hd
      omega
    have HRES := hid (show Tx.showL D (n : Int) L = Tx.shows D n L D from by unfold Tx.showL; rw [if_pos hp]; rfl)
    rw [hp] at HIP
    clear h0 hp
    have HG := hid (Tx.good_lev D L hL)
    have HSG := hid (Tx.sumAt_good D L hL)
    have HBO := hid (fun wx hx hy => bottom_any D hd ao L cap hcap hao hL hb hlen wx hx hy)
    rw [show (L.take (2 ^ D)).map Tx.hl = (Tx.lev D L 0).1 from rfl, show Tx.hl [] = (Tx.lev D L 0).2 from rfl] at HBO
    have HT := hid hT
    have HA := hid hA
    clear hT hA hb hlen hcap hao
    go_enter Tryd.func10, Tryd.ntmps10
    go_wp2_with fail
    refine (HLI.out _).mono ?_
    rintro e w1 ⟨rfl, hw1⟩
    rw [hw1]
    clear hw1 w1
    go_wp2_with fail
    refine (HIP.out _).mono ?_
    rintro e w1 ⟨rfl, hw1⟩
    rw [hw1]
    clear hw1 w1 HIP HLI
    obtain ⟨inf, hinf, hz0, hz1, hz2⟩ := info_parts info27z
    have hzb : inf.bytes * D ≤ 281474976710656 := by rw [hz2]; omega
    go_wp2_with (at_make; refine wpList_make_own _ rfl _ _ _ rfl w.heap.size 27 inf _ 32 Tryd.underlying34 hinf hz0 hz1 _ _ _ D rfl rfl rfl hzb (by unfold maxLen; omega) (Nat.le_refl _) ?_; intro w2 hown2 hgrow2)
    have HMB := hid (show Below w.heap.size w w2 from (Below.refl _ _).grown hgrow2 (Nat.le_refl _) (fun k hk => by cases hk))
    have HO2 := hid (show OwnU w2 w.heap.size (.slice (some ⟨w.heap.size, 0, none⟩) 0 D) [] from ⟨fun f hf => by simp at hf, hown2⟩)
    have hlt2 : w.heap.size < w2.heap.size := by
      obtain ⟨_, ⟨h, _⟩ | ⟨g, cap', cur, hv, hg, hh, _⟩⟩ := hown2
      · cases h
      · injection hv with e1
        injection e1 with e1
        injection e1 with e1
        rw [← e1] at hh
        exact (Array.getElem?_eq_some_iff.1 hh).1
    clear hown2 hgrow2
    refine (HBO.out _ (HT.out.below HMB.out (Nat.le_refl _)) (HA.out.below HMB.out)).mono ?_
    rintro e w3 ⟨v0, rfl, ho3, hb3⟩
    have HO3 := hid (ho3.mono (show w.heap.size + 1 ≤ w2.heap.size by omega))
    have HP3 := hid (HO2.out.below hb3)
    have HB3 := hid (HMB.out.trans (hb3.mono HMB.out.size))
    have h33 : (lvC v0 (Tx.lev D L 0).2).size = 33 := lvC_size _ _ (HG.out 0).2.2.1
    have h1c := ho3.one
    have hq3 : w.heap.size < w3.heap.size := Nat.lt_of_lt_of_le hlt2 hb3.size
    clear ho3 hb3 HBO HA HO2 HMB hlt2
    go_upto_region 7 with (refine wpList_store_row rfl _ _ _ rfl w3.heap.size _ rfl rfl _ _ (heap_alloc_new _ _) (by rw [h33]; exact info51) (by rw [h33]; rfl) (lvC_one _ h1c _) ?_)
    generalize hw4 : (w3.alloc _).setRow _ _ = w4
    have HS4 := hid (show Ss w w3.heap.size D 0 (Tx.shows D n L 0) (Tx.lev D L 0) w4 from by
      have hb4 : Below w3.heap.size w3 w4 := by rw [← hw4]; exact below_setRow ((Below.refl _ _).alloc (Nat.le_refl _) _) (Nat.le_refl _) _
      refine ⟨HP3.out.below hb4, ⟨v0, ?_, HO3.out.below hb4⟩, HB3.out.trans (hb4.mono HB3.out.size)⟩
      rw [← hw4]; exact setRow_heap _ _ _ _ _ _ (heap_alloc_new _ _))
    clear hw4 HO3 HP3 HB3 h33 h1c
    generalize w3.heap.size = q at *
    go_loopw [1, 7, 21] (fun i v c wr => ∃ k : Nat, k ≤ D ∧ c = .int .i64 k ∧ i = .int .i64 (n / 2 ^ k : Nat) ∧ v = .slice (some ⟨w.heap.size, 0, none⟩) k D ∧ Ss w q D k (Tx.shows D n L k) (Tx.lev D L k) wr)
      (fun _ _ c _ => D - (intOf c).toNat)
    case atStart => exact ⟨0, by omega, rfl, by simp, rfl, HS4.out⟩
    case round =>
      clear HS4
      obtain ⟨k, hk, rfl, rfl, rfl, hS⟩ := hrel
      by_cases hlt : k < D
      · obtain ⟨v, hlv, hO⟩ := hS.lv
        have g := HG.out k
        have h33 : (lvC v (Tx.lev D L k).2).size = 33 := lvC_size _ _ g.2.2.1
        have hq := (Array.getElem?_eq_some_iff.1 hlv).1
        have hnk : n / 2 ^ k < 65536 := Nat.lt_of_le_of_lt (Nat.div_le_self _ _) hn
        have hnb : Tx.nb (n / 2 ^ k) ≤ 1000000 := by unfold Tx.nb; split <;> omega
        have HAT := hid (fun wx hx => at_any v (Tx.lev D L k).1 (Tx.lev D L k).2 g.1 g.2.2.1 (by have := g.2.2.2.2; omega) (Tx.nb (n / 2 ^ k)) hnb wx hx)
        rw [show (Tx.lev D L k).1.getD (Tx.nb (n / 2 ^ k)) (Tx.lev D L k).2 = Tx.sumAt D L k (Tx.nb (n / 2 ^ k)) from rfl] at HAT
        have hfl := (HSG.out k (Tx.nb (n / 2 ^ k))).1
        have HTS := hid (Tx.shows_succ D n L k)
        have hsl := Tx.shows_length D n L k
        have HAB := hid (fun wx hx hy => above_any v (Tx.lev D L k).1 (Tx.lev D L k).2 g.1 g.2.1 g.2.2.1 g.2.2.2.1 (by have := g.2.2.2.2; omega) wx hx hy)
        rw [show Tx.hn (Tx.lev D L k).2 (Tx.lev D L k).2 = (Tx.lev D L (k + 1)).2 from rfl, show Tx.up (Tx.lev D L k).1 (Tx.lev D L k).2 = (Tx.lev D L (k + 1)).1 from rfl] at HAB
        have hn3 := (HG.out (k + 1)).2.2.1
        have HHALF := hid (show n / 2 ^ (k + 1) = n / 2 ^ k / 2 from by rw [Nat.div_div_eq_div_mul, Nat.pow_succ])
        have hxor := xor64 (n / 2 ^ k) 1 (by unfold Sx.M; omega) (by decide)
        rw [Tx.nb_xor, show ((1 : Nat) : Int) = 1 from rfl] at hxor
        have HLV := hid hlv
        have HO := hid hO
        have HOWN := hid hS.own
        have HBL := hid hS.bel
        clear hS hlv hO g hnb
        generalize Tx.sumAt D L k (Tx.nb (n / 2 ^ k)) = f at *
        generalize Tx.nb (n / 2 ^ k) = nb at *
        generalize n / 2 ^ k = m at *
        generalize hp1 : Tx.lev D L (k + 1) = p1 at *
        have HP1 := hid hp1
        clear hp1
        generalize Tx.lev D L k = p0 at *
        generalize Tx.shows D n L k = F at *
        generalize lvC v p0.2 = LV at *
        have g1 : (k : Int) < D := by omega
        go_wp2_with (refine wpList_load_row rfl _ _ rfl q rfl _ _ _ _ HLV.out Tryd.underlying53 rfl (by rw [h33]; exact info51) ?_)
        refine (HAT.out _ HO.out.sums).mono ?_
        rintro e w5 ⟨rfl, hb5⟩
        have HOW5 := hid ((HOWN.out.below hb5).below ((Below.refl w5.heap.size w5).alloc (Nat.le_refl _) (.cells (ints .u8 f) 27)))
        have HB5 := hid (hb5.alloc hb5.size (.cells (ints .u8 f) 27))
        clear hb5 HOWN
        go_upto_region 9 with (first
          | (refine wpList_mkU rfl _ rfl f hfl rfl ?_)
          | (refine wpList_appF rfl _ _ rfl w.heap.size w.heap.size D F k hsl rfl HOW5.out ⟨w5.heap.size, 0, none⟩ 1 f hfl rfl (cells_sum w5 f) hlt ?_; intro w6 ho6 hg6; clear HOW5))
        have hq5 := Nat.lt_of_lt_of_le hq HB5.out.size
        have hw5 := Nat.le_trans HBL.out.size HB5.out.size
        have HL6 := hid (show w6.heap[q]? = some (.cells LV 53 (0, 0)) from by
          rw [hg6.block q hq5 (by intro h; injection h with h; omega), HB5.out.block q hq]; exact HLV.out)
        have HO6 := hid (show OwnU w6 (w.heap.size + 1) v p0.1 from (HO.out.below HB5.out).other (fun j h1 h2 => hg6.block j h2 (by intro h; injection h with h; omega)))
        have HB6 := hid (show Below w.heap.size w w6 from (HBL.out.trans (HB5.out.mono HBL.out.size)).grown hg6 hw5 (fun j hj => by injection hj with hj; omega))
        have HOW6 := hid ho6
        have hq6 := Nat.lt_of_lt_of_le hq5 hg6.size
        clear hg6 ho6 HB5 HO HLV HBL HAT hq5 hw5
        go_wp2_with (refine wpList_load_row rfl _ _ rfl q rfl _ _ _ _ HL6.out Tryd.underlying53 rfl (by rw [h33]; exact info51) ?_)
        refine (HAB.out _ (HT.out.below HB6.out (Nat.le_refl _)) HO6.out.sums).mono ?_
        rintro e w7 ⟨v1, rfl, ho7, hb7⟩
        have h34 : (lvC v1 p1.2).size = 33 := lvC_size _ _ hn3
        have HL7 := hid (show w7.heap[q]? = some (.cells LV 53 (0, 0)) from by rw [hb7.block q hq6]; exact HL6.out)
        have h1c := ho7.one
        have HS7 := hid (show Ss w q D (k + 1) (F ++ [f]) p1 (w7.setRow q (lvC v1 p1.2)) from by
          have hbw : Below w.heap.size w w7 := HB6.out.trans (hb7.mono HB6.out.size)
          refine ⟨OwnU.at (HOW6.out.below hb7) (setRow_other _ _ _ _ (by omega)), ⟨v1, setRow_heap _ _ _ _ _ _ HL7.out, ?_⟩, below_setRow hbw (by omega) _⟩
          exact (ho7.setRow q hq6 _).mono (by omega))
        rw [HTS.out] at HS7
        clear ho7 hb7 HAB HO6 HB6 HOW6 HL6
        go_wp2_with (refine wpList_store_row rfl _ _ _ rfl q _ rfl rfl _ _ HL7.out (by rw [h34]; exact info51) (by rw [h34, h33]) (lvC_one _ h1c _) ?_)
        exact ⟨⟨k + 1, by omega, congrArg (Value.int .i64) (by omega), congrArg (Value.int .i64) (by rw [HHALF.out]; omega), rfl, by rw [HP1.out]; exact HS7.out⟩, by simp only [intOf]; omega⟩
      · obtain rfl : k = D := by omega
        have HS := hid hS
        clear hS
        have g1 : ¬ ((k : Int) < k) := by omega
        generalize n / 2 ^ k = m at *
        go_wp2
        go_ret
        exact ⟨_, rfl, by rw [HRES.out]; exact HS.out.own, HS.out.bel⟩
  · have hp' : Tx.isPos i D = false := by simpa using hp
    have HRES := hid (show Tx.showL D i L = [] from by unfold Tx.showL; rw [if_neg hp])
    rw [hp'] at HIP
    clear hT hA hb hlen hcap hao hp hp'
    go_enter Tryd.func10, Tryd.ntmps10
    go_wp2_with fail
    refine (HLI.out _).mono ?_
    rintro e w1 ⟨rfl, hw1⟩
    rw [hw1]
    clear hw1 w1
    go_wp2_with fail
    refine (HIP.out _).mono ?_
    rintro e w1 ⟨rfl, hw1⟩
    rw [hw1]
    clear hw1 w1
    go_wp2
    go_ret
    exact ⟨_, rfl, by rw [HRES.out]; exact OwnU.nil _ _, Below.refl _ _⟩
end Go.Proofs.YtnhecallffkedabDoor
