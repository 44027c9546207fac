/-
  Layer 7: what the reference's Holds returns; the law's Texts.
-/
import Derived.Test.YtabhdjahdhhgiaaDoorLTreeShow
import Derived.Test.YtabhdjahdhhgiaaDoorRefOf
namespace Go.Proofs.YtabhdjahdhhgiaaDoor
open Go.RowKit
open Go.Lib (hid)

theorem str_node (a b : List Nat) (ha : a.length = 32) (hb : b.length = 32) : ∃ S1 : ByteArray, (⟨#[78]⟩ : ByteArray) ++ str a = S1 ∧ S1 ++ str b = str (Tx.node a b) ∧ (str a).size = 32 ∧ (str b).size = 32 ∧ S1.size = 33 := by
  refine ⟨str ([78] ++ a), ?_, ?_, by rw [str_size, ha], by rw [str_size, hb], by rw [str_size]; simp [ha]⟩
  · have h1 := str_append [78] a
    rwa [show str [78] = ⟨#[78]⟩ from rfl] at h1
  · exact str_append ([78] ++ a) b
theorem str_leaf (t : List Nat) : (⟨#[76]⟩ : ByteArray) ++ str t = str (Tx.leaf t) := by
  have hap := str_append [76] t
  rwa [show str [76] = ⟨#[76]⟩ from rfl, show [76] ++ t = Tx.leaf t from rfl] at hap

set_option maxHeartbeats 2000000 in
set_option maxRecDepth 100000 in
theorem refHolds_any (R : List Nat) (hR : ∀ x ∈ R, x < 256) (i : Int) (hi : i ≤ 9223372036854775807) (t : List Nat) (ht : ∀ x ∈ t, x < 256) (htl : t.length ≤ 10000000) (l : List (List Nat)) (hl : ∀ f ∈ l, f.length = 32) (hlb : ∀ f ∈ l, ∀ x ∈ f, x < 256) (hll : l.length ≤ 1000) (ao : Option Addr) (cap : Nat) (w : World) (hS : Strs w ao l) :
    Calls Tryd.prog 21 #[.string (str R), .int .i64 i, .string (str t), .slice ao l.length cap] w fun e w' => e = .returned (.bool (Tx.holds R i t l)) ∧ Below w.heap.size w w' := by
  by_cases hlen : l.length ≤ 16
  · by_cases hi0 : 0 ≤ i
    · obtain ⟨n, rfl⟩ : ∃ n : Nat, i = (n : Int) := ⟨i.toNat, by omega⟩
      have HRES := hid (show Tx.holds R (n : Int) t l = (decide (n / 2 ^ l.length = 0) && (Sx.digest (Tx.wt n t l l.length) == R)) from by
        unfold Tx.holds Tx.isPos
        rw [Tx.top_eq, Int.toNat_natCast, decide_eq_true hlen, decide_eq_true (show (0 : Int) ≤ n by omega)]
        congr 1
        simp only [Bool.true_and]
        have hpp : 0 < 2 ^ l.length := Nat.pow_pos (by decide)
        generalize 2 ^ l.length = p at *
        by_cases hlt : n < p
        · rw [decide_eq_true (show (n : Int) < (p : Int) by omega), decide_eq_true (Nat.div_eq_of_lt hlt)]
        · rw [decide_eq_false (show ¬ (n : Int) < (p : Int) by omega), decide_eq_false]
          have := Nat.div_pos (show p ≤ n by omega) hpp
          omega)
      have HL0 := hid (fun wx => refof_any (Tx.leaf t) (Tx.leaf_lt t ht) (by simp only [Tx.leaf, List.length_cons]; omega) wx)
      have HLS := hid (str_leaf t)
      have z0 : (str t).size ≤ 10000000 := by rw [str_size]; exact htl
      have HSS := hid hS
      have HL := hid hl
      have HLB := hid hlb
      have HRB := hid hR
      generalize hLS : str (Tx.leaf t) = LS at *
      generalize hTS : str t = TS at *
      rw [show Sx.digest (Tx.leaf t) = Sx.digest (Tx.wt n t l 0) from rfl] at HL0
      have hap := HLS.out
      have g0 : ¬ (16 : Int) < l.length := by omega
      have g1 : ¬ (n : Int) < 0 := by omega
      clear hLS hTS hS hl hlb hR ht htl
      go_enter Tryd.func21, Tryd.ntmps21
      go_wp2_with fail
      refine (HL0.out _).mono ?_
      rintro e w1 ⟨rfl, hb1⟩
      have HB1 := hid hb1
      clear hb1 HL0 HLS hap
      go_wp2_with fail
      go_loopw [1, 9, 11, 24] (fun a s _ c wr => ∃ k : Nat, k ≤ l.length ∧ c = .int .i64 k ∧ a = .int .i64 (n / 2 ^ k : Nat) ∧ s = .string (str (Sx.digest (Tx.wt n t l k))) ∧ Below w.heap.size w wr)
        (fun _ _ _ c _ => l.length - (intOf c).toNat)
      case atStart => exact ⟨0, by omega, rfl, by simp, rfl, HB1.out⟩
      case round =>
        clear HB1
        obtain ⟨k, hk, rfl, rfl, rfl, hB⟩ := hrel
        have hnk : n / 2 ^ k ≤ n := Nat.div_le_self _ _
        by_cases hlt : k < l.length
        · obtain ⟨sb, so, rfl, hc⟩ := HSS.out k hlt
          have hcell : wr.cell? ⟨sb, so + k, none⟩ = some (.string (str (l.getD k []))) := (hB.cell (block_lt_of_cell hc)).trans hc
          have hxm : l.getD k [] ∈ l := by simp [List.getD_eq_getElem?_getD, hlt]
          have hxl := HL.out _ hxm
          have hxb := HLB.out _ hxm
          have hdl := digest_length (Tx.wt n t l k)
          have hdb := digest_lt (Tx.wt n t l k)
          have HWS := hid (show Tx.wt n t l (k + 1) = if n / 2 ^ k % 2 = 1 then Tx.node (l.getD k []) (Sx.digest (Tx.wt n t l k)) else Tx.node (Sx.digest (Tx.wt n t l k)) (l.getD k []) from rfl)
          have HHALF := hid (show n / 2 ^ (k + 1) = n / 2 ^ k / 2 from by rw [Nat.div_div_eq_div_mul, Nat.pow_succ])
          have HB := hid hB
          generalize Sx.digest (Tx.wt n t l k) = D at *
          generalize l.getD k [] = x at *
          generalize n / 2 ^ k = m at *
          have g2 : (k : Int) < l.length := by omega
          clear hc hxm hB
          by_cases hodd : m % 2 = 1
          · rw [if_pos hodd] at HWS
            have HND := hid (fun wx => refof_any (Tx.node x D) (Tx.node_lt _ _ hxb hdb) (by rw [Tx.node, List.length_cons, List.length_append]; omega) wx)
            obtain ⟨S1, e1, e2, zx, zd, z1⟩ := str_node x D hxl hdl
            rw [← HWS.out] at HND e2
            generalize str (Tx.wt n t l (k + 1)) = SN at *
            generalize str x = SX at *
            generalize str D = SD at *
            have hm2 : (m : Int) % 2 = 1 := by omega
            clear hxb hdb hxl hdl
            go_wp2_with fail
            refine (HND.out _).mono ?_
            rintro e w2 ⟨rfl, hb2⟩
            have HB2 := hid (HB.out.trans (hb2.mono HB.out.size))
            clear hb2 HND HB
            go_wp2
            exact ⟨⟨k + 1, by omega, congrArg (Value.int .i64) (by omega), congrArg (Value.int .i64) (by rw [HHALF.out]; omega), rfl, HB2.out⟩, by simp only [intOf]; omega⟩
          · rw [if_neg hodd] at HWS
            have HND := hid (fun wx => refof_any (Tx.node D x) (Tx.node_lt _ _ hdb hxb) (by rw [Tx.node, List.length_cons, List.length_append]; omega) wx)
            obtain ⟨S1, e1, e2, zd, zx, z1⟩ := str_node D x hdl hxl
            rw [← HWS.out] at HND e2
            generalize str (Tx.wt n t l (k + 1)) = SN at *
            generalize str x = SX at *
            generalize str D = SD at *
            have hm2 : (m : Int) % 2 = 0 := by omega
            clear hxb hdb hxl hdl
            go_wp2_with fail
            refine (HND.out _).mono ?_
            rintro e w2 ⟨rfl, hb2⟩
            have HB2 := hid (HB.out.trans (hb2.mono HB.out.size))
            clear hb2 HND HB
            go_wp2
            exact ⟨⟨k + 1, by omega, congrArg (Value.int .i64) (by omega), congrArg (Value.int .i64) (by rw [HHALF.out]; omega), rfl, HB2.out⟩, by simp only [intOf]; omega⟩
        · obtain rfl : k = l.length := by omega
          have HB := hid hB
          have hse : ((str (Sx.digest (Tx.wt n t l l.length))).toList == (str R).toList) = (Sx.digest (Tx.wt n t l l.length) == R) := str_beq _ _ (digest_lt _) HRB.out
          have g2 : ¬ ((l.length : Int) < l.length) := by omega
          clear hB
          generalize (Sx.digest (Tx.wt n t l l.length) == R) = E at *
          generalize str (Sx.digest (Tx.wt n t l l.length)) = SD at *
          generalize n / 2 ^ l.length = m at *
          by_cases hm : m = 0
          · subst hm
            go_wp2
            go_ret
            exact ⟨by rw [HRES.out]; rfl, HB.out⟩
          · have hm' : ((m : Int) == 0) = false := by simpa using hm
            rw [decide_eq_false hm] at HRES
            go_wp2
            go_ret
            exact ⟨by rw [HRES.out]; rfl, HB.out⟩
    · have HRES := hid (show Tx.holds R i t l = false from by unfold Tx.holds Tx.isPos; rw [decide_eq_false hi0]; simp)
      have g0 : ¬ (16 : Int) < l.length := by omega
      clear hS hl hlb hR ht htl
      generalize Tx.holds R i t l = b at *
      go_enter Tryd.func21, Tryd.ntmps21
      go_wp2
      go_ret
      exact ⟨by rw [HRES.out]; rfl, Below.refl _ _⟩
  · have HRES := hid (show Tx.holds R i t l = false from by unfold Tx.holds Tx.isPos; rw [decide_eq_false hlen]; simp)
    have g0 : (16 : Int) < l.length := by omega
    clear hS hl hlb hR ht htl hlen
    generalize Tx.holds R i t l = b at *
    go_enter Tryd.func21, Tryd.ntmps21
    go_wp2
    go_ret
    exact ⟨by rw [HRES.out]; rfl, Below.refl _ _⟩

set_option maxHeartbeats 1000000 in
set_option maxRecDepth 100000 in
/-- The law's Texts. -/
theorem texts_any (l : List (List Nat)) (hl : ∀ f ∈ l, f.length = 32) (hll : l.length ≤ 1000) (v : Value) (w : World) (hS : Sums w v l) :
    Calls Tryd.prog 16 #[v] w fun e w' => ∃ v', e = .returned v' ∧ OwnS w' w.heap.size v' l ∧ Below w.heap.size w w' := by
  obtain ⟨ao, cap, rfl, hc⟩ := hS
  have HC := hid hc
  have HL := hid hl
  clear hc hl
  go_enter Tryd.func16, Tryd.ntmps16
  go_wp2
  go_loopw [3, 5, 8] (fun u _ c wr => ∃ k : Nat, k ≤ l.length ∧ c = .int .i64 k ∧ OwnS wr w.heap.size u (l.take k) ∧ Below w.heap.size w wr)
    (fun _ _ c _ => l.length - (intOf c).toNat)
  case atStart => exact ⟨0, by omega, rfl, OwnS.nil _ _, Below.refl _ _⟩
  case round =>
    obtain ⟨k, hk, rfl, hO, hB⟩ := hrel
    by_cases hlt : k < l.length
    · obtain ⟨b, o, rfl, hbw, hrg⟩ := HC.out k hlt
      have hxl : (l.getD k []).length = 32 := HL.out _ (by simp [List.getD_eq_getElem?_getD, hlt])
      have HRG := hid (range_below hrg hB hbw)
      have HTS := hid (show l.take k ++ [l.getD k []] = l.take (k + 1) from by rw [List.take_succ_eq_append_getElem hlt, List.getD_eq_getElem?_getD, List.getElem?_eq_getElem hlt]; rfl)
      have HO := hid hO
      have HB := hid hB
      have htl : (l.take k).length = k := by simp; omega
      clear hO hB hrg
      generalize l.getD k [] = x at *
      generalize l.take k = P at *
      have hsz : (ints .u8 x).size = 32 := by rw [ints_size, hxl]
      have HTX := hid (fun wx => text_any x hxl wx)
      have g1 : (k : Int) < l.length := by omega
      go_upto_region 5 with (first
        | (refine wpList_load_mid rfl _ _ rfl b (o + k * 32) rfl _ _ HRG.out Tryd.underlying27 rfl (by rw [Array.length_toList, hsz]; exact info27) ?_; rw [Array.toArray_toList])
        | (refine wpList_store_row rfl _ _ _ rfl wr.heap.size _ rfl rfl _ _ (heap_alloc_new _ _) (by rw [hsz]; exact info27) (by rw [hsz]; rfl) (ints_one _ _) ?_))
      generalize hw4 : (wr.alloc _).setRow _ _ = w4
      have hb4 : Below wr.heap.size wr w4 := by rw [← hw4]; exact below_setRow ((Below.refl _ _).alloc (Nat.le_refl _) _) (Nat.le_refl _) _
      have HR4 := hid (show Row w4 wr.heap.size .u8 27 x from by rw [← hw4]; exact setRow_heap _ _ _ _ _ _ (heap_alloc_new _ _))
      have HO4 := hid (HO.out.below hb4)
      have HB4 := hid (HB.out.trans (hb4.mono HB.out.size))
      clear hw4 hb4 HRG HO HB
      go_wp2_with (refine wpList_load_row rfl _ _ rfl wr.heap.size rfl _ _ _ _ HR4.out Tryd.underlying27 rfl (by rw [hsz]; exact info27) ?_)
      refine (HTX.out _).mono ?_
      rintro e w5 ⟨rfl, hb5⟩
      have HO5 := hid (HO4.out.below hb5)
      have HB5 := hid (HB4.out.trans (hb5.mono HB4.out.size))
      have hs5 := HB5.out.size
      clear hb5 HO4 HB4 HR4 HTX
      go_wp2_with (refine wpList_appS rfl _ _ rfl w.heap.size _ P rfl (HO5.out.below ((Below.refl _ _).alloc (Nat.le_refl _) _)) _ x rfl (by rw [Addr.add_mid, cell_of_row _ _ _ _ _ _ (heap_alloc_new _ _)]; rfl) (by omega) (by simp; omega) ?_; intro v' w' hown' hbel')
      rw [HTS.out] at hown'
      exact ⟨⟨k + 1, by omega, congrArg (Value.int .i64) (by omega), hown', (HB5.out.alloc hs5 _).trans hbel'⟩, by simp only [intOf]; omega⟩
    · obtain rfl : k = l.length := by omega
      rw [List.take_of_length_le (Nat.le_refl _)] at hO
      have HO := hid hO
      have HB := hid hB
      have g1 : ¬ ((l.length : Int) < l.length) := by omega
      clear hO hB
      go_wp2
      go_ret
      exact ⟨_, rfl, HO.out, HB.out⟩
end Go.Proofs.YtabhdjahdhhgiaaDoor
