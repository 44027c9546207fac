/-
  For every tape, texts and number: an ideal suite takes just so many bytes of its tape (law SuiteTape); without conditions.
-/
import Derived.Test.YtgjkkcggcljcdaaDoorSu6
import Derived.Test.YtgjkkcggcljcdaaDoorSu9
import Derived.Test.YtgjkkcggcljcdaaDoorLawKit
namespace Go.Proofs.YtgjkkcggcljcdaaDoor
open Go.ChangeShapes Go.WideShapes Go.ChangeAt Go.RowKit
open Go.Lib (hid)

/-- The row's list gives all tables. -/
theorem tabs8_of {W : World} (h : laidMetH Tryd.prog [("sealwax/poly.kept", Rows.laid_sealwax_poly_kept), ("sealwax/sha.first", Rows.laid_sealwax_sha_first), ("sealwax/sha.constants", Rows.laid_sealwax_sha_constants), ("sealwax/stream.quarters", Rows.laid_sealwax_stream_quarters)] W) : Tabs W ∧ TabK W ∧ TabQ W := by
  have h' : laidMet Tryd.prog [("sealwax/poly.kept", Rows.laid_sealwax_poly_kept), ("sealwax/sha.first", Rows.laid_sealwax_sha_first), ("sealwax/sha.constants", Rows.laid_sealwax_sha_constants), ("sealwax/stream.quarters", Rows.laid_sealwax_stream_quarters)] W := h
  have h2 := laidMet.tail h'
  have h3 := laidMet.tail h2
  have h4 := laidMet.tail h3
  refine ⟨?_, ?_, tabq_of h4⟩
  · rw [dataH] at h2
    rw [dataK] at h3
    have t1 := Lib.tabIs_of_head gH gHType Tryd.underlying98 Tryd.underlying88 cells34 cells35 h2
    have t2 := Lib.tabIs_of_head gK gKType Tryd.underlying162 Tryd.underlying88 cells34 cells67 h3
    refine ⟨fun i hi => ?_, fun i hi => ?_⟩
    · rw [t2.cell gK i (by rw [List.length_map]; exact hi), getD_cast]
    · rw [t1.cell gH i (by rw [List.length_map]; exact hi), getD_cast]
  · rw [dataKp] at h'
    have t1 := Lib.tabIs_of_head gKp gKpType Tryd.underlying44 Tryd.underlying5 (by kernel_rfl) (by kernel_rfl) h'
    intro j v hj
    have hlt : j < Px.kept.length := by have := (List.getElem?_eq_some_iff.1 hj).1; rwa [ints_llen] at this
    rw [Nat.zero_add, t1.cell gKp j (by rw [List.length_map]; exact hlt), getD_cast, ← hj, Array.getElem?_toList, ints_get _ _ _ hlt]

namespace SuiteTape
/-- A world for the witnesses: the settled one, the tables holding what their initialisers lay. -/
noncomputable def laidWorld (os : Os) : World :=
  { World.holding Tryd.prog os ⟨#[], #[], []⟩ with heap := (((((World.holding Tryd.prog os ⟨#[], #[], []⟩).heap.modify 0 (relaid (ints .i64 Cx.flat))).modify 1 (relaid (ints .u8 Px.kept))).modify 2 (relaid (ints .u32 Sx.K))).modify 3 (relaid (ints .u32 Sx.H0))) }

/-- What the first k texts take. -/
def dsum (L : List (List Nat)) (k : Nat) : Nat := ((L.take k).map fun l => l.length + 48).sum
theorem dsum_succ (L : List (List Nat)) (k : Nat) (h : k < L.length) : dsum L (k + 1) = dsum L k + ((L.getD k []).length + 48) := by
  unfold dsum
  rw [List.take_succ_eq_append_getElem h, List.map_append, List.sum_append, List.getD_eq_getElem?_getD, List.getElem?_eq_getElem h]
  simp
theorem dsum_le (L : List (List Nat)) (m : Nat) (h : ∀ l ∈ L, l.length ≤ m) (k : Nat) : dsum L k ≤ k * (m + 48) := by
  induction k with
  | zero => simp [dsum]
  | succ k ih =>
    by_cases hk : k < L.length
    · rw [dsum_succ L k hk]
      have := h (L.getD k []) (by rw [List.getD_eq_getElem?_getD, List.getElem?_eq_getElem hk, Option.getD_some]; exact List.getElem_mem hk)
      rw [Nat.succ_mul]
      omega
    · have e : dsum L (k + 1) = dsum L k := by unfold dsum; rw [List.take_of_length_le (by omega), List.take_of_length_le (by omega)]
      rw [e, Nat.succ_mul]
      omega
/-- What is remembered behind k rounds. -/
structure Inv (T : List Nat) (L : List (List Nat)) (k : Nat) (v : Iv.V) : Prop where
  t : v.T = T
  d : v.d = dsum L k
  l : ∀ q ∈ v.L, q.1.2.1 < k ∧ q.2.length = 16
  ll : v.L.length ≤ k
  ml : v.M.length ≤ k
theorem inv0 (T : List Nat) (L : List (List Nat)) : Inv T L 0 ⟨T, 0, [], [], []⟩ :=
  { t := rfl, d := rfl, l := fun q hq => absurd hq (by simp), ll := Nat.le_refl _, ml := Nat.le_refl _ }
theorem run_at (w : World) (x y : Int) : (Instr.build 33 #[(0, .int .i64 x), (1, .int .i64 y)]).run Tryd.prog w = .ok (.agg #[.int .i64 x, .int .i64 y]) w := run_build w _ _ _ (by kernel_rfl)
/-- The suite behind one more round. -/
def sealV (v : Iv.V) (k : Nat) (s : List Nat) : Iv.V := { v with d := v.d + ((str s).size + 16), S := Mp.put v.S (Iv.lim 2, Iv.lim (k : Int)) (⟨#[]⟩, str s, str (Iv.take v.T v.d ((str s).size + 16))) }
def labV (v : Iv.V) (k : Nat) (s : List Nat) : Iv.V := (Iv.labelOf v (str s, k, 0)).2
theorem inv_label {T : List Nat} {L : List (List Nat)} {k : Nat} {v : Iv.V} (h : Inv T L k v) (s : List Nat) :
    labV (sealV v k s) k s = { sealV v k s with d := v.d + ((str s).size + 16) + 8, L := Mp.put v.L (str s, k, 0) (Iv.fresh (sealV v k s) 8 v.L.length) } := by
  have h0 : Mp.get (sealV v k s).L (str s, k, 0) = none := by
    refine Mp.get_none.2 fun q hq e => ?_
    have := (h.l q hq).1
    rw [e] at this
    exact Nat.lt_irrefl _ this
  unfold labV Iv.labelOf
  rw [h0]
  rfl
theorem inv_label2 {T : List Nat} {L : List (List Nat)} {k : Nat} {v : Iv.V} (h : Inv T L k v) (s : List Nat) : labV (labV (sealV v k s) k s) k s = labV (sealV v k s) k s := by
  rw [inv_label h]
  have h1 : Mp.get (Mp.put v.L (str s, k, 0) (Iv.fresh (sealV v k s) 8 v.L.length)) (str s, k, 0) = some (Iv.fresh (sealV v k s) 8 v.L.length) := by rw [Mp.get_put, if_pos rfl]
  unfold labV Iv.labelOf
  simp only [h1]
theorem inv_lab16 {T : List Nat} {L : List (List Nat)} {k : Nat} {v : Iv.V} (h : Inv T L k v) (s : List Nat) : (∀ q ∈ (labV (sealV v k s) k s).L, q.1.2.1 < k + 1 ∧ q.2.length = 16) ∧ (labV (sealV v k s) k s).L.length ≤ k + 1 := by
  rw [inv_label h]
  constructor
  · intro q hq
    rcases Mp.mem_put hq with hq | rfl
    · exact ⟨Nat.lt_succ_of_lt (h.l q hq).1, (h.l q hq).2⟩
    · exact ⟨Nat.lt_succ_self k, Iv.fresh_length _ _ _⟩
  · show (Mp.put v.L _ _).length ≤ _
    rw [Mp.length_put]
    have := h.ll
    split <;> omega
theorem inv_next {T : List Nat} {L : List (List Nat)} {k : Nat} {v : Iv.V} (h : Inv T L k v) (hk : k < L.length) (t : ByteArray) : Inv T L (k + 1) (Iv.sign (labV (sealV v k (L.getD k [])) k (L.getD k [])) t).2 := by
  have h16 := inv_lab16 h (L.getD k [])
  have hl := inv_label h (L.getD k [])
  refine ⟨?_, ?_, h16.1, h16.2, ?_⟩
  · rw [hl]; exact h.t
  · rw [hl, dsum_succ L k hk, ← h.d]
    show v.d + ((str (L.getD k [])).size + 16) + 8 + 24 = _
    rw [str_size]
    omega
  · show (Mp.put _ _ _).length ≤ _
    rw [hl, Mp.length_put]
    have := h.ml
    show (if _ then v.M.length + 1 else v.M.length) ≤ _
    split
    · exact Nat.succ_le_succ this
    · exact Nat.le_succ_of_le this

theorem own_block {w : World} {base : Nat} {v : Value} {L : List (List Nat)} (h : OwnS w base v L) (hL : 0 < L.length) : ∃ g cap, v = .slice (some ⟨g, 0, none⟩) L.length cap ∧ base ≤ g ∧ g < w.heap.size ∧ ∀ i, i < L.length → w.cell? ⟨g, 0 + i, none⟩ = some (.string (str (L.getD i []))) := by
  obtain ⟨ao, cap, hv, hs⟩ := h.strs
  obtain ⟨h1, ⟨_, h0⟩ | ⟨g, cap', cur, hv', hg, hh, hn, _, _, hc⟩⟩ := h
  · omega
  · rw [hv] at hv'
    simp only [Value.slice.injEq, true_and] at hv'
    obtain ⟨rfl, rfl⟩ := hv'
    refine ⟨g, cap, hv, hg, (Array.getElem?_eq_some_iff.1 hh).1, fun i hi => ?_⟩
    obtain ⟨sb, so, ha, hcell⟩ := hs i hi
    injection ha with ha
    injection ha with e1 e2 _
    subst e1 e2
    exact hcell

set_option maxHeartbeats 4000000 in
set_option maxRecDepth 100000 in
theorem walk (TT : World → Prop) (HAW : ∀ wx, TT wx → Calls Tryd.prog 6 #[] wx fun e w' => e = .returned (.bool true) ∧ Below wx.heap.size wx w')
    (s0 : ByteArray) (hs0 : s0.size ≤ maxLen) (ao : Option Addr) (L0 : List ByteArray) (cap : Nat) (n : Int) (w : World) (hT : TT w) (hA : StrsB w ao L0) (hL0 : L0.length ≤ maxLen) (hB0 : ∀ s ∈ L0, s.size ≤ maxLen) :
    Calls Tryd.prog 5 #[.string s0, .slice ao L0.length cap, .int .i64 n] w fun e w' => e = .returned (.bool true) ∧ Below w.heap.size w w' := by
  have HAWK := hid (HAW w hT)
  have HC0 := hid (fun wx => cut_any s0 20 wx hs0 (by omega))
  obtain ⟨t, ht⟩ : ∃ t, t = (nums s0).take 20 := ⟨_, rfl⟩
  have tb : ∀ x ∈ t, x < 256 := by rw [ht]; exact fun x hx => nums_lt s0 x (List.mem_of_mem_take hx)
  have tl : t.length ≤ 20 := by rw [ht, List.length_take]; omega
  rw [← ht, show ((20 : Nat) : Int) = 20 from rfl] at HC0
  have HID := hid (fun wx => ideal_any t wx (by omega))
  obtain ⟨hT1, hT2, hT3⟩ := Iv.tapeOf_ok t tb
  have HFE := hid (fun wx (hx : StrsB wx ao L0) => few_any ao L0 cap 6 50 wx hx hL0 hB0 (by omega) (by omega))
  rw [show ((6 : Nat) : Int) = 6 from rfl, show ((50 : Nat) : Int) = 50 from rfl] at HFE
  obtain ⟨L, hL⟩ : ∃ L, L = few L0 6 50 := ⟨_, rfl⟩
  rw [← hL] at HFE
  have hLl : L.length ≤ 6 := by rw [hL, few_length]; omega
  have hLb : ∀ l ∈ L, l.length ≤ 50 := by
    rw [hL]
    intro l hl
    obtain ⟨s, _, rfl⟩ := List.mem_map.1 hl
    rw [List.length_take]; omega
  have HA := hid hA
  generalize Iv.tapeOf t = T at *
  clear hT HAW hA hs0 hL0 hB0 ht hL tb
  go_enter Tryd.func5, Tryd.ntmps5
  go_wp2_with fail
  refine HAWK.out.mono ?_
  rintro e w1 ⟨rfl, hb1⟩
  have HB1 := hid hb1
  clear hb1 HAWK
  go_wp2_with fail
  refine (HC0.out _).mono ?_
  rintro e w2 ⟨rfl, hw2⟩
  obtain rfl : w1 = w2 := hw2
  go_wp2_with fail
  refine (HID.out _).mono ?_
  rintro e w2 ⟨b, b1, b2, b3, rfl, h2, g0, g1, g2, g3, hb2⟩
  have HB2 := hid (HB1.out.next (Nat.le_refl _) hb2)
  have H2 := hid h2
  clear hb2 h2 HC0 HID
  go_wp2_with fail
  refine (HFE.out _ (HA.out.below HB2.out)).mono ?_
  rintro e w3 ⟨fv, rfl, hown, hb3⟩
  have hFB := fun hL => own_block hown hL
  obtain ⟨fo, fcap, hfv, _⟩ := hown.strs
  subst hfv
  have HFB := hid (show ∀ k, k < L.length → ∃ g, fo = some ⟨g, 0, none⟩ ∧ w2.heap.size ≤ g ∧ g < w3.heap.size ∧ w3.cell? ⟨g, 0 + k, none⟩ = some (.string (str (L.getD k []))) from by
    intro k hk
    obtain ⟨g, c', hv, h1, h2, h3⟩ := hFB (by omega)
    simp only [Value.slice.injEq, true_and] at hv
    exact ⟨g, hv.1, h1, h2, h3 k hk⟩)
  clear hFB hown
  have HB3 := hid (HB2.out.next (Nat.le_refl _) hb3)
  have H3 := hid (H2.out.below hb3)
  have q0 : b < w2.heap.size := (Array.getElem?_eq_some_iff.1 H2.out.row).1
  have q1 := H2.out.m1.lt
  have q2 := H2.out.m2.lt
  have q3 := H2.out.m3.lt
  have hs1 := HB1.out.size
  have hs3 := hb3.size
  clear hb3 HFE HA H2 HB2
  go_upto_region 8 with (fail)
  go_loopw [8, 22] (fun x i wr => ∃ (k : Nat) (v : Iv.V), k ≤ L.length ∧ i = .int .i64 k ∧ x = .int .i64 (v.d : Int) ∧ Inv T L k v ∧ IsI wr b b1 b2 b3 v ∧ KeptP (suB b b1 b2 b3) w3 wr)
    (fun _ i _ => L.length - (intOf i).toNat)
  case atStart => exact ⟨0, _, by omega, rfl, rfl, inv0 T L, H3.out, KeptP.refl _ _⟩
  case round =>
    clear H3
    obtain ⟨k, v, hk, rfl, rfl, hinv, hisI, hkept⟩ := hrel
    by_cases hlt : k < L.length
    · obtain ⟨g, rfl, hg1, hg2, hgc⟩ := HFB.out k hlt
      have hc : wr.cell? ⟨g, 0 + k, none⟩ = some (.string (str (L.getD k []))) := by
        rw [← hgc]
        simp only [World.cell?, hkept.block g hg2 (fun h => by unfold suB at h; omega)]
      rw [Nat.zero_add] at hc
      have hTv : v.T = T := hinv.t
      have hdv : v.d ≤ 600 := by
        rw [hinv.d]
        have h1 := dsum_le L 50 hLb k
        have h2 : k * (50 + 48) ≤ 6 * 98 := Nat.mul_le_mul (by omega) (Nat.le_refl _)
        omega
      have hml := hinv.ml
      have hll := hinv.ll
      have h16 := inv_lab16 hinv (L.getD k [])
      have hlab := inv_label hinv (L.getD k [])
      have hlab2 := inv_label2 hinv (L.getD k [])
      have HNX := hid (inv_next hinv hlt (str (L.getD k [])))
      have HV16 := hid (show ∀ q ∈ (sealV v k (L.getD k [])).L, q.2.length = 16 from fun q hq => (hinv.l q hq).2)
      have hsl : (L.getD k []).length ≤ 50 := hLb _ (by rw [List.getD_eq_getElem?_getD, List.getElem?_eq_getElem hlt, Option.getD_some]; exact List.getElem_mem hlt)
      generalize L.getD k [] = s at *
      have hss : (str s).size = s.length := str_size s
      have hmax : s.length ≤ maxLen := by unfold maxLen; omega
      have HSE := hid (seal_any b b1 b2 b3 v (by rw [hTv]; exact hT2) (by rw [hTv]; exact hT1) (by rw [hTv]; omega) (by omega) 2 (k : Int) ⟨#[]⟩ (str s) (by omega) wr hisI)
      obtain ⟨v1, hv1⟩ : ∃ v1, v1 = sealV v k s := ⟨_, rfl⟩
      obtain ⟨v2, hv2⟩ : ∃ v2, v2 = labV v1 k s := ⟨_, rfl⟩
      have hv1d : v1.d = v.d + ((str s).size + 16) := by rw [hv1]; rfl
      have hv1T : v1.T = T := by rw [hv1]; exact hTv
      have hv1L : v1.L.length ≤ k := by rw [hv1]; exact hll
      have hv2d : v2.d = v1.d + 8 := by rw [hv2, hv1, hlab]; rfl
      have hv2T : v2.T = T := by rw [hv2, hv1, hlab]; exact hTv
      have hv2M : v2.M.length ≤ k := by rw [hv2, hv1, hlab]; exact hml
      have hv22 : labV v2 k s = v2 := by rw [hv2, hv1]; exact hlab2
      rw [← hv1, ← hv2] at h16
      rw [← hv1, ← hv2] at HNX
      rw [← hv1] at HV16
      have HSE2 : Hid (Calls Tryd.prog 10 #[.pointer (some ⟨b, 0, none⟩), .agg #[.int .i64 2, .int .i64 (k : Int)], .string ⟨#[]⟩, .string (str s)] wr fun e w' => e = .returned (.string (str (Iv.take v.T v.d ((str s).size + 16)))) ∧ IsI w' b b1 b2 b3 v1 ∧ KeptP (fun k => k = b ∨ k = b1) wr w') := hid (by rw [hv1]; exact HSE.out)
      have HD1 := hid (fun wx (hx : IsI wx b b1 b2 b3 v1) => drawn_any b b1 b2 b3 v1 (by omega) wx hx)
      have HL1 := hid (fun wx (hx : IsI wx b b1 b2 b3 v1) => label_any b b1 b2 b3 v1 (by rw [hv1T]; exact hT2) (by rw [hv1T]; exact hT1) (by rw [hv1T]; omega) (by omega) (by omega) HV16.out (str s) (k : Int) 0 (by omega) (by omega) (by omega) wx hx)
      have HL2 := hid (fun wx (hx : IsI wx b b1 b2 b3 v2) => label_any b b1 b2 b3 v2 (by rw [hv2T]; exact hT2) (by rw [hv2T]; exact hT1) (by rw [hv2T]; omega) (by omega) (by omega) (fun q hq => (h16.1 q hq).2) (str s) (k : Int) 0 (by omega) (by omega) (by omega) wx hx)
      rw [Int.toNat_natCast, show (0 : Int).toNat = 0 from rfl, show (Iv.labelOf v1 (str s, k, 0)).2 = v2 from hv2.symm] at HL1
      rw [Int.toNat_natCast, show (0 : Int).toNat = 0 from rfl, show (Iv.labelOf v2 (str s, k, 0)).2 = v2 from hv22] at HL2
      have HMC := hid (fun bk wx hbk hA hx => smac_any b b1 b2 b3 v2 (by rw [hv2T]; exact hT2) (by rw [hv2T]; exact hT1) (by rw [hv2T]; omega) (by omega) (by omega) bk 0 1 [s] (by simp) (by simp) (by simp) (by simp; omega) hbk wx hA hx)
      rw [show [s].length = 1 from rfl, show [s].flatten = s from by simp] at HMC
      obtain ⟨v3, hv3⟩ : ∃ v3, v3 = (Iv.sign v2 (str s)).2 := ⟨_, rfl⟩
      have hv3d : v3.d = v2.d + 24 := by rw [hv3]; rfl
      rw [← hv3] at HMC HNX
      have HD3 := hid (fun wx (hx : IsI wx b b1 b2 b3 v3) => drawn_any b b1 b2 b3 v3 (by omega) wx hx)
      have hcs : (str (Iv.take v.T v.d ((str s).size + 16))).size = (str s).size + 16 := by rw [str_size, Iv.take_length]
      have hcsi : ((str (Iv.take v.T v.d ((str s).size + 16))).size : Int) = ((str s).size : Int) + 16 := by omega
      have hst := fun wx => strs_one wx s 9
      have HST := hid hst
      have HV3 := hid (show ((v3.d : Nat) : Int) = (v.d : Int) + (((str s).size : Int) + 16) + 32 from by omega)
      rw [show ((v1.d : Nat) : Int) = (v.d : Int) + (((str s).size : Int) + 16) from by omega] at HD1
      rw [show ((v3.d : Nat) : Int) = (v.d : Int) + (((str s).size : Int) + 16) + 32 from by omega] at HD3
      have HK := hid hkept
      have hsi : (str s).size ≤ 50 := by omega
      clear HSE hinv hisI hkept hst h16 hlab hlab2 hll hml HV16 hcs hss hv22 hv2 hv1 hv3 hgc
      generalize str (Iv.take v.T v.d ((str s).size + 16)) = CC at *
      generalize str s = SS at *
      clear HFB
      go_wp2_with (refine wpList_build rfl _ _ rfl _ rfl _ (run_at _ _ _) ?_)
      refine HSE2.out.mono ?_
      rintro e w4 ⟨rfl, h4, hk4⟩
      go_wp2_with fail
      refine (HD1.out _ h4).mono ?_
      rintro e w4' ⟨rfl, hw4⟩
      obtain rfl : w4' = w4 := hw4
      go_wp2_with fail
      refine (HL1.out _ h4).mono ?_
      rintro e w5 ⟨rfl, h5, hk5⟩
      go_wp2_with fail
      refine (HL2.out _ h5).mono ?_
      rintro e w6 ⟨rfl, h6, hk6⟩
      have hb6 : b < w6.heap.size := (Array.getElem?_eq_some_iff.1 h6.row).1
      have H7 := hid (h6.below ((Below.refl _ w6).alloc (Nat.le_refl _) (.cells #[.string SS] 9)))
      go_wp2_with fail
      refine (HMC.out _ _ (by omega) (HST.out w6) H7.out).mono ?_
      rintro e w8 ⟨rfl, h8, hk8⟩
      go_wp2_with fail
      refine (HD3.out _ h8).mono ?_
      rintro e w8' ⟨rfl, hw8⟩
      obtain rfl : w8' = w8 := hw8
      go_wp2_with fail
      have kk : KeptP (suB b b1 b2 b3) w3 w8' := by
        refine HK.out.trans ((hk4.mono ?_).trans ((hk5.mono ?_).trans ((hk6.mono ?_).trans ((KeptP.of_below ((Below.refl _ w6).alloc (Nat.le_refl _) (.cells #[.string SS] 9))).trans (hk8.mono ?_)))))
        · rintro k (rfl | rfl)
          · exact Or.inl rfl
          · exact Or.inr (Or.inl rfl)
        · rintro k (rfl | rfl)
          · exact Or.inl rfl
          · exact Or.inr (Or.inr (Or.inl rfl))
        · rintro k (rfl | rfl)
          · exact Or.inl rfl
          · exact Or.inr (Or.inr (Or.inl rfl))
        · rintro k (rfl | rfl)
          · exact Or.inl rfl
          · exact Or.inr (Or.inr (Or.inr rfl))
      go_roundw
      case rel =>
        first
          | exact ⟨k + 1, v3, by omega, by go_num, by rw [HV3.out], HNX.out, h8, kk⟩
          | ((repeat apply Exists.intro); refine ⟨?_, rfl⟩; exact ⟨k + 1, v3, by omega, by go_num, by rw [HV3.out], HNX.out, h8, kk⟩)
      case measure => simp [intOf]; omega
    · obtain rfl : k = L.length := by omega
      have HK := hid hkept
      clear hinv hisI hkept HFB
      go_wp2
      go_ret
      refine ⟨rfl, HB3.out.trans (HK.out.below (fun k hk => ?_) HB3.out.size)⟩
      unfold suB at hk
      omega


set_option maxRecDepth 100000 in
theorem contract (H : Type) (enc : TypeId × Value → H) (W : World) (base : Nat) (args : Array Value) (ds gs : List (DataW H)) (before : List MemPlace)
    (hval : ∀ (j : Nat) t v, Tryd.f5.params[j]? = some t → args[j]? = some v → Value.okWide Tryd.prog W .any base t v)
    (hW : DataW.Whole enc Tryd.prog Tryd.f5.params.toList Rows.suiteTapeSpec.vars false W args.toList ds gs before) (hL : laidMetH Tryd.prog Rows.suiteTapeRow.laid W) :
    Calls Tryd.prog 5 args W fun e W' => ∃ v, e = .returned v ∧ Rows.suiteTapeSpec.post enc Tryd.prog Tryd.f5 false true false false W args v W' := by
  have hW' := hW
  obtain ⟨p, q, hA0, hV, rfl, hfz, hnd⟩ := hW
  have hA : DataW.TrodAll enc Tryd.prog W 0 (fun _ => true) true Tryd.f5.params.toList args.toList ds p := hA0
  rw [Tryd.params5] at hA hval
  obtain ⟨v0, vs0, d0, ds0, p0, q0, hargs, rfl, rfl, h0, r0⟩ := trodAll_cons hA
  obtain ⟨v1, vs1, d1, ds1, p1, q1, rfl, rfl, rfl, h1, r1⟩ := trodAll_cons r0
  obtain ⟨v2, vs2, d2, ds2, p2, q2, rfl, rfl, rfl, h2, r2⟩ := trodAll_cons r1
  obtain ⟨rfl, rfl, rfl⟩ := trodAll_nil r2
  obtain rfl : args = #[v0, v1, v2] := by cases args; simp_all
  obtain ⟨s0, rfl, rfl, rfl, hs0⟩ := Go.ChangeMaps.open_string Tryd.underlying9 (hval 0 9 v0 rfl rfl) h0
  obtain ⟨ao1, L1, cap1, rfl, hL1, hb1⟩ := open_strs (hval 1 22 v1 rfl rfl) h1
  obtain ⟨n2, rfl, rfl, rfl, wn2⟩ := open_int Tryd.underlying3 (hval 2 3 v2 rfl rfl) h2
  refine (walk _ awake8_any s0 hs0 ao1 L1 cap1 n2 W (tabs8_of hL) hL1 hb1.1 hb1.2).mono fun e W' ⟨he, hb⟩ => ?_
  subst he
  exact ⟨_, rfl, law_post rfl rfl (by rw [Tryd.params5]; decide +kernel) hW' rfl hb⟩

theorem laid_met (os : Os) : laidMet Tryd.prog Rows.suiteTapeRow.laid ((laidWorld os).forCall (fun _ _ => 0) ⟨#[], #[.string ByteArray.empty, .slice none 0 0, .int .i64 0], []⟩).memory :=
  laidMet_of_run' 8 (by kernel_rfl) (by kernel_rfl)
theorem reads (os : Os) {H : Type} (enc : TypeId × Value → H) : ∃ places, DataW.whole enc Tryd.prog ((laidWorld os).forCall (fun _ _ => 0) ⟨#[], #[.string ByteArray.empty, .slice none 0 0, .int .i64 0], []⟩).memory Tryd.f5.params.toList Rows.suiteTapeSpec.vars false (#[.string ByteArray.empty, .slice none 0 0, .int .i64 0] : Array Value).toList 8
    = some ([.lit (.string []), .nil, .lit (.int .i64 0)], [], places) :=
  ⟨[], by kernel_rfl⟩

set_option maxRecDepth 100000 in
theorem lifted (os : Os) (started : os.Started) (H : Type) (enc : TypeId × Value → H) (F : Stop.Interp) :
    ReturnsInHanded {} Tryd.checked os 5 .any ((OpenSpec.ofChange Rows.suiteTapeSpec).preRow enc Tryd.prog Tryd.f5 Rows.suiteTapeRow.domain false Rows.suiteTapeRow.laid) (((OpenSpec.ofChange Rows.suiteTapeSpec).at F).post enc Tryd.prog Tryd.f5 false true false false) := by
  obtain ⟨places, hx⟩ := reads os enc
  refine returnsInHanded_of_row (C := Tryd.checked) (s := OpenSpec.ofChange Rows.suiteTapeSpec) own started (by kernel_rfl) Tryd.func5
    (witness_row_at (enc := enc) (C := Tryd.checked) false (laidWorld os) #[.string ByteArray.empty, .slice none 0 0, .int .i64 0] rfl (by kernel_rfl) (by kernel_rfl) (by kernel_rfl)
      (OpenSpec.preRow_of_cond 8 hx (by kernel_rfl) (fun k hk => by cases hk) (by kernel_rfl) (laid_met os))) ?_
  intro W base args ds gs before hval hW _ _ _ hL _ _
  exact contract H enc W base args ds gs before hval hW hL

theorem said : Rows.SuiteTapeSaid :=
  OpenClaim.holds_of_cond 5 Tryd.f5 rfl rfl rfl rfl rfl rfl rfl ⟨rfl, rfl, rfl, rfl, rfl⟩ rfl rfl rfl rfl rfl (by kernel_rfl) Tryd.func5 (by kernel_rfl)
    (of_decide_eq_true (by kernel_rfl)) (by unfold Func.isWrapper; first | (rw [if_pos (by decide +kernel)]; kernel_rfl) | (rw [if_neg (by decide +kernel)]; exact ⟨rfl, rfl⟩))
    (fun os started H enc _ F => by rw [OpenClaim.pre_eq_preRow]; exact lifted os started H enc F)

theorem plain (f : FuncId) (fn : Func) (hf : Tryd.pinned.checked.prog.funcNamed "sealwax/sealwaxlaw08.SuiteTape" = some f) (hfn : Tryd.pinned.checked.prog.funcs[f]? = some fn) :
    false = Tryd.pinned.checked.prog.looks [] ∧ ∀ (j : Nat) t, fn.params[j]? = some t → Tryd.pinned.checked.prog.wantsStandIn t = false := by
  obtain rfl : f = 5 := Option.some.inj ((show Tryd.prog.funcNamed "sealwax/sealwaxlaw08.SuiteTape" = some 5 by kernel_rfl).symm.trans hf) |>.symm
  obtain rfl : fn = Tryd.f5 := (Option.some.inj (Tryd.func5.symm.trans hfn)).symm
  refine ⟨by kernel_rfl, fun j t ht => ?_⟩
  rw [Tryd.params5] at ht
  have hmem := Array.mem_of_getElem? ht
  exact (show ∀ t ∈ (Tryd.f5.params), Tryd.prog.wantsStandIn t = false from by rw [Tryd.params5]; decide +kernel) t (by rw [Tryd.params5]; exact hmem)

theorem card : Rows.SuiteTapeCardSaid :=
  Claim7.holds_tied_plain_at .later [] _ _ _ _ said (fun _ h => by cases h) (by kernel_rfl) (fun _ h => by cases h) suiteTape_row_tie rfl ⟨rfl, rfl⟩ (by kernel_rfl) rfl plain (by kernel_rfl)

end SuiteTape
theorem suiteTape_card : Rows.SuiteTapeCardSaid := SuiteTape.card
end Go.Proofs.YtgjkkcggcljcdaaDoor
