/-
  In whatever parts a text comes, its sum is the document's; a clone goes its own way (law ShaParts); for every input.
-/
import Derived.Test.YtnhebfafiikilaaDoorLMacNoughts
import Derived.Test.YtnhebfafiikilaaDoorRefOf
import Derived.Test.YtnhebfafiikilaaDoorLShaAdds
import Derived.Test.YtnhebfafiikilaaDoorRg
import Derived.ChangeSlices
import Derived.LaidEqlPtr
namespace Go.Proofs.YtnhebfafiikilaaDoor
open Go.ChangeShapes Go.WideShapes Go.ChangeAt Go.RowKit
open Go.Lib (hid)

/-- A slice's cells are these numbers. -/
def IntsB (w : World) (ao : Option Addr) (L : List Int) : Prop :=
  ∀ i, i < L.length → ∃ sb so, ao = some ⟨sb, so, none⟩ ∧ w.cell? ⟨sb, so + i, none⟩ = some (.int .i64 (L.getD i 0))
theorem IntsB.below {w w' : World} {ao : Option Addr} {L : List Int} (h : IntsB w ao L) (hb : Below w.heap.size w w') : IntsB w' ao L := by
  intro i hi
  obtain ⟨sb, so, ha, hc⟩ := h i hi
  exact ⟨sb, so, ha, by rw [hb.cell (block_lt_of_cell hc)]; exact hc⟩

theorem open_is {H : Type} {enc : TypeId × Value → H} {W : World} {r : Reach} {b0 : Nat} {v : Value} {d : DataW H} {p : List MemPlace}
    (hv : Value.okWide Tryd.prog W r b0 32 v) (h : DataW.Trod enc Tryd.prog W 0 (fun _ => true) true 32 v d p) :
    ∃ (ao : Option Addr) (L : List Int) (cap : Nat), v = .slice ao L.length cap ∧ IntsB W ao L ∧ L.length ≤ maxLen := by
  obtain ⟨a0, len, cap, rfl⟩ := okWide_slice Tryd.underlying32 hv
  obtain ⟨fuel, hf⟩ := h
  rcases open_ints Tryd.underlying32 Tryd.underlying3 (by kernel_rfl) hf with ⟨hcs, _⟩ | ⟨a, len', cap', ss, hcs, _, hl, hm, hz, _, hcell, _⟩
  · simp only [Value.cells, List.cons.injEq, Value.slice.injEq, and_true] at hcs
    obtain ⟨rfl, rfl, rfl⟩ := hcs
    exact ⟨none, [], 0, rfl, fun i hi => absurd hi (by simp), by simp⟩
  · simp only [Value.cells, List.cons.injEq, Value.slice.injEq, and_true] at hcs
    obtain ⟨rfl, rfl, rfl⟩ := hcs
    simp only [if_true] at hz
    have htl : (ss.take len).length = len := by simp; omega
    refine ⟨some a, ss.take len, cap, by rw [htl], ?_, by omega⟩
    intro i hi
    rw [htl] at hi
    have h1 := hcell i (by omega)
    have h00 := hcell 0 (by omega)
    obtain ⟨b, off, spot⟩ := a
    have hspot : spot = none := by simpa [Addr.add] using World.cell?_spot h00
    subst hspot
    refine ⟨b, off, rfl, ?_⟩
    rw [Addr.add_mid] at h1
    rw [h1]
    simp [hi]

theorem ptr_same (b : Nat) (wx : World) : (binOp .neq 41 (.pointer (some ⟨b, 0, none⟩)) (.pointer (some ⟨b, 0, none⟩))).run Tryd.prog wx = .ok (.bool false) wx := by
  have hi := info40
  obtain ⟨j, hj, _⟩ := Option.map_eq_some_iff.1 hi
  have h : ∀ d : Nat, (Op.equalIn (d + 1) 41 (.pointer (some ⟨b, 0, none⟩)) (.pointer (some ⟨b, 0, none⟩))).run Tryd.prog wx = .ok true wx := fun d => by
    simp [Op.equalIn, run_underlying Tryd.underlying41, sizeOf, typeInfo, hj, run_sameAddr_same]
  simp only [binOp]
  simp [Op.equal, Op.maxDepth, h 9999]

namespace ShaParts
/-- What stays in the test of a round. -/
def S3 (w : World) (bx bc : Nat) (t o : List Nat) (u : World) : Prop := Stt u bx t ∧ Stt u bc o ∧ Tabs u ∧ Below w.heap.size w u ∧ w.heap.size ≤ u.heap.size
theorem S3.keep {w u u' : World} {bx bc : Nat} {t o : List Nat} (h : S3 w bx bc t o u) (hb : Below u.heap.size u u') : S3 w bx bc t o u' :=
  ⟨h.1.below hb, h.2.1.below hb, h.2.2.1.below hb (Nat.le_refl _), h.2.2.2.1.trans (hb.mono h.2.2.2.2), Nat.le_trans h.2.2.2.2 hb.size⟩


set_option maxHeartbeats 4000000 in
set_option maxRecDepth 100000 in
theorem walk (s0 : ByteArray) (ao : Option Addr) (L : List Int) (cap : Nat) (hs0 : s0.size ≤ maxLen) (w : World) (hT : Tabs w) (hA : IntsB w ao L) (hL : L.length ≤ maxLen) :
    Calls Tryd.prog 4 #[.string s0, .slice ao L.length cap] w fun e w' => e = .returned (.bool true) ∧ Below w.heap.size w w' := by
  unfold maxLen at hL
  have HT := hid hT
  have HA := hid hA
  have HC0 := hid (fun wx => cut_any s0 300 wx hs0 (by omega))
  have a0 := cut_lt' s0 300
  have l0 := cut_le' s0 300
  generalize (nums s0).take 300 = T at *
  have HTB := hid a0
  have hz := zero40
  clear hT hA a0
  go_enter Tryd.func4, Tryd.ntmps4
  go_wp2_with fail
  refine (awake_any _ HT.out).mono ?_
  rintro e w1 ⟨rfl, hb1⟩
  go_wp2_with fail
  refine (HC0.out _).mono ?_
  rintro e w1' ⟨rfl, rfl⟩
  have hszT : (str T).size = T.length := str_size T
  obtain ⟨ST, hST⟩ : ∃ ST, ST = str T := ⟨_, rfl⟩
  rw [← hST] at hszT ⊢
  have HST := hid hST
  have HSZ := hid hszT
  have hST300 : ST.size ≤ 300 := by omega
  clear hST hszT HC0
  go_upto_region 7 with (fail)
  have hbx := HT.out.lt
  have hsz1 := hb1.size
  have HX2 := hid (stt_zero (heap_alloc_new w1 (.cells stZ 40)))
  have HB2 := hid (hb1.alloc hsz1 (.cells stZ 40))
  clear hz
  generalize w1.alloc _ = w2 at *
  generalize hbX : w1.heap.size = bx at *
  clear hb1 hbX
  have hg : 0 < bx ∧ 1 < bx := by omega
  have HG := hid hg
  clear hg hbx
  go_loopw [6, 7] (fun l i wr => ∃ k m : Nat, k ≤ 20 ∧ m ≤ T.length ∧ i = .int .i64 k ∧ l = .string (str (T.drop m)) ∧ Stt wr bx (T.take m) ∧ Below w.heap.size w wr)
    (fun _ i _ => 21 - (intOf i).toNat)
  case atStart => exact ⟨0, 0, by omega, by omega, rfl, by rw [HST.out]; rfl, HX2.out, HB2.out⟩
  case round =>
    clear HX2 HB2
    obtain ⟨k, m, hk, hm, rfl, rfl, hst, hbel⟩ := hrel
    have HST0 := hid hst
    have HBL := hid hbel
    have hTw := HT.out.below hbel (Nat.le_refl _)
    have HTW := hid hTw
    obtain ⟨r, hr⟩ : ∃ r, r = T.length - m := ⟨_, rfl⟩
    have hlz : (str (T.drop m)).size = r := by rw [str_size, hr]; simp
    clear hst hbel hTw
    by_cases hlt : k < L.length
    · have t1 : (k : Int) < (L.length : Int) := by omega
      by_cases hlt2 : k < 20
      · have t2 : (k : Int) < 20 := by omega
        obtain ⟨sb, so, rfl, hc⟩ := (HA.out.below HBL.out) k hlt
        generalize L.getD k 0 = cz at *
        obtain ⟨J, hJ, hj⟩ := and_le cz 127 (by omega)
        rw [show ((127 : Nat) : Int) = 127 from rfl] at hj
        obtain ⟨q, hq⟩ : ∃ q, q = min J r := ⟨_, rfl⟩
        have hmin : (if (r : Int) < (J : Int) then (r : Int) else (J : Int)) = (q : Int) := by split <;> omega
        have hmin2 : (if r < J then (r : Int) else (J : Int)) = (q : Int) := by split <;> omega
        have hqm : m + q ≤ T.length := by omega
        have e1 : (str (T.drop m)).extract 0 q = str ((T.drop m).take q) := by
          have := extract_mid (T.drop m) (fun x hx => HTB.out x (List.mem_of_mem_drop hx)) 0 q
          rwa [Nat.zero_add, List.drop_zero] at this
        have e2 : (str (T.drop m)).extract q r = str (T.drop (m + q)) := by
          have := extract_mid (T.drop m) (fun x hx => HTB.out x (List.mem_of_mem_drop hx)) q (T.length - m - q)
          rw [show q + (T.length - m - q) = r from by omega, List.drop_drop, List.take_of_length_le (by simp; omega)] at this
          exact this
        have hqz : (q : Int) ≤ (r : Int) := by omega
        have htk : T.take m ++ (T.drop m).take q = T.take (m + q) := by rw [List.take_add]
        have hb0 : Below wr.heap.size wr (wr.alloc (.cells #[.string (str ((T.drop m).take q)), .string (str [])] 9)) := (Below.refl _ _).alloc (Nat.le_refl _) _
        have HADD := hid (add_any bx (T.take m) [(T.drop m).take q, []] (some ⟨wr.heap.size, 0, none⟩) 2 (by intro x hx; simp only [List.flatten_cons, List.flatten_nil, List.append_nil, List.mem_append, List.not_mem_nil, or_false] at hx; exact HTB.out x (List.mem_of_mem_drop (List.mem_of_mem_take hx))) _ (HTW.out.below hb0 (Nat.le_refl _)) HG.out (HST0.out.below hb0) (strs_two wr ((T.drop m).take q) [] 9) (by simp; omega) (by simp))
        simp only [List.flatten_cons, List.flatten_nil, List.append_nil, htk, List.length_cons, List.length_nil, Nat.zero_add, Nat.reduceAdd] at HADD
        rw [show str [] = (⟨#[]⟩ : ByteArray) from rfl] at HADD hb0
        have HB0 := hid hb0
        have hlz2 : (str (T.drop (m + q))).size = T.length - (m + q) := by rw [str_size]; simp
        have HE2 := hid e2
        have HR := hid hr
        have HQ := hid hq
        clear hr hq
        generalize hSP : str ((T.drop m).take q) = SP at *
        clear hSP
        generalize hSL : str (T.drop m) = SL at *
        clear hSL hb0 htk
        have hpn := fun wx => ptr_same bx wx
        go_upto_region 12 with (go_at_call 21; refine HADD.out.mono ?_; rintro e w3 ⟨rfl, hst3, hk3⟩)
        have HST3 := hid hst3
        have HT3 := hid (HTW.out.below HB0.out (Nat.le_refl _) |>.keptB hk3 HG.out)
        have HB3 := hid ((HBL.out.next (Nat.le_refl _) HB0.out).trans (hk3.below hsz1 (by have := HBL.out.size; have := HB0.out.size; omega)))
        clear hst3 hk3 HADD HB0 hj hmin hmin2 hc e1
        go_upto_region 13 with (fail)
        have hTl : (T.take (m + q)).length = m + q := by simp; omega
        have HCL := hid (clone_any bx (T.take (m + q)) w3 HST3.out)
        clear e2
        generalize hSL2 : str (T.drop (m + q)) = SL2 at *
        have HSL2 := hid hSL2
        clear hSL2
        go_upto_region 16 with (go_at_call 22; refine HCL.out.mono ?_; rintro e w4 ⟨rfl, hst4, hb4⟩)
        have hw3 : bx < w3.heap.size := HST3.out.lt
        have hsz3 := HB3.out.size
        have HADC := hid (add_one w3.heap.size (T.take (m + q)) [111, 116, 104, 101, 114] (by decide) (by rw [hTl]; simp; omega) w4 (HT3.out.below hb4 (Nat.le_refl _)) (by have := HG.out; omega) hst4 9)
        rw [show str [111, 116, 104, 101, 114] = (⟨#[111, 116, 104, 101, 114]⟩ : ByteArray) from rfl] at HADC
        have HST4 := hid (HST3.out.below hb4)
        have HT4 := hid (HT3.out.below hb4 (Nat.le_refl _))
        have HB4 := hid (HB3.out.next (Nat.le_refl _) hb4)
        clear hst4 hb4 HCL hpn HST3 HT3 HB3
        generalize hbc : w3.heap.size = bc at *
        clear hbc
        go_upto_region 17 with (go_at_call 21; refine HADC.out.mono ?_; rintro e w5 ⟨rfl, hst5, hk5⟩)
        have HS5 : Hid (S3 w bx bc (T.take (m + q)) (T.take (m + q) ++ [111, 116, 104, 101, 114]) w5) :=
          ⟨HST4.out.keptB hk5 (by omega), hst5, HT4.out.keptB hk5 (by have := HG.out; omega), HB4.out.trans (hk5.below (by omega) HB4.out.size), Nat.le_trans HB4.out.size hk5.size⟩
        clear hst5 hk5 HADC HST4 HT4 HB4
        have hex : ST.extract 0 (m + q) = str (T.take (m + q)) := by
          have := extract_mid T HTB.out 0 (m + q)
          rwa [Nat.zero_add, List.drop_zero, ← HST.out] at this
        have hlb := HTB.out
        have HTKB := hid (show ∀ x ∈ T.take (m + q), x < 256 from fun x hx => HTB.out x (List.mem_of_mem_take hx))
        have HDN := hid (digest_length (T.take (m + q)))
        have HOL : Hid ((T.take (m + q) ++ [111, 116, 104, 101, 114]).length = m + q + 5) := by rw [List.length_append, hTl]; exact rfl
        clear hlb
        have hd1 : ((ST.size : Int) - ((T.length - (m + q) : Nat) : Int)) = ((m + q : Nat) : Int) := by rw [HSZ.out]; omega
        obtain ⟨t, ht⟩ : ∃ t, t = T.take (m + q) := ⟨_, rfl⟩
        rw [← ht] at hex HTKB HDN HOL HS5 hTl
        obtain ⟨o, ho⟩ : ∃ o, o = t ++ [111, 116, 104, 101, 114] := ⟨_, rfl⟩
        rw [← ho] at HOL HS5
        clear ho
        generalize T.length - (m + q) = r2 at *
        have hTN : t.length ≤ 300 := by omega
        generalize hmq : m + q = N at *
        have HMQ := hid hmq
        have HTE := hid ht
        clear hmq ht
        refine wp_region_class (S3 w bx bc t o) (by kernel_rfl) (by kernel_rfl) (HS5.out.keep ((Below.refl _ _).drew)) ?_
        intro Z φ hne hS hφ
        have HSZ' := hid hS
        have C0 := hid (fun z => calls_class hφ ((stsum_any bx t (φ z) (hS z).2.2.1 (hS z).1 (by omega)).mono fun e w' h => ⟨h.1, (hS z).keep h.2⟩))
        have C1 := hid (fun z => calls_class hφ ((text_any (Sx.digest t) HDN.out (φ z)).mono fun e w' h => ⟨h.1, (hS z).keep h.2⟩))
        have C2 := hid (fun z => calls_class hφ ((refof_any t HTKB.out (by omega) (φ z)).mono fun e w' h => ⟨h.1, (hS z).keep h.2⟩))
        have C3 := hid (fun z => calls_class hφ ((len_any bx t (φ z) (hS z).1).mono fun e w' h => ⟨h.1, h.2 ▸ hS z⟩))
        have C4 := hid (fun z => calls_class hφ ((len_any bc o (φ z) (hS z).2.1).mono fun e w' h => ⟨h.1, h.2 ▸ hS z⟩))
        rw [hTl] at C3
        rw [HOL.out] at C4
        clear hS hφ hTl
        generalize str t = St at *
        generalize Sx.digest t = D at *
        repeat (go_big_quiet_step (first | (go_at_call 23; exact C0.out _) | (go_at_call 16; exact C1.out _) | (go_at_call 17; exact C2.out _) | (go_at_call 24; first | exact C3.out _ | exact C4.out _)))
        refine wpQuiet_nil ?_
        intro z
        clear C0 C1 C2 C3 C4
        go_wp2
        go_roundw
        case rel =>
          first
            | exact ⟨k + 1, N, by omega, by omega, by go_num, by rw [HSL2.out], by rw [← HTE.out]; exact (HSZ'.out z).1, (HSZ'.out z).2.2.2.1⟩
            | ((repeat apply Exists.intro); refine ⟨?_, rfl⟩; exact ⟨k + 1, N, by omega, by omega, by go_num, by rw [HSL2.out], by rw [← HTE.out]; exact (HSZ'.out z).1, (HSZ'.out z).2.2.2.1⟩)
        case measure => simp [intOf]; omega
      · have t2 : ¬ (k : Int) < 20 := by omega
        have HADD := hid (add_one bx (T.take m) (T.drop m) (fun x hx => HTB.out x (List.mem_of_mem_drop hx)) (by simp; omega) wr HTW.out HG.out HST0.out 9)
        rw [List.take_append_drop] at HADD
        have HDN := hid (digest_length T)
        have HRF := hid (fun wx => refof_any T HTB.out (by omega) wx)
        rw [← HST.out] at HRF
        have hTN : T.length ≤ 300 := by omega
        generalize str (T.drop m) = SL at *
        go_wp2_with fail
        refine HADD.out.mono ?_
        rintro e w3 ⟨rfl, hst3, hk3⟩
        have HT3 := hid (HTW.out.keptB hk3 HG.out)
        have HB3 := hid (HBL.out.trans (hk3.below hsz1 HBL.out.size))
        go_wp2_with fail
        refine (stsum_any bx T _ HT3.out hst3 (by omega)).mono ?_
        rintro e w4 ⟨rfl, hb4⟩
        go_wp2_with fail
        refine (text_any (Sx.digest T) HDN.out _).mono ?_
        rintro e w5 ⟨rfl, hb5⟩
        go_wp2_with fail
        refine (HRF.out _).mono ?_
        rintro e w6 ⟨rfl, hb6⟩
        go_wp2_with fail
        go_ret
        exact ⟨rfl, ((HB3.out.next (Nat.le_refl _) hb4).next (Nat.le_refl _) hb5).next (Nat.le_refl _) hb6⟩
    · have t1 : ¬ (k : Int) < (L.length : Int) := by omega
      have HADD := hid (add_one bx (T.take m) (T.drop m) (fun x hx => HTB.out x (List.mem_of_mem_drop hx)) (by simp; omega) wr HTW.out HG.out HST0.out 9)
      rw [List.take_append_drop] at HADD
      have HDN := hid (digest_length T)
      have HRF := hid (fun wx => refof_any T HTB.out (by omega) wx)
      rw [← HST.out] at HRF
      have hTN : T.length ≤ 300 := by omega
      generalize str (T.drop m) = SL at *
      go_wp2_with fail
      refine HADD.out.mono ?_
      rintro e w3 ⟨rfl, hst3, hk3⟩
      have HT3 := hid (HTW.out.keptB hk3 HG.out)
      have HB3 := hid (HBL.out.trans (hk3.below hsz1 HBL.out.size))
      go_wp2_with fail
      refine (stsum_any bx T _ HT3.out hst3 (by omega)).mono ?_
      rintro e w4 ⟨rfl, hb4⟩
      go_wp2_with fail
      refine (text_any (Sx.digest T) HDN.out _).mono ?_
      rintro e w5 ⟨rfl, hb5⟩
      go_wp2_with fail
      refine (HRF.out _).mono ?_
      rintro e w6 ⟨rfl, hb6⟩
      go_wp2_with fail
      go_ret
      exact ⟨rfl, ((HB3.out.next (Nat.le_refl _) hb4).next (Nat.le_refl _) hb5).next (Nat.le_refl _) hb6⟩


theorem contract (H : Type) (enc : TypeId × Value → H) (W : World) (base : Nat) (args : Array Value) (ds gs : List (DataW H)) (before : List MemPlace)
    (hval : ∀ (j : Nat) t v, Tryd.f4.params[j]? = some t → args[j]? = some v → Value.okWide Tryd.prog W .any base t v)
    (hW : DataW.Whole enc Tryd.prog Tryd.f4.params.toList Rows.shaPartsSpec.vars false W args.toList ds gs before) (hL : laidMetH Tryd.prog Rows.shaPartsRow.laid W) :
    Calls Tryd.prog 4 args W fun e W' => ∃ v, e = .returned v ∧ Rows.shaPartsSpec.post enc Tryd.prog Tryd.f4 false true false false W args v W' := by
  have hW' := hW
  obtain ⟨p, q, hA0, hV, rfl, hfz, hnd⟩ := hW
  have hA : DataW.TrodAll enc Tryd.prog W 0 (fun _ => true) true Tryd.f4.params.toList args.toList ds p := hA0
  rw [Tryd.params4] at hA hval
  obtain ⟨v0, vs0, d0, ds0, p0, q0, hargs, rfl, rfl, h0, r0⟩ := trodAll_cons hA
  obtain ⟨v1, vs1, d1, ds1, p1, q1, rfl, rfl, rfl, h1, r1⟩ := trodAll_cons r0
  obtain ⟨rfl, rfl, rfl⟩ := trodAll_nil r1
  obtain rfl : args = #[v0, v1] := by cases args; simp_all
  obtain ⟨s0, rfl, rfl, rfl, hs0⟩ := Go.ChangeMaps.open_string Tryd.underlying9 (hval 0 9 v0 rfl rfl) h0
  obtain ⟨ao1, L1, cap1, rfl, hL1⟩ := open_is (hval 1 32 v1 rfl rfl) h1
  refine (walk s0 ao1 L1 cap1 hs0 W (tabs_of hL) hL1.1 hL1.2).mono fun e W' ⟨he, hb⟩ => ?_
  subst he
  exact ⟨_, rfl, law_post rfl rfl (by rw [Tryd.params4]; decide +kernel) hW' rfl hb⟩

theorem laid_met (os : Os) : laidMet Tryd.prog Rows.shaPartsRow.laid ((laidWorld os).forCall (fun _ _ => 0) ⟨#[], #[.string ByteArray.empty, .slice none 0 0], []⟩).memory :=
  laidMet_of_run' 8 (by kernel_rfl) (by kernel_rfl)
theorem reads (os : Os) {H : Type} (enc : TypeId × Value → H) : ∃ places, DataW.whole enc Tryd.prog ((laidWorld os).forCall (fun _ _ => 0) ⟨#[], #[.string ByteArray.empty, .slice none 0 0], []⟩).memory Tryd.f4.params.toList Rows.shaPartsSpec.vars false (#[.string ByteArray.empty, .slice none 0 0] : Array Value).toList 8
    = some ([.lit (.string []), .nil], [], places) :=
  ⟨[], by kernel_rfl⟩

set_option maxRecDepth 100000 in
theorem lifted (os : Os) (started : os.Started) (H : Type) (enc : TypeId × Value → H) (F : Stop.Interp) :
    ReturnsInHanded {} Tryd.checked os 4 .any ((OpenSpec.ofChange Rows.shaPartsSpec).preRow enc Tryd.prog Tryd.f4 Rows.shaPartsRow.domain false Rows.shaPartsRow.laid) (((OpenSpec.ofChange Rows.shaPartsSpec).at F).post enc Tryd.prog Tryd.f4 false true false false) := by
  obtain ⟨places, hx⟩ := reads os enc
  refine returnsInHanded_of_row (C := Tryd.checked) (s := OpenSpec.ofChange Rows.shaPartsSpec) own started (by kernel_rfl) Tryd.func4
    (witness_row_at (enc := enc) (C := Tryd.checked) false (laidWorld os) #[.string ByteArray.empty, .slice none 0 0] rfl (by kernel_rfl) (by kernel_rfl) (by kernel_rfl)
      (OpenSpec.preRow_of_cond 8 hx (by kernel_rfl) (fun k hk => by cases hk) (by kernel_rfl) (laid_met os))) ?_
  intro W base args ds gs before hval hW _ _ _ hL _ _
  exact contract H enc W base args ds gs before hval hW hL

theorem said : Rows.ShaPartsSaid :=
  OpenClaim.holds_of_cond 4 Tryd.f4 rfl rfl rfl rfl rfl rfl rfl ⟨rfl, rfl, rfl, rfl, rfl⟩ rfl rfl rfl rfl rfl (by kernel_rfl) Tryd.func4 (by kernel_rfl)
    (of_decide_eq_true (by kernel_rfl)) (by unfold Func.isWrapper; first | (rw [if_pos (by decide +kernel)]; kernel_rfl) | (rw [if_neg (by decide +kernel)]; exact ⟨rfl, rfl⟩))
    (fun os started H enc _ F => by rw [OpenClaim.pre_eq_preRow]; exact lifted os started H enc F)

theorem plain (f : FuncId) (fn : Func) (hf : Tryd.pinned.checked.prog.funcNamed "sealwax/sealwaxlaw01.ShaParts" = some f) (hfn : Tryd.pinned.checked.prog.funcs[f]? = some fn) :
    false = Tryd.pinned.checked.prog.looks [] ∧ ∀ (j : Nat) t, fn.params[j]? = some t → Tryd.pinned.checked.prog.wantsStandIn t = false := by
  obtain rfl : f = 4 := Option.some.inj ((show Tryd.prog.funcNamed "sealwax/sealwaxlaw01.ShaParts" = some 4 by kernel_rfl).symm.trans hf) |>.symm
  obtain rfl : fn = Tryd.f4 := (Option.some.inj (Tryd.func4.symm.trans hfn)).symm
  refine ⟨by kernel_rfl, fun j t ht => ?_⟩
  rw [Tryd.params4] at ht
  have hmem := Array.mem_of_getElem? ht
  exact (show ∀ t ∈ (Tryd.f4.params), Tryd.prog.wantsStandIn t = false from by rw [Tryd.params4]; decide +kernel) t (by rw [Tryd.params4]; exact hmem)

theorem card : Rows.ShaPartsCardSaid :=
  Claim7.holds_tied_plain_at .later [] _ _ _ _ said (fun _ h => by cases h) (by kernel_rfl) (fun _ h => by cases h) shaParts_row_tie rfl ⟨rfl, rfl⟩ (by kernel_rfl) rfl plain (by kernel_rfl)

end ShaParts
theorem shaParts_card : Rows.ShaPartsCardSaid := ShaParts.card
end Go.Proofs.YtnhebfafiikilaaDoor
