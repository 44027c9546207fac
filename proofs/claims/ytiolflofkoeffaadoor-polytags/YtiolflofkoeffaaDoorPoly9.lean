/-
  Layer 4: what (*state).take does: the state of a text.
-/
import Derived.Test.YtiolflofkoeffaaDoorPoly8
namespace Go.Proofs.YtiolflofkoeffaaDoor
open Go.RowKit
open Go.Lib (hid)

namespace Px
/-- The sum behind k whole blocks of x. -/
def sumN (r x : List Nat) : Nat → List Nat
  | 0 => List.replicate 5 0
  | k + 1 => times (plus (sumN r x k) (numberOf ((x.drop (16 * k)).take 16 ++ [1]))) r
def restOf (x : List Nat) : List Nat := x.drop (16 * (x.length / 16)) ++ List.replicate (17 - x.length % 16) 0
theorem sumN_length (r x : List Nat) (k : Nat) : (sumN r x k).length = 5 := by
  cases k with
  | zero => rfl
  | succ k => exact times_length _ _
theorem ok_sumN (r x : List Nat) (k : Nat) : Ok (sumN r x k) := by
  cases k with
  | zero => intro u hu; rw [List.eq_of_mem_replicate hu]; decide
  | succ k => exact ok_times _ _
theorem sumN_append (r x y : List Nat) (k : Nat) (h : 16 * k ≤ x.length) : sumN r (x ++ y) k = sumN r x k := by
  induction k with
  | zero => rfl
  | succ k ih =>
    simp only [sumN]
    rw [ih (by omega), List.drop_append_of_le_length (by omega), List.take_append_of_le_length (by simp; omega)]
theorem tail_length (x : List Nat) : (x.drop (16 * (x.length / 16))).length = x.length % 16 := by rw [List.length_drop]; omega
theorem restOf_length (x : List Nat) : (restOf x).length = 17 := by
  rw [restOf, List.length_append, tail_length, List.length_replicate]; omega
theorem restOf_lt (x : List Nat) (h : ∀ c ∈ x, c < 256) : ∀ c ∈ restOf x, c < 256 := by
  intro c hc
  rcases List.mem_append.1 hc with h1 | h1
  · exact h c (List.mem_of_mem_drop h1)
  · rw [List.eq_of_mem_replicate h1]; omega
/-- The bytes laid behind those that wait. -/
def laidP (q : List Nat) (p : Nat) (c : List Nat) : List Nat := q.take p ++ (c ++ q.drop (p + c.length))
theorem laid_rest (x c : List Nat) (_h : x.length % 16 + c.length ≤ 16) : laidP (restOf x) (x.length % 16) c = x.drop (16 * (x.length / 16)) ++ (c ++ List.replicate (17 - (x.length % 16 + c.length)) 0) := by
  unfold laidP restOf
  rw [List.take_left' (tail_length x)]
  congr 2
  rw [List.drop_append, List.drop_of_length_le (by rw [tail_length]; omega), tail_length, Nat.add_sub_cancel_left, List.drop_replicate, List.nil_append]
  congr 1
  omega
theorem rest_part (x c : List Nat) (h : x.length % 16 + c.length < 16) : laidP (restOf x) (x.length % 16) c = restOf (x ++ c) := by
  rw [laid_rest x c (by omega)]
  unfold restOf
  rw [List.length_append, show (x.length + c.length) / 16 = x.length / 16 from by omega, show (x.length + c.length) % 16 = x.length % 16 + c.length from by omega, List.drop_append_of_le_length (by omega), List.append_assoc]
theorem sum_full (r x c : List Nat) (h : x.length % 16 + c.length = 16) :
    added r (sumN r x (x.length / 16)) (laidP (restOf x) (x.length % 16) c) 16 = sumN r (x ++ c) ((x ++ c).length / 16) := by
  rw [laid_rest x c (by omega), h, List.length_append, show (x.length + c.length) / 16 = x.length / 16 + 1 from by omega]
  unfold added
  show _ = times (plus (sumN r (x ++ c) (x.length / 16)) (numberOf (((x ++ c).drop (16 * (x.length / 16))).take 16 ++ [1]))) r
  rw [sumN_append r x c _ (by omega), List.drop_append_of_le_length (by omega)]
  have hl : (x.drop (16 * (x.length / 16)) ++ c).length = 16 := by rw [List.length_append, tail_length, h]
  rw [List.take_of_length_le (by omega), ← List.append_assoc, show List.replicate (17 - 16) 0 = [0] from rfl, List.set_append_right _ _ (by omega), hl]
  rfl
theorem rest_full (x c : List Nat) (h : x.length % 16 + c.length = 16) : restOf (x ++ c) = List.replicate 17 0 := by
  unfold restOf
  rw [List.length_append, show (x.length + c.length) % 16 = 0 from by omega, List.drop_of_length_le (by simp; omega)]
  rfl
end Px

/-- Block b is a state that has taken the text x. -/
def PSt (w : World) (b : Nat) (r s x : List Nat) : Prop := PAt w b r s (Px.sumN r x (x.length / 16)) (Px.restOf x) (x.length % 16)
theorem pst_ok {r s x : List Nat} (hr : r.length = 5) (hs : s.length = 5) (or : Px.Ok r) (os : Px.Ok s) (hx : ∀ c ∈ x, c < 256) : POk r s (Px.sumN r x (x.length / 16)) (Px.restOf x) (x.length % 16) :=
  ⟨hr, hs, Px.sumN_length _ _ _, Px.restOf_length x, or, os, Px.ok_sumN _ _ _, Px.restOf_lt x hx, by omega⟩
theorem slice_pr (w : World) (b p : Nat) (hp : p < 16) :
    (Instr.sliceAt 68 (.pointer (some ⟨b, 15, none⟩)) (some (.int .i64 (p : Int))) (some (.int .i64 16)) none).run Tryd.prog w = .ok (.slice (some ⟨b, 15 + p, none⟩) (16 - p) (17 - p)) w := by
  obtain ⟨f, hf, hf1⟩ := Option.map_eq_some_iff.1 info5'
  have h1 : (0 : Int) ≤ (p : Int) := by omega
  have h2 : (p : Int) ≤ 16 := by omega
  have h3 : ¬ 17 = p := by omega
  have h4 : (⟨b, 15, none⟩ : Addr).add p = ⟨b, 15 + p, none⟩ := Addr.add_mid b 15 p
  simp [Instr.sliceAt, Instr.sureAddr, run_underlying Tryd.underlying68, Instr.sliceBounds, run_sliceBound, sizeOf, typeInfo, hf, hf1, h1, h2, h3, h4]
theorem pC_laid (r s m q : List Nat) (c : Nat) (k : POk r s m q c) (p : Nat) (y : List Nat) (hp : p + y.length ≤ 17) :
    ((pC r s m q c).toList.take (15 + p) ++ ((ints .u8 y).toList ++ (pC r s m q c).toList.drop (15 + p + y.length))).toArray = pC r s m (Px.laidP q p y) c := by
  have h15 : ((ints .u64 r).toList ++ (ints .u64 s).toList ++ (ints .u64 m).toList).length = 15 := by simp only [List.length_append, ints_llen, k.lr, k.ls, k.lm]
  have h17 : (ints .u8 q).toList.length = 17 := by rw [ints_llen, k.lq]
  apply Array.toList_inj.1
  rw [pC_q, pC_q]
  rw [List.take_append, List.drop_append, h15, List.take_of_length_le (by omega), List.drop_of_length_le (by omega), show 15 + p - 15 = p from by omega, show 15 + p + y.length - 15 = p + y.length from by omega,
    List.take_append_of_le_length (by omega), List.drop_append_of_le_length (by omega)]
  simp [ints, Px.laidP, List.map_take, List.map_drop]

set_option maxHeartbeats 2000000 in
set_option maxRecDepth 100000 in
theorem ptake_any (b : Nat) (r s x t : List Nat) (hr : r.length = 5) (hs : s.length = 5) (or : Px.Ok r) (os : Px.Ok s) (hx : ∀ c ∈ x, c < 256) (ht : ∀ c ∈ t, c < 256) (w : World) (h : PSt w b r s x) :
    Calls Tryd.prog 35 #[.pointer (some ⟨b, 0, none⟩), .string (str t)] w fun e w' => e = .returned (.tuple #[]) ∧ PSt w' b r s (x ++ t) ∧ KeptB b w w' := by
  have HOK := hid (fun y hy => pst_ok (x := y) hr hs or os hy)
  have HX := hid hx
  have HT := hid ht
  have HS := hid h
  clear hr hs or os hx ht h
  go_enter Tryd.func35, Tryd.ntmps35
  go_upto_region 0 with (fail)
  go_loopw [1] (fun v wr => ∃ j : Nat, j ≤ t.length ∧ v = .string (str (t.drop j)) ∧ PSt wr b r s (x ++ t.take j) ∧ KeptB b w wr)
    (fun v _ => match v with | .string y => y.size | _ => 0)
  case atStart => exact ⟨0, Nat.zero_le _, rfl, by simpa using HS.out, KeptB.refl _ _⟩
  case round =>
    obtain ⟨j, hj, rfl, hst, hkept⟩ := hrel
    by_cases hlt : j < t.length
    · obtain ⟨y, hy⟩ : ∃ y, y = t.drop j := ⟨_, rfl⟩
      obtain ⟨X, hX⟩ : ∃ X, X = x ++ t.take j := ⟨_, rfl⟩
      have hXb : ∀ c ∈ X, c < 256 := by
        rw [hX]; intro c hc
        rcases List.mem_append.1 hc with h1 | h1
        · exact HX.out c h1
        · exact HT.out c (List.mem_of_mem_take h1)
      have hyb : ∀ c ∈ y, c < 256 := by rw [hy]; exact fun c hc => HT.out c (List.mem_of_mem_drop hc)
      have hyl : y.length = t.length - j := by rw [hy, List.length_drop]
      have HK := HOK.out X hXb
      rw [← hX] at hst
      unfold PSt at hst
      obtain ⟨p, hp⟩ : ∃ p, p = X.length % 16 := ⟨_, rfl⟩
      have hp16 : p < 16 := by omega
      obtain ⟨n, hn⟩ : ∃ n, n = min y.length (16 - p) := ⟨_, rfl⟩
      have HNX := hid (show x ++ t.take (j + n) = X ++ y.take n from by rw [hX, hy, List.append_assoc, List.take_add])
      have hyn : (y.take n).length = n := by rw [List.length_take]; omega
      have hynb : ∀ c ∈ y.take n, c < 256 := fun c hc => hyb c (List.mem_of_mem_take hc)
      have hpn : p + n ≤ 16 := by omega
      have hn1 : 1 ≤ n := by omega
      have hny : n ≤ y.length := by omega
      have HPART := hid (show p + n < 16 → Px.laidP (Px.restOf X) p (y.take n) = Px.restOf (X ++ y.take n) ∧ Px.sumN r X (X.length / 16) = Px.sumN r (X ++ y.take n) ((X ++ y.take n).length / 16) ∧ p + n = (X ++ y.take n).length % 16 from by
        intro hlt2
        rw [hp]
        refine ⟨Px.rest_part X (y.take n) (by omega), ?_, by rw [List.length_append, hyn]; omega⟩
        rw [show (X ++ y.take n).length / 16 = X.length / 16 from by rw [List.length_append, hyn]; omega, Px.sumN_append _ _ _ _ (by omega)])
      have HFULL := hid (show p + n = 16 → Px.added r (Px.sumN r X (X.length / 16)) (Px.laidP (Px.restOf X) p (y.take n)) 16 = Px.sumN r (X ++ y.take n) ((X ++ y.take n).length / 16) ∧ List.replicate 17 0 = Px.restOf (X ++ y.take n) ∧ 0 = (X ++ y.take n).length % 16 from by
        intro he
        rw [hp]
        exact ⟨Px.sum_full r X (y.take n) (by omega), (Px.rest_full X (y.take n) (by omega)).symm, by rw [List.length_append, hyn]; omega⟩)
      rw [← hp] at hst HK
      generalize Px.sumN r X (X.length / 16) = M at *
      generalize Px.restOf X = Q at *
      have HL17 : (Px.laidP Q p (y.take n)).length = 17 := by
        simp only [Px.laidP, List.length_append, List.length_take, List.length_drop, HK.lq]; omega
      have HB17 : ∀ c ∈ Px.laidP Q p (y.take n), c < 256 := by
        intro c hc
        rcases List.mem_append.1 hc with h1 | h1
        · exact HK.hq c (List.mem_of_mem_take h1)
        · rcases List.mem_append.1 h1 with h2 | h2
          · exact hynb c h2
          · exact HK.hq c (List.mem_of_mem_drop h2)
      have HCP := hid (pC_laid r s M Q p HK p (y.take n) (by omega))
      rw [hyn] at HCP
      have k1 : POk r s M (Px.laidP Q p (y.take n)) p := ⟨HK.lr, HK.ls, HK.lm, HL17, HK.or, HK.os, HK.om, HB17, HK.hc⟩
      generalize hQ1 : Px.laidP Q p (y.take n) = Q1 at *
      have k2 : POk r s M Q1 (p + n) := ⟨HK.lr, HK.ls, HK.lm, HL17, HK.or, HK.os, HK.om, HB17, hpn⟩
      have HP0 := hid hst
      have hzy := str_size y
      have HNY := hid (nums_str y hyb)
      have HEX := hid (show (str y).extract n y.length = str (y.drop n) from by
        have := extract_mid y hyb n (y.length - n)
        rwa [show n + (y.length - n) = y.length from by omega, List.take_of_length_le (by simp)] at this)
      have HDR := hid (show y.drop n = t.drop (j + n) from by rw [hy, List.drop_drop])
      have cc := fun d => show (wr.drewN d).cell? ⟨b, 32, none⟩ = _ from hst.cc HK
      have hsl := fun d => slice_pr (wr.drewN d) b p hp16
      have HK1 := hid k1
      have HK2 := hid k2
      have HKS := hid (pC_size HK)
      have HKE := hid hkept
      have HYL := hid hyl
      have HMN := hid hn
      have hypos : (0 : Int) < (y.length : Int) := by omega
      rw [← hy]
      clear hst HK k1 k2 hkept hyl hn hX hXb hyb hynb hyn hp hy hQ1 HL17 HB17 HOK HX HT HS
      generalize str y = SY at *
      go_upto_region 1 with (fail)
      refine wp_region_noPanic ?_
      refine wp_region_hd1 9 2 rfl (by kernel_rfl) (by kernel_rfl) (fun _ _ _ _ _ h => h) ?_
      simp only [List.take_succ_cons, List.take_zero, List.drop_succ_cons, List.drop_zero]
      repeat (go_big_quiet_step (fail))
      refine wpQuiet_nil ?_
      intro d
      go_wp2_with (refine wpList_copy_str rfl _ _ _ _ rfl 5 Tryd.underlying44 info5' b (15 + p) (16 - p) (17 - p) SY rfl rfl _ _ HP0.out (by rw [HKS.out]; omega) ?_)
      rw [← HMN.out, HNY.out, HCP.out]
      refine NoPanic.normal ?_
      have hp1 : PAt ((wr.drewN d).setRow b (pC r s M Q1 p)) b r s M Q1 p := setRow_heap (wr.drewN d) _ _ _ _ _ HP0.out
      have hk1 : KeptB b w ((wr.drewN d).setRow b (pC r s M Q1 p)) := (HKE.out.trans (show KeptB b wr (wr.drewN d) from ⟨rfl, rfl, rfl, Nat.le_refl _, fun _ _ _ => rfl⟩)).setRow _
      clear cc hsl
      generalize (wr.drewN d).setRow _ _ = w1 at *
      have cc := hp1.cc HK1.out
      have fc := hp1.fr 32
      have hp2 := hp1.setc HK1.out (p + n)
      have hk2 := hk1.setCell (o := 32) (.int .i64 ((p + n : Nat) : Int))
      rw [show ((p + n : Nat) : Int) = (p : Int) + (n : Int) from by omega] at hp2 hk2
      have HP2 := hid hp2
      have HKE2 := hid hk2
      have hex := HEX.out
      generalize hSD : str (y.drop n) = SD at hex
      have HSD := hid hSD
      clear hp1 hk1 hp2 hk2 HCP HKS HP0 HKE HMN HNY hSD HEX
      go_upto_region 4 with (fail)
      clear cc fc hex
      generalize w1.setCell _ _ = w2 at *
      have cc := HP2.out.cc HK2.out
      obtain ⟨N, hN⟩ : ∃ N, N = p + n := ⟨_, rfl⟩
      rw [← hN] at cc HP2 HK2 HPART HFULL
      by_cases hfull : N = 16
      · subst hfull
        rw [show ((16 : Nat) : Int) = 16 from rfl] at cc
        have HA := hid (padd_any b r s M Q1 16 HK2.out w2 HP2.out)
        obtain ⟨f1, f2, f3⟩ := HFULL.out rfl
        rw [f1, f2] at HA
        have HF3 := hid f3
        clear f1 f2 f3
        go_wp2_with (go_at_call 53; refine HA.out.mono ?_; rintro e w3 ⟨rfl, hp3, hk3⟩)
        refine ⟨⟨j + n, by have := HYL.out; omega, by rw [← HSD.out, HDR.out], ?_, HKE2.out.trans hk3⟩, ?_⟩
        · rw [HNX.out]
          unfold PSt
          rw [← HF3.out]
          exact hp3
        · show SD.size < SY.size
          rw [← HSD.out, str_size, hzy, List.length_drop]
          omega
      · have hne : ((N : Int) == 16) = false := by simp; omega
        obtain ⟨f1, f2, f3⟩ := HPART.out (by omega)
        rw [f1, f2] at HP2
        have HF3 := hid f3
        clear f1 f2 f3
        go_wp2
        refine ⟨⟨j + n, by have := HYL.out; omega, by rw [← HSD.out, HDR.out], ?_, HKE2.out⟩, ?_⟩
        · rw [HNX.out]
          unfold PSt
          rw [← HF3.out]
          exact HP2.out
        · show SD.size < SY.size
          rw [← HSD.out, str_size, hzy, List.length_drop]
          omega
    · obtain rfl : j = t.length := by omega
      rw [List.take_length] at hst
      rw [List.drop_length, show str [] = ⟨#[]⟩ from rfl]
      have HP := hid hst
      have HK := hid hkept
      clear hst hkept
      go_wp2
      go_end0
      exact ⟨rfl, HP.out, HK.out⟩
end Go.Proofs.YtiolflofkoeffaaDoor
