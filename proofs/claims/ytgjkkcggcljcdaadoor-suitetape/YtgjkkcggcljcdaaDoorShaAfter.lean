/-
  Layer 1: what (numbers).after returns.
-/
import Derived.Test.YtgjkkcggcljcdaaDoorBase
import Derived.Test.YtgjkkcggcljcdaaDoorShaSched
import Derived.Deep.Draws
import Derived.Deep.CutRange
namespace Go.Proofs.YtgjkkcggcljcdaaDoor
open Go.RowKit
open Go.Lib (hid)

theorem not32 (e : Nat) (he : e < Sx.M) : bits .xor .u32 4294967295 (e : Int) = ((Sx.M - 1 - e : Nat) : Int) := by
  have he' : e < 2 ^ 32 := he
  have h := xor32 4294967295 e (by decide) he
  have h2 : 4294967295 ^^^ e = Sx.M - 1 - e := by
    have h3 : (~~~(BitVec.ofNat 32 e)).toNat = Sx.M - 1 - e := by
      rw [BitVec.toNat_not, BitVec.toNat_ofNat, Nat.mod_eq_of_lt he']; rfl
    rw [← h3, ← BitVec.allOnes_xor, BitVec.toNat_xor, BitVec.toNat_ofNat, Nat.mod_eq_of_lt he']; rfl
  rw [h2] at h
  exact h

theorem rnd_x (e f g h k w : Nat) (he : e < Sx.M) (hf : f < Sx.M) (hg : g < Sx.M) :
    IntKind.u32.wrap (IntKind.u32.wrap (IntKind.u32.wrap (IntKind.u32.wrap ((h : Int) + bits .xor .u32 (bits .xor .u32 (Sx.rotr e 6 : Nat) (Sx.rotr e 11 : Nat)) (Sx.rotr e 25 : Nat)) + bits .xor .u32 (bits .and .u32 (e : Int) (f : Int)) (bits .and .u32 (bits .xor .u32 (if IntKind.u32.signed = true then -1 else IntKind.u32.max) (e : Int)) (g : Int))) + (k : Int)) + (w : Int))
      = (((h + Sx.bs1 e + Sx.chs e f g + k + w) % Sx.M : Nat) : Int) := by
  have r1 := Sx.rotr_lt e 6 (by omega) he
  have r2 := Sx.rotr_lt e 11 (by omega) he
  have r3 := Sx.rotr_lt e 25 (by omega) he
  have hn : Sx.M - 1 - e < Sx.M := by unfold Sx.M; omega
  rw [xor32 _ _ r1 r2, xor32 _ _ (xor32_lt _ _ r1 r2) r3, add32, and32 _ _ he hf, show (if IntKind.u32.signed = true then -1 else IntKind.u32.max) = (4294967295 : Int) from rfl, not32 e he, and32 _ _ hn hg, xor32 _ _ (and32_lt _ _ hf) (and32_lt _ _ hg), add32, add32, add32]
  congr 1
  unfold Sx.bs1 Sx.chs
  generalize (Sx.rotr e 6 ^^^ Sx.rotr e 11) ^^^ Sx.rotr e 25 = u
  generalize e &&& f ^^^ (Sx.M - 1 - e) &&& g = v
  unfold Sx.M
  omega

/-- The same, in the form that the walk through a region leaves. -/
theorem rnd_x' (e f g h k w : Nat) (he : e < Sx.M) (hf : f < Sx.M) (hg : g < Sx.M) :
    (((h : Int) + bits .xor .u32 (bits .xor .u32 (Sx.rotr e 6 : Nat) (Sx.rotr e 11 : Nat)) (Sx.rotr e 25 : Nat) + bits .xor .u32 (bits .and .u32 (e : Int) (f : Int)) (bits .and .u32 (bits .xor .u32 (if IntKind.u32.signed = true then -1 else IntKind.u32.max) (e : Int)) (g : Int)) + (k : Int)) % 4294967296 + (w : Int)) % 4294967296
      = (((h + Sx.bs1 e + Sx.chs e f g + k + w) % Sx.M : Nat) : Int) := by
  rw [← rnd_x e f g h k w he hf hg]
  simp only [IntKind.wrap_u32]
  omega

theorem rnd_y (a b c : Nat) (ha : a < Sx.M) (hb : b < Sx.M) (hc : c < Sx.M) :
    IntKind.u32.wrap (bits .xor .u32 (bits .xor .u32 (Sx.rotr a 2 : Nat) (Sx.rotr a 13 : Nat)) (Sx.rotr a 22 : Nat) + bits .xor .u32 (bits .xor .u32 (bits .and .u32 (a : Int) (b : Int)) (bits .and .u32 (a : Int) (c : Int))) (bits .and .u32 (b : Int) (c : Int)))
      = (((Sx.bs0 a + Sx.maj a b c) % Sx.M : Nat) : Int) := by
  have r1 := Sx.rotr_lt a 2 (by omega) ha
  have r2 := Sx.rotr_lt a 13 (by omega) ha
  have r3 := Sx.rotr_lt a 22 (by omega) ha
  rw [xor32 _ _ r1 r2, xor32 _ _ (xor32_lt _ _ r1 r2) r3, and32 _ _ ha hb, and32 _ _ ha hc, and32 _ _ hb hc, xor32 _ _ (and32_lt _ _ hb) (and32_lt _ _ hc), xor32 _ _ (xor32_lt _ _ (and32_lt _ _ hb) (and32_lt _ _ hc)) (and32_lt _ _ hc), add32]
  rfl

theorem rnd_a (p q : Nat) : IntKind.u32.wrap ((((p) % Sx.M : Nat) : Int) + (((q) % Sx.M : Nat) : Int)) = (((p + q) % Sx.M : Nat) : Int) := by
  rw [add32]; congr 1; unfold Sx.M; omega

namespace Sx
structure St.Ok (s : St) : Prop where
  a : s.a < M
  b : s.b < M
  c : s.c < M
  d : s.d < M
  e : s.e < M
  f : s.f < M
  g : s.g < M
  h : s.h < M
theorem St.Ok.rnd {s : St} (o : s.Ok) (k w : Nat) : (rnd s k w).Ok := by
  have h0 : ∀ n, n % M < M := fun n => Nat.mod_lt _ (by decide)
  exact ⟨h0 _, o.a, o.b, o.c, h0 _, o.e, o.f, o.g⟩
theorem St.Ok.rounds {s : St} (o : s.Ok) (w : List Nat) (k : Nat) : (rounds w s k).Ok := by
  induction k with
  | zero => exact o
  | succ k ih => exact ih.rnd _ _
theorem addM_lt (l r : List Nat) (i : Nat) : (addM l r).getD i 0 < M := by
  have h0 : ∀ n, n % M < M := fun n => Nat.mod_lt _ (by decide)
  by_cases h : i < (addM l r).length
  · simp only [List.getD_eq_getElem?_getD, List.getElem?_eq_getElem h, Option.getD_some]
    simp [addM, h0]
  · simp only [List.getD_eq_getElem?_getD, List.getElem?_eq_none (Nat.le_of_not_lt h), Option.getD_none]; decide
theorem St.ok_of (l r : List Nat) : (St.of (addM l r)).Ok :=
  ⟨addM_lt l r 0, addM_lt l r 1, addM_lt l r 2, addM_lt l r 3, addM_lt l r 4, addM_lt l r 5, addM_lt l r 6, addM_lt l r 7⟩
end Sx

/-- The eight variables hold a state. -/
def StRel (s : Sx.St) (a b c d e f g h : Value) : Prop :=
  a = .int .u32 (s.a : Int) ∧ b = .int .u32 (s.b : Int) ∧ c = .int .u32 (s.c : Int) ∧ d = .int .u32 (s.d : Int) ∧ e = .int .u32 (s.e : Int) ∧ f = .int .u32 (s.f : Int) ∧ g = .int .u32 (s.g : Int) ∧ h = .int .u32 (s.h : Int)

theorem rnd_e (d x : Nat) : IntKind.u32.wrap ((d : Int) + ((x % Sx.M : Nat) : Int)) = (((d + x) % Sx.M : Nat) : Int) := by
  rw [add32]; congr 1; unfold Sx.M; omega

theorem info38 : (Tryd.prog.info? 101).map (·.size) = some 64 := by kernel_rfl

set_option maxHeartbeats 2000000 in
set_option maxRecDepth 100000 in
theorem after_any (xs bs : List Nat) (hl : xs.length = 8) (hbl : bs.length = 64) (hb : ∀ i, bs.getD i 0 < 256) (w : World) (hT : Tabs w) :
    Calls Tryd.prog 74 #[.agg (ints .u32 xs), .agg (ints .u8 bs)] w fun e w' => e = .returned (.agg (ints .u32 (Sx.addM xs (Sx.mixed (Sx.addM xs Sx.H0) bs)))) ∧ Below w.heap.size w w' := by
  have hs8 : (ints .u32 xs).size = 8 := by rw [ints_size, hl]
  have hs64 : (ints .u8 bs).size = 64 := by rw [ints_size, hbl]
  have HT := hid hT
  have Hb := hid hb
  clear hT hb
  go_enter Tryd.func74, Tryd.ntmps74
  go_upto_region 1 with (fail)
  generalize hw0 : (((w.alloc _).alloc _).alloc _) = w0
  have rn : Row w0 w.heap.size .u32 99 xs := by rw [← hw0]; unfold Row; rw [heap_alloc3_0]
  have rb : Row w0 (w.heap.size + 1) .u8 101 bs := by rw [← hw0]; unfold Row; rw [heap_alloc3_1]
  have rz : Row w0 (w.heap.size + 1 + 1) .u32 99 (List.replicate 8 0) := by rw [← hw0]; unfold Row; rw [heap_alloc3_2]; kernel_rfl
  have hbel0 : Below w.heap.size w w0 := by rw [← hw0]; exact (((Below.refl _ _).alloc (Nat.le_refl _) _).alloc (by simp) _).alloc (by simp; omega) _
  clear hw0
  go_upto_region 2 with (first | (refine wpList_load_row rfl _ _ rfl (w.heap.size + 1) rfl _ _ _ _ rb Tryd.underlying101 rfl (by rw [hs64]; exact info38) ?_) | (go_at_call 88; refine (sched_any bs hbl Hb.out _).mono ?_; rintro e w1 ⟨rfl, hb1⟩) | (refine wpList_store_row rfl _ _ _ rfl _ _ rfl rfl _ _ (heap_alloc_new _ _) (by rw [ints_size, Sx.sched_length]; exact info67) (by rw [ints_size, Sx.sched_length]; rfl) (ints_one _ _) ?_))
  rw [World.setRow_alloc_new]
  have hz1 := hb1.size
  have hlt := rz.lt
  have hT1 : Tabs w1 := (HT.out.below hbel0 (Nat.le_refl _)).below hb1 (Nat.le_refl _)
  have rn1 : Row (w1.alloc (.cells (ints .u32 (Sx.sched bs 48)) 162)) w.heap.size .u32 99 xs := (rn.below hb1 rn.lt).alloc _
  have rz1 : Row (w1.alloc (.cells (ints .u32 (Sx.sched bs 48)) 162)) (w.heap.size + 1 + 1) .u32 99 (List.replicate 8 0) := (rz.below hb1 rz.lt).alloc _
  have rs1 : Row (w1.alloc (.cells (ints .u32 (Sx.sched bs 48)) 162)) w1.heap.size .u32 162 (Sx.sched bs 48) := heap_alloc_new _ _
  have hbel1 : Below w.heap.size w (w1.alloc (.cells (ints .u32 (Sx.sched bs 48)) 162)) := (hbel0.trans (hb1.mono (by omega))).alloc (by omega) _
  have hT2 : Tabs (w1.alloc (.cells (ints .u32 (Sx.sched bs 48)) 162)) := hT1.below ((Below.refl w1.heap.size w1).alloc (Nat.le_refl _) _) (Nat.le_refl _)
  generalize hbS : w1.heap.size = bS at *
  have hbS1 : w.heap.size + 1 + 1 < bS := by omega
  generalize hw2 : (w1.alloc _) = w2 at *
  clear hw2 hb1 hT1 rn rb rz hbel0 hz1 hlt hbS
  have HT2 := hid hT2
  clear hT2
  go_upto_region 3 with (first | (refine wpList_load_row rfl _ _ rfl (w.heap.size) rfl _ _ _ _ rn1 Tryd.underlying99 rfl (by rw [hs8]; exact info36) ?_) | (go_at_call 75; refine (state_any xs hl _ HT2.out).mono ?_; rintro e w3 ⟨rfl, hb3⟩) | (refine wpList_store_row rfl _ _ _ rfl _ _ rfl rfl _ _ (heap_alloc_new _ _) (by rw [ints_size, Sx.addM_length, hl]; exact info36) (by rw [ints_size, Sx.addM_length, hl]; rfl) (ints_one _ _) ?_))
  rw [World.setRow_alloc_new]
  have hz3 := hb3.size
  have hlt := rs1.lt
  have hh8 : (Sx.addM xs Sx.H0).length = 8 := by rw [Sx.addM_length, hl]; rfl
  have rn3 : Row (w3.alloc (.cells (ints .u32 (Sx.addM xs Sx.H0)) 99)) w.heap.size .u32 99 xs := (rn1.below hb3 rn1.lt).alloc _
  have rz3 : Row (w3.alloc (.cells (ints .u32 (Sx.addM xs Sx.H0)) 99)) (w.heap.size + 1 + 1) .u32 99 (List.replicate 8 0) := (rz1.below hb3 rz1.lt).alloc _
  have rs3 : Row (w3.alloc (.cells (ints .u32 (Sx.addM xs Sx.H0)) 99)) bS .u32 162 (Sx.sched bs 48) := (rs1.below hb3 rs1.lt).alloc _
  have rh3 : Row (w3.alloc (.cells (ints .u32 (Sx.addM xs Sx.H0)) 99)) w3.heap.size .u32 99 (Sx.addM xs Sx.H0) := heap_alloc_new _ _
  have hbel3 : Below w.heap.size w (w3.alloc (.cells (ints .u32 (Sx.addM xs Sx.H0)) 99)) := (hbel1.trans (hb3.mono (by omega))).alloc (by omega) _
  have hT4 : Tabs (w3.alloc (.cells (ints .u32 (Sx.addM xs Sx.H0)) 99)) := (HT2.out.below hb3 (Nat.le_refl _)).below ((Below.refl w3.heap.size w3).alloc (Nat.le_refl _) _) (Nat.le_refl _)
  have hok := Sx.St.ok_of xs Sx.H0
  generalize hbH : w3.heap.size = bH at *
  generalize hw4 : (w3.alloc _) = w4 at *
  have c0 := rh3.cell 0 (by omega)
  have c1 := rh3.cell 1 (by omega)
  have c2 := rh3.cell 2 (by omega)
  have c3 := rh3.cell 3 (by omega)
  have c4 := rh3.cell 4 (by omega)
  have c5 := rh3.cell 5 (by omega)
  have c6 := rh3.cell 6 (by omega)
  have c7 := rh3.cell 7 (by omega)
  have HT4 := hid hT4
  have HOK := hid hok
  obtain ⟨hv, ehv⟩ : ∃ hv, hv = Sx.addM xs Sx.H0 := ⟨_, rfl⟩
  rw [← ehv] at c0 c1 c2 c3 c4 c5 c6 c7 HOK
  have EHV := hid ehv
  have RN := hid rn3
  have RZ := hid rz3
  have RS := hid rs3
  have HBL := hid hbel3
  clear ehv hw4 hb3 hT4 rn1 rz1 rs1 hbel1 hz3 hlt hbH HT2 rn3 rz3 rs3 rh3 hbel3 hok hh8
  generalize e0 : hv.getD 0 0 = h0 at *
  generalize e1 : hv.getD 1 0 = h1 at *
  generalize e2 : hv.getD 2 0 = h2 at *
  generalize e3 : hv.getD 3 0 = h3 at *
  generalize e4 : hv.getD 4 0 = h4 at *
  generalize e5 : hv.getD 5 0 = h5 at *
  generalize e6 : hv.getD 6 0 = h6 at *
  generalize e7 : hv.getD 7 0 = h7 at *
  have ES : Hid (Sx.St.of hv = ⟨h0, h1, h2, h3, h4, h5, h6, h7⟩) := by
    show Sx.St.of hv = _
    unfold Sx.St.of; rw [e0, e1, e2, e3, e4, e5, e6, e7]
  clear e0 e1 e2 e3 e4 e5 e6 e7
  go_quiet (fail)
  clear c0 c1 c2 c3 c4 c5 c6 c7
  go_wp2
  go_loopw [7, 8, 9, 10, 11, 12, 13, 14, 40] (fun a b c d e f g h i wr => ∃ k : Nat, k ≤ 64 ∧ i = .int .i64 k ∧ StRel (Sx.rounds (Sx.sched bs 48) (Sx.St.of hv) k) a b c d e f g h ∧ ∃ n : Nat, wr = w4.drewN n)
    (fun _ _ _ _ _ _ _ _ i _ => 64 - (intOf i).toNat)
  case atStart => exact ⟨0, by omega, rfl, by show StRel (Sx.St.of hv) _ _ _ _ _ _ _ _; rw [ES.out]; exact ⟨rfl, rfl, rfl, rfl, rfl, rfl, rfl, rfl⟩, nq, rfl⟩
  case round =>
    obtain ⟨k, hk, rfl, hst, n, hwr⟩ := hrel
    by_cases hlt : k < 64
    · have hok := HOK.out.rounds (Sx.sched bs 48) k
      have hstep : Sx.rounds (Sx.sched bs 48) (Sx.St.of hv) (k + 1) = Sx.rnd (Sx.rounds (Sx.sched bs 48) (Sx.St.of hv) k) (Sx.K.getD k 0) ((Sx.sched bs 48).getD k 0) := rfl
      have cK : wr.cell? ⟨2, k, none⟩ = some (.int .u32 (Sx.K.getD k 0 : Nat)) := by rw [hwr]; exact HT4.out.ks k hlt
      have cW : wr.cell? ⟨bS, k, none⟩ = some (.int .u32 ((Sx.sched bs 48).getD k 0 : Nat)) := by rw [hwr]; exact RS.out.cell k (by rw [Sx.sched_length]; exact hlt)
      generalize Sx.rounds (Sx.sched bs 48) (Sx.St.of hv) k = s at *
      generalize Sx.K.getD k 0 = kk at *
      generalize (Sx.sched bs 48).getD k 0 = ww at *
      obtain ⟨sa, sb, sc, sd, se, sf, sg, sh⟩ := s
      obtain ⟨rfl, rfl, rfl, rfl, rfl, rfl, rfl, rfl⟩ := hst
      obtain ⟨oa, ob, oc, od, oe, of, og, oh⟩ := hok
      dsimp only at oa ob oc od oe of og oh
      have HX := hid (rnd_x' se sf sg sh kk ww oe of og)
      have hy := rnd_y sa sb sc oa ob oc
      have ha := rnd_a (sh + Sx.bs1 se + Sx.chs se sf sg + kk + ww) (Sx.bs0 sa + Sx.maj sa sb sc)
      have he := rnd_e sd (sh + Sx.bs1 se + Sx.chs se sf sg + kk + ww)
      have HST : Hid (StRel (Sx.rounds (Sx.sched bs 48) (Sx.St.of hv) (k + 1)) (.int .u32 ((sh + Sx.bs1 se + Sx.chs se sf sg + kk + ww + (Sx.bs0 sa + Sx.maj sa sb sc)) % Sx.M : Nat)) (.int .u32 sa) (.int .u32 sb) (.int .u32 sc) (.int .u32 ((sd + (sh + Sx.bs1 se + Sx.chs se sf sg + kk + ww)) % Sx.M : Nat)) (.int .u32 se) (.int .u32 sf) (.int .u32 sg)) := by
        show StRel _ _ _ _ _ _ _ _ _
        rw [hstep]; exact ⟨rfl, rfl, rfl, rfl, rfl, rfl, rfl, rfl⟩
      generalize (sh + Sx.bs1 se + Sx.chs se sf sg + kk + ww + (Sx.bs0 sa + Sx.maj sa sb sc)) % Sx.M = na at *
      generalize (sd + (sh + Sx.bs1 se + Sx.chs se sf sg + kk + ww)) % Sx.M = ne at *
      generalize (sh + Sx.bs1 se + Sx.chs se sf sg + kk + ww) % Sx.M = vx at *
      generalize (Sx.bs0 sa + Sx.maj sa sb sc) % Sx.M = vy at *
      have HWR := hid hwr
      clear hwr hstep
      have g1 : (k : Int) < 64 := by omega
      go_upto_region 7 with (fail)
      go_quiet ((go_at_call 89; exact Calls.quiet_of_same (right_still _ _ _ (by decide) (by decide) (by assumption))))
      go_upto_region 8 with (fail)
      rw [HX.out]
      go_wp2_with (go_at_call 89; refine (right_any _ _ _ (by decide) (by decide) (by assumption)).mono ?_; rintro e w' ⟨rfl, rfl⟩)
      go_roundw
      case rel => exact ⟨k + 1, by omega, by go_num, HST.out, n + nq, by rw [HWR.out, World.drewN_drewN]⟩
      case measure => simp [intOf]; omega
    · obtain rfl : k = 64 := by omega
      rw [show ((64 : Nat) : Int) = 64 from rfl]
      have hmx : Sx.mixed hv bs = (Sx.rounds (Sx.sched bs 48) (Sx.St.of hv) 64).list := rfl
      generalize Sx.rounds (Sx.sched bs 48) (Sx.St.of hv) 64 = s at *
      obtain ⟨sa, sb, sc, sd, se, sf, sg, sh⟩ := s
      obtain ⟨rfl, rfl, rfl, rfl, rfl, rfl, rfl, rfl⟩ := hst
      have hix : ∀ (k : Nat) (wx : World), k < 8 → (Instr.index 98 (.agg #[.int .u32 (sa : Int), .int .u32 (sb : Int), .int .u32 (sc : Int), .int .u32 (sd : Int), .int .u32 (se : Int), .int .u32 (sf : Int), .int .u32 (sg : Int), .int .u32 (sh : Int)]) (.int .i64 (k : Int))).run Tryd.prog wx = .ok (.int .u32 ((Sx.mixed hv bs).getD k 0 : Nat)) wx := by
        intro k wx hk8
        rw [hmx]
        exact run_index_ints wx 98 88 8 .u32 [sa, sb, sc, sd, se, sf, sg, sh] Tryd.underlying98 Tryd.underlying88 (by kernel_rfl) rfl k hk8
      have hml : (Sx.mixed hv bs).length = 8 := by rw [hmx]; rfl
      have rn : Row wr w.heap.size .u32 99 xs := by rw [hwr]; exact RN.out
      have rz : Row wr (w.heap.size + 1 + 1) .u32 99 (List.replicate 8 0) := by rw [hwr]; exact RZ.out
      have hbl4 : Below w.heap.size w wr := by rw [hwr]; exact HBL.out.trans ⟨rfl, rfl, rfl, Nat.le_refl _, fun _ _ => rfl⟩
      have HIX := hid hix
      have RN' := hid rn
      have RZ' := hid rz
      have HBL' := hid hbl4
      clear hmx hwr hix rn rz hbl4 RN RZ RS HBL HT4 ES HOK HT
      go_wp2
      go_loopw [112] (fun i wq => ∃ k : Nat, k ≤ 8 ∧ i = .int .i64 k ∧ Row wq w.heap.size .u32 99 (Sx.stepS xs (Sx.mixed hv bs) k) ∧ Row wq (w.heap.size + 1 + 1) .u32 99 (List.replicate 8 0) ∧ Below w.heap.size w wq)
        (fun i _ => 8 - (intOf i).toNat)
      case atStart => exact ⟨0, by omega, rfl, by rw [Sx.stepS_zero]; exact RN'.out, RZ'.out, HBL'.out⟩
      case round =>
        obtain ⟨k, hk, rfl, hrow, hz, hbel⟩ := hrel
        by_cases hlt : k < 8
        · have hc := hrow.cell k (by rw [Sx.stepS_length xs _ k hk hl hml]; exact hlt)
          rw [Sx.stepS_get xs _ k hlt hl hml] at hc
          have hf := hrow.free k
          have hi := fun wx => HIX.out k wx hlt
          have hr' := (hrow.set k ((xs.getD k 0 + (Sx.mixed hv bs).getD k 0) % Sx.M))
          rw [Sx.stepS_set xs _ k hlt hl hml] at hr'
          have hz' := hz.set_other ⟨w.heap.size, k, none⟩ (.int .u32 ((xs.getD k 0 + (Sx.mixed hv bs).getD k 0) % Sx.M : Nat)) (by simp; omega)
          have hb' := hbel.setCell (p := ⟨w.heap.size, k, none⟩) (Nat.le_refl _) (.int .u32 ((xs.getD k 0 + (Sx.mixed hv bs).getD k 0) % Sx.M : Nat))
          have hw := add32 (xs.getD k 0) ((Sx.mixed hv bs).getD k 0)
          generalize xs.getD k 0 = x at *
          generalize (Sx.mixed hv bs).getD k 0 = y at *
          generalize (x + y) % Sx.M = z at *
          have HR := hid hr'
          have HZ := hid hz'
          have HB := hid hb'
          clear hr' hz' hb' hrow hz hbel
          go_wp2
          go_roundw
          case rel => exact ⟨k + 1, by omega, by go_num, HR.out, HZ.out, HB.out⟩
          case measure => simp [intOf]; omega
        · obtain rfl : k = 8 := by omega
          rw [Sx.stepS_full xs _ hl hml] at hrow
          have hsz : (ints .u32 (Sx.addM xs (Sx.mixed hv bs))).size = 8 := by rw [ints_size, Sx.addM_length, hl, hml]; rfl
          have Hsz := hid hsz
          clear hsz hml
          go_wp2_with (first | (refine wpList_load_row rfl _ _ rfl w.heap.size rfl _ _ _ _ hrow Tryd.underlying99 rfl (by rw [Hsz.out]; exact info36) ?_) | (refine wpList_store_row rfl _ _ _ rfl (w.heap.size + 1 + 1) _ rfl rfl _ _ hz (by rw [Hsz.out]; exact info36) (by rw [Hsz.out, ints_size, List.length_replicate]) (ints_one _ _) ?_))
          refine bodyPost_ret (v := .agg (ints .u32 (Sx.addM xs (Sx.mixed hv bs))))
            (results_cell_row Tryd.results74 _ _ (w.heap.size + 1 + 1) _ _ _ _ rfl (setRow_heap _ (w.heap.size + 1 + 1) _ _ _ _ hz) Tryd.underlying99 rfl (by rw [Hsz.out]; exact info36))
            rfl ⟨by rw [EHV.out], below_setRow hbel (by omega) _⟩
end Go.Proofs.YtgjkkcggcljcdaaDoor
