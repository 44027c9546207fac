/-
  Flags are set and taken away one by one, and of one entry alone (law BoxFlags); for every input.
-/
import Derived.Test.YtlfjhpmachblkaaBx7
import Derived.Deep.Slices
import Derived.Deep.Strs
namespace Go.Proofs.Ytlfjhpmachblkaa
open Go.ChangeShapes Go.WideShapes Go.ChangeAt Go.RowKit
open Go.Lib (hid)

/-- A slice's cells are these pairs. -/
def PairsB (w : World) (ao : Option Addr) (L : List (Int × Int)) : Prop :=
  ∀ i, i < L.length → ∃ sb so, ao = some ⟨sb, so, none⟩ ∧ w.cell? ⟨sb, so + i * 2, none⟩ = some (.int .i64 (L.getD i (0, 0)).1) ∧ w.cell? ⟨sb, so + i * 2 + 1, none⟩ = some (.int .i64 (L.getD i (0, 0)).2)
theorem PairsB.below {w w' : World} {ao : Option Addr} {L : List (Int × Int)} (h : PairsB w ao L) (hb : Below w.heap.size w w') : PairsB w' ao L := by
  intro i hi
  obtain ⟨sb, so, ha, h1, h2⟩ := h i hi
  exact ⟨sb, so, ha, (hb.cell (block_lt_of_cell h1)).trans h1, (hb.cell (block_lt_of_cell h2)).trans h2⟩
set_option maxRecDepth 100000 in
theorem open_pairs {H : Type} {enc : TypeId × Value → H} {W : World} {r : Reach} {b0 : Nat} {v : Value} {d : DataW H} {p : List MemPlace}
    (hv : Value.okWide Try.prog W r b0 53 v) (h : DataW.Trod enc Try.prog W 0 (fun _ => true) true 53 v d p) :
    ∃ (ao : Option Addr) (L : List (Int × Int)) (cap : Nat), v = .slice ao L.length cap ∧ PairsB W ao L ∧ L.length ≤ maxLen := by
  obtain ⟨a0, len, cap, rfl⟩ := okWide_slice Try.underlying53 hv
  obtain ⟨fuel, hf⟩ := h
  rcases Deep.open_slice Try.underlying53 hf with ⟨hcs, _⟩ | ⟨a, len', cap', m, n, D, Pl, hcs, _, hl, hm, hmm, _, hx⟩
  · simp only [Value.cells, List.cons.injEq, Value.slice.injEq, and_true] at hcs
    obtain ⟨rfl, rfl, rfl⟩ := hcs
    exact ⟨none, [], 0, rfl, fun i hi => absurd hi (by simp), by simp⟩
  · simp only [Value.cells, List.cons.injEq, Value.slice.injEq, and_true] at hcs
    obtain ⟨rfl, rfl, rfl⟩ := hcs
    simp only [if_true] at hmm
    have each : ∀ i, i < m → ∃ q : Int × Int, W.cell? (a.add (i * 2)) = some (.int .i64 q.1) ∧ W.cell? (a.add (i * 2 + 1)) = some (.int .i64 q.2) := by
      intro i hi
      obtain ⟨cs', h1, h2⟩ := hx i hi
      rw [show Try.prog.cellsOf 54 = 2 from by kernel_rfl] at h1
      obtain ⟨_, hlen, hcell⟩ := World.cells?_some h1
      obtain ⟨xs, k2, _, _, _, hxl, hxx⟩ := DataW.trod_array Try.underlying54 h2
      match cs', hlen with
      | [v0, v1], _ =>
        have f0 := hxx 0 (by omega)
        have f1 := hxx 1 (by omega)
        rw [show Try.prog.cellsOf 3 = 1 from by kernel_rfl, List.getElem?_eq_getElem (by omega)] at f0 f1
        obtain ⟨z0, e0, _, w0⟩ := DataW.trod_int Try.underlying3 f0
        obtain ⟨z1, e1, _, w1⟩ := DataW.trod_int Try.underlying3 f1
        have c0 := hcell 0 (by omega)
        have c1 := hcell 1 (by omega)
        rw [Deep.add_add] at c0 c1
        simp at e0 e1
        subst e0 e1
        exact ⟨(z0, z1), by simpa using c0, by simpa using c1⟩
    obtain ⟨q, hq⟩ := Deep.choose_lt each
    have hget : ∀ i, i < len → ((List.range len).map q).getD i (0, 0) = q i := by
      intro i hi
      simp [List.getD_eq_getElem?_getD, hi]
    refine ⟨some a, (List.range len).map q, cap, by simp, ?_, by simp; omega⟩
    intro i hi
    rw [List.length_map, List.length_range] at hi
    rw [hget i hi]
    obtain ⟨h0, h1⟩ := hq i (by omega)
    have h00 := (hq 0 (by omega)).1
    obtain ⟨b, off, spot⟩ := a
    have hspot : spot = none := by simpa [Addr.add] using World.cell?_spot h00
    subst hspot
    rw [Addr.add_mid] at h0 h1
    exact ⟨b, off, rfl, h0, by rw [Nat.add_assoc]; exact h1⟩

namespace BoxFlags
/-- Entries 1 to n, each of the mail 1; the flags of entry u are f. -/
def L (n u : Nat) (f : Int) : List Bv.E := (List.range n).map fun i : Nat => ((i : Int) + 1, (if i + 1 = u then f else 0), (1 : Int))
theorem L_len (n u : Nat) (f : Int) : (L n u f).length = n := by simp [L]
theorem L_succ (n : Nat) : L (n + 1) 0 0 = L n 0 0 ++ [((n : Int) + 1, 0, 1)] := by simp [L, List.range_succ]
theorem L_get (n u : Nat) (f : Int) (i : Nat) (h : i < n) : (L n u f).getD i (0, 0, 0) = ((i : Int) + 1, (if i + 1 = u then f else 0), 1) := by
  rw [List.getD_eq_getElem?_getD, L, List.getElem?_map, List.getElem?_range h]; rfl
theorem L_zero (n u : Nat) : L n u 0 = L n 0 0 := by simp [L]
theorem L_up (n u : Nat) (f : Int) : Bv.Up (L n u f) := by
  intro i j h1 h2
  rw [L_len] at h2
  rw [L_get n u f i (by omega), L_get n u f j h2]
  show (i : Int) + 1 < (j : Int) + 1
  omega
theorem L_cnt (n u : Nat) (f : Int) (j : Nat) (h : j < n) : Bv.cnt (L n u f) ((j : Int) + 1) = j := by
  refine Bv.count_is _ (L n u f) j (by rw [L_len]; omega) (fun t ht => ?_) (fun t h1 h2 => ?_)
  · rw [L_get n u f t (by omega)]; exact decide_eq_true (by show (t : Int) + 1 < (j : Int) + 1; omega)
  · rw [L_len] at h2; rw [L_get n u f t h2]; exact decide_eq_false (by show ¬ (t : Int) + 1 < (j : Int) + 1; omega)
theorem L_hit (n u : Nat) (f : Int) (j : Nat) (h : j < n) : Bv.hit (L n u f) ((j : Int) + 1) = true := by
  unfold Bv.hit
  rw [L_cnt n u f j h, L_get n u f j h, L_len]
  simp [h]
theorem L_set (n j : Nat) (f g : Int) (h : j < n) : (L n (j + 1) f).set j ((j : Int) + 1, g, 1) = L n (j + 1) g := by
  apply List.ext_getElem?
  intro i
  simp only [L, List.getElem?_set, List.getElem?_map, List.length_map, List.length_range]
  by_cases hij : j = i
  · subst hij; simp [h]
  · rw [if_neg hij]
    by_cases hi : i < n
    · rw [List.getElem?_range hi]
      simp only [Option.map_some, Option.some.injEq, Prod.mk.injEq, and_true, true_and]
      rw [if_neg (by omega), if_neg (by omega)]
    · rw [List.getElem?_eq_none (by rw [List.length_range]; omega)]
      rfl
theorem add_ok (n : Nat) (h : n < 256) : Bv.addE (L n 0 0) 1 0 = 0 ∧ Bv.addX ((n : Int) + 1) (L n 0 0) 1 0 = ((n + 1 : Nat) : Int) + 1 ∧ Bv.addL ((n : Int) + 1) (L n 0 0) 1 0 = L (n + 1) 0 0 := by
  have h1 : Bv.addE (L n 0 0) 1 0 = 0 := by unfold Bv.addE; rw [L_len, show (Bv.okc 1 && Bv.fl 0) = true from by decide, if_pos rfl, if_pos h]
  refine ⟨h1, ?_, ?_⟩
  · unfold Bv.addX; rw [h1, if_pos rfl]; omega
  · unfold Bv.addL; rw [h1, if_pos rfl, L_succ]
theorem fl31 (j : Nat) (h : j ≤ 31) : Bv.fl (j : Int) = true := by unfold Bv.fl; simp; omega
theorem set_ok (n j : Nat) (f : Int) (on off : Nat) (h : j < n) (h1 : on ≤ 31) (h2 : off ≤ 31) :
    Bv.setE (L n (j + 1) f) ((j : Int) + 1) on off = 0 ∧ Bv.setR (L n (j + 1) f) ((j : Int) + 1) on off = ((j : Int) + 1, Bv.sf f on off, 1) ∧ Bv.setL (L n (j + 1) f) ((j : Int) + 1) on off = L n (j + 1) (Bv.sf f on off) := by
  have e : Bv.setE (L n (j + 1) f) ((j : Int) + 1) on off = 0 := by unfold Bv.setE; rw [L_hit n _ f j h, fl31 on h1, fl31 off h2]; rfl
  have r : Bv.setR (L n (j + 1) f) ((j : Int) + 1) on off = ((j : Int) + 1, Bv.sf f on off, 1) := by
    unfold Bv.setR; rw [e, if_pos rfl]; unfold Bv.at_; rw [L_cnt n _ f j h, L_get n _ f j h, if_pos rfl]
  refine ⟨e, r, ?_⟩
  unfold Bv.setL
  rw [e, if_pos rfl, r, L_cnt n _ f j h, L_set n j f _ h]
/-- What goes. -/
theorem gone_is (n j : Nat) (f : Int) (h : j < n) : (Bv.gone (L n (j + 1) f)).length = if bits .and .i64 f 8 != 0 then 1 else 0 := by
  have h0 : (bits .and .i64 0 8 != 0) = false := by decide +kernel
  unfold Bv.gone
  rw [← List.countP_eq_length_filter]
  unfold L
  rw [List.countP_map]
  by_cases hf : (bits .and .i64 f 8 != 0) = true
  · rw [if_pos hf]
    have : ((Bv.del ∘ fun i : Nat => ((i : Int) + 1, (if i + 1 = j + 1 then f else 0), (1 : Int)))) = fun i => i == j := by
      funext i
      show (bits .and .i64 (if i + 1 = j + 1 then f else 0) 8 != 0) = (i == j)
      by_cases hi : i = j
      · subst hi; simpa using hf
      · rw [if_neg (by omega), h0]; simp [hi]
    rw [this]
    have := List.count_range (n := n) (a := j)
    simpa [List.count, h] using this
  · rw [if_neg hf, List.countP_eq_zero]
    intro i _
    show ¬ (bits .and .i64 (if i + 1 = j + 1 then f else 0) 8 != 0) = true
    by_cases hi : i = j
    · subst hi; simpa using hf
    · rw [if_neg (by omega), h0]; decide
theorem left_is (n j : Nat) (f : Int) : (Bv.left (L n (j + 1) f)).length = n - (Bv.gone (L n (j + 1) f)).length := by
  have := List.length_eq_countP_add_countP (p := Bv.del) (l := L n (j + 1) f)
  unfold Bv.gone Bv.left
  rw [← List.countP_eq_length_filter, ← List.countP_eq_length_filter]
  rw [L_len] at this
  have e : (fun a => decide ¬ Bv.del a = true) = fun e : Bv.E => !Bv.del e := by funext a; cases Bv.del a <;> rfl
  rw [e] at this
  omega

set_option maxHeartbeats 4000000 in
set_option maxRecDepth 100000 in
theorem walk (n u : Int) (ao : Option Addr) (A : List (Int × Int)) (cap : Nat) (w : World) (hA : PairsB w ao A) (hAl : A.length ≤ maxLen) :
    Calls Try.prog 6 #[.int .i64 n, .int .i64 u, .slice ao A.length cap] w fun e w' => e = .returned (.bool true) ∧ Below w.heap.size w w' := by
  have HW := hid (awake18_any w)
  have HN := hid (fun wx => bnew_any 1 1 (by decide) wx)
  have HAD := hid (fun b v (k : Nat) wx (hk : k < 256) (hx : IsB wx b v 1 ((k : Int) + 1) (L k 0 0)) => badd_any b v 1 ((k : Int) + 1) (L k 0 0) 1 0 wx hx (by rw [L_len]; omega) (by omega))
  obtain ⟨k, hk, hkn⟩ := and_le n 7 (by decide)
  rw [show ((7 : Nat) : Int) = 7 from rfl] at hkn
  obtain ⟨N, hN⟩ : ∃ N, k + 1 = N := ⟨_, rfl⟩
  have hkw : IntKind.i64.wrap (1 + (k : Int)) = (N : Int) := by rw [IntKind.wrap_i64]; omega
  obtain ⟨j', hj', hjn⟩ := and_le u 7 (by decide)
  rw [show ((7 : Nat) : Int) = 7 from rfl] at hjn
  obtain ⟨j, hj⟩ : ∃ j, j' % N = j := ⟨_, rfl⟩
  have hNp : 0 < N := by omega
  have hjN : j < N := by rw [← hj]; exact Nat.mod_lt _ hNp
  have hjt : ((j' : Int).tmod (N : Int)) = (j : Int) := by rw [← hj, Int.tmod_eq_emod_of_nonneg (Int.natCast_nonneg j')]; rfl
  have hjw : IntKind.i64.wrap (1 + (j : Int)) = (j : Int) + 1 := by rw [IntKind.wrap_i64]; omega
  have hN0 : (N : Int) ≠ 0 := by omega
  have HA := hid hA
  clear hA hj hAl
  go_enter Try.func6, Try.ntmps6
  go_wp2_with fail
  refine HW.out.mono ?_
  rintro e w0 ⟨rfl, hb0⟩
  go_wp2_with fail
  refine (HN.out _).mono ?_
  rintro e w1 ⟨rfl, hi1, hb1⟩
  have S1 := hid (show BxS w w1 w0.heap.size _ 1 1 [] from ⟨hi1, hb0.size, VFresh.nil _, hb0.trans (hb1.mono hb0.size)⟩)
  clear hi1 hb1 hb0 HW HN
  generalize w0.heap.size = b at *
  go_upto_region 8 with (fail)
  go_loopw [26] (fun i wr => ∃ (p : Nat) (v : Value), p ≤ N ∧ i = .int .i64 p ∧ BxS w wr b v 1 ((p : Int) + 1) (L p 0 0))
    (fun i _ => N - (intOf i).toNat)
  case atStart => exact ⟨0, _, by omega, rfl, S1.out⟩
  case round =>
    obtain ⟨p, v, hp, rfl, hs⟩ := hrel
    have S := hid hs
    clear hs S1
    by_cases hlt : p < N
    · have hpi : (p : Int) < (N : Int) := by omega
      have hp2 : p < 256 := by omega
      have hc := HAD.out b v p wr hp2 S.out.is
      rw [(add_ok p hp2).1, (add_ok p hp2).2.1, (add_ok p hp2).2.2] at hc
      have HC := hid hc
      clear hc
      go_wp2_with fail
      refine HC.out.mono ?_
      rintro e w2 ⟨v2, rfl, hi2, hk2⟩
      have S2 := hid (S.out.to hi2 hk2)
      clear hi2 hk2 S HC
      go_wp2
      exact ⟨⟨p + 1, v2, by omega, by go_num, S2.out⟩, by simp [intOf]; omega⟩
    · obtain rfl : N = p := by omega
      clear HAD hlt hp
      rw [← L_zero N (j + 1)] at S
      go_upto_region 14 with (fail)
      go_loopw [8, 9] (fun x i wq => ∃ (p : Nat) (f : Int) (v : Value), p ≤ A.length ∧ p ≤ 20 ∧ i = .int .i64 p ∧ x = .int .i64 f ∧ BxS w wq b v 1 ((N : Int) + 1) (L N (j + 1) f))
        (fun _ i _ => A.length - (intOf i).toNat)
      case atStart => exact ⟨0, 0, _, by omega, by omega, rfl, rfl, S.out⟩
      case round =>
        obtain ⟨p, f, v, hpA, hp20, rfl, rfl, hs⟩ := hrel
        have T := hid hs
        clear hs S
        by_cases hlt : p < A.length
        · by_cases hl2 : p < 20
          · have hpi : (p : Int) < (A.length : Int) := by omega
            have hpi2 : (p : Int) < 20 := by omega
            obtain ⟨sb, so, rfl, c0, c1⟩ := (HA.out.below T.out.bel) p hlt
            obtain ⟨⟨z0, z1⟩, hz⟩ : ∃ z, A.getD p (0, 0) = z := ⟨_, rfl⟩
            rw [hz] at c0 c1
            dsimp only at c0 c1
            obtain ⟨on, hon, hz0⟩ := and_le z0 31 (by decide)
            obtain ⟨off, hoff, hz1⟩ := and_le z1 31 (by decide)
            rw [show ((31 : Nat) : Int) = 31 from rfl] at hz0 hz1
            clear hz
            go_upto_region 16 with (fail)
            go_quiet (fail)
            have c2 := set_any b v 1 ((N : Int) + 1) (L N (j + 1) f) ((j : Int) + 1) on off (wr.drewN nq) (T.out.is.below ⟨rfl, rfl, rfl, Nat.le_refl _, fun _ _ => rfl⟩) (L_up _ _ _) (by rw [L_len]; omega)
            obtain ⟨k1, k2, k3⟩ := set_ok N j f on off hjN hon hoff
            rw [k1, k2, k3] at c2
            have HC := hid c2
            have hsf : bits .or .i64 (bits .andNot .i64 f off) on = Bv.sf f on off := rfl
            clear c2 k1 k2 k3
            generalize Bv.sf f on off = f' at *
            unfold beV at HC
            go_wp2_with fail
            refine HC.out.mono ?_
            rintro e w2 ⟨rfl, hi2, hk2⟩
            have T1 : BxS w (wr.drewN nq) b v 1 ((N : Int) + 1) (L N (j + 1) f) := T.out.below ⟨rfl, rfl, rfl, Nat.le_refl _, fun _ _ => rfl⟩
            have T2 := hid (T1.to hi2 hk2)
            clear hi2 hk2 T HC T1
            have T3 := hid (T2.out.below ((Below.refl _ w2).alloc (Nat.le_refl _) (.cells #[.int .i64 ((j : Int) + 1), .int .i64 f', .int .i64 1] 38)))
            have hff : (f' != f') = false := by simp
            go_wp2
            exact ⟨⟨p + 1, f', v, by omega, by omega, by go_num, rfl, T3.out⟩, by simp [intOf]; omega⟩
          · obtain rfl : p = 20 := by omega
            have hji : (20 : Int) < (A.length : Int) := by omega
            rw [show ((20 : Nat) : Int) = 20 from rfl]
            clear hpA hp20 hlt
            have HL1 := hid (list_any T.out.is (by rw [L_len]; omega))
            go_wp2_with fail
            refine HL1.out.mono ?_
            rintro e w2 ⟨vl, rfl, ho2, hf2, hb2⟩
            have T2 := hid (T.out.below hb2)
            have HO2 := hid ho2
            obtain ⟨aol, capl, hvl⟩ := ownsRow_slice ho2
            rw [L_len] at hvl
            subst hvl
            clear ho2 hf2 hb2 HL1 T
            go_upto_region 22 with (fail)
            go_loopw [82] (fun i wq => ∃ p : Nat, p ≤ N ∧ i = .int .i64 p ∧ BxS w wq b v 1 ((N : Int) + 1) (L N (j + 1) f) ∧ OwnB wq 38 (.slice aol N capl) (L N (j + 1) f))
              (fun i _ => N - (intOf i).toNat)
            case atStart => exact ⟨0, by omega, rfl, T2.out, HO2.out⟩
            case round =>
              obtain ⟨q, hqN, rfl, hs, ho⟩ := hrel
              have T := hid hs
              have HO := hid ho
              clear hs T2 HO2
              by_cases hlt : q < N
              · have hqi : (q : Int) < (N : Int) := by omega
                obtain ⟨ao', cap', he, hes⟩ := ho.es
                obtain rfl : aol = ao' := by injection he
                obtain ⟨g, rfl, q0, q1, q2⟩ := hes q (by rw [L_len]; exact hlt)
                rw [L_get N (j + 1) f q hlt] at q0 q1 q2
                dsimp only at q0 q1 q2
                clear he hes ho
                have T3 := hid (fun x => T.out.below ((Below.refl _ wr).alloc (Nat.le_refl _) (.cells #[.int .i64 ((q : Int) + 1), .int .i64 x, .int .i64 1] 38)))
                have HO3 := hid (fun x => HO.out.below ((Below.refl _ wr).alloc (Nat.le_refl _) (.cells #[.int .i64 ((q : Int) + 1), .int .i64 x, .int .i64 1] 38)))
                have hff : (f != f) = false := by simp
                by_cases hqj : q = j
                · subst hqj
                  rw [if_pos rfl] at q1
                  have huu : ((q : Int) + 1 == (q : Int) + 1) = true := by simp
                  have hun : ((q : Int) + 1 != (q : Int) + 1) = false := by simp
                  go_wp2
                  exact ⟨⟨q + 1, by omega, by go_num, T3.out _, HO3.out _⟩, by simp [intOf]; omega⟩
                · rw [if_neg (by omega)] at q1
                  have huu : ((q : Int) + 1 == (j : Int) + 1) = false := by simp; omega
                  have hun : ((q : Int) + 1 != (j : Int) + 1) = true := by simp; omega
                  go_wp2
                  exact ⟨⟨q + 1, by omega, by go_num, T3.out _, HO3.out _⟩, by simp [intOf]; omega⟩
              · obtain rfl : N = q := by omega
                clear ho HO
                have hgl := gone_is N j f hjN
                have hll := left_is N j f
                have HE := hid (expunge_any T.out.is (by rw [L_len]; omega))
                generalize L N (j + 1) f = LL at *
                obtain ⟨z, hz⟩ : ∃ z, bits .and .i64 f 8 = z := ⟨_, rfl⟩
                rw [hz] at hgl
                go_wp2_with fail
                refine HE.out.mono ?_
                rintro e w4 ⟨vo, vf, rfl, hi4, ho4, hf4, hl4, hk4⟩
                have T4 := hid (T.out.exp hi4 hk4 hl4)
                obtain ⟨aoo, capo, hvo⟩ := ownsRow_slice ho4
                obtain ⟨G, hG⟩ : ∃ G, (Bv.gone LL).length = G := ⟨_, rfl⟩
                rw [hG] at hvo hgl hll
                subst hvo
                have HL2 := hid (list_any hi4 (by omega))
                have hG1 : G ≤ N := by rw [hgl]; split <;> omega
                have HGL := hid hgl
                have HLL := hid hll
                clear hgl hll hG
                clear hi4 ho4 hf4 hl4 hk4 HE T
                go_wp2_with fail
                refine HL2.out.mono ?_
                rintro e w5 ⟨vl5, rfl, ho5, _, hb5⟩
                obtain ⟨ao5, cap5, hv5⟩ := ownsRow_slice ho5
                rw [HLL.out] at hv5
                subst hv5
                have T5 := hid (T4.out.bel.trans (hb5.mono T4.out.bel.size))
                clear ho5 hb5 HL2 T4
                have hwG : IntKind.i64.wrap ((N : Int) - (G : Int)) = ((N - G : Nat) : Int) := by rw [IntKind.wrap_i64]; omega
                by_cases h0 : z = 0
                · obtain rfl : G = 0 := by rw [HGL.out, h0]; rfl
                  subst h0
                  go_wp2
                  go_ret
                  exact ⟨rfl, T5.out⟩
                · have h1 : (z != 0) = true := by simpa using h0
                  obtain rfl : G = 1 := by rw [HGL.out, h1]; rfl
                  go_wp2
                  go_ret
                  exact ⟨rfl, T5.out⟩
        · obtain rfl : p = A.length := by omega
          clear hpA hp20 hlt
          have HL1 := hid (list_any T.out.is (by rw [L_len]; omega))
          go_wp2_with fail
          refine HL1.out.mono ?_
          rintro e w2 ⟨vl, rfl, ho2, hf2, hb2⟩
          have T2 := hid (T.out.below hb2)
          have HO2 := hid ho2
          obtain ⟨aol, capl, hvl⟩ := ownsRow_slice ho2
          rw [L_len] at hvl
          subst hvl
          clear ho2 hf2 hb2 HL1 T
          go_upto_region 22 with (fail)
          go_loopw [82] (fun i wq => ∃ p : Nat, p ≤ N ∧ i = .int .i64 p ∧ BxS w wq b v 1 ((N : Int) + 1) (L N (j + 1) f) ∧ OwnB wq 38 (.slice aol N capl) (L N (j + 1) f))
            (fun i _ => N - (intOf i).toNat)
          case atStart => exact ⟨0, by omega, rfl, T2.out, HO2.out⟩
          case round =>
            obtain ⟨q, hqN, rfl, hs, ho⟩ := hrel
            have T := hid hs
            have HO := hid ho
            clear hs T2 HO2
            by_cases hlt : q < N
            · have hqi : (q : Int) < (N : Int) := by omega
              obtain ⟨ao', cap', he, hes⟩ := ho.es
              obtain rfl : aol = ao' := by injection he
              obtain ⟨g, rfl, q0, q1, q2⟩ := hes q (by rw [L_len]; exact hlt)
              rw [L_get N (j + 1) f q hlt] at q0 q1 q2
              dsimp only at q0 q1 q2
              clear he hes ho
              have T3 := hid (fun x => T.out.below ((Below.refl _ wr).alloc (Nat.le_refl _) (.cells #[.int .i64 ((q : Int) + 1), .int .i64 x, .int .i64 1] 38)))
              have HO3 := hid (fun x => HO.out.below ((Below.refl _ wr).alloc (Nat.le_refl _) (.cells #[.int .i64 ((q : Int) + 1), .int .i64 x, .int .i64 1] 38)))
              have hff : (f != f) = false := by simp
              by_cases hqj : q = j
              · subst hqj
                rw [if_pos rfl] at q1
                have huu : ((q : Int) + 1 == (q : Int) + 1) = true := by simp
                have hun : ((q : Int) + 1 != (q : Int) + 1) = false := by simp
                go_wp2
                exact ⟨⟨q + 1, by omega, by go_num, T3.out _, HO3.out _⟩, by simp [intOf]; omega⟩
              · rw [if_neg (by omega)] at q1
                have huu : ((q : Int) + 1 == (j : Int) + 1) = false := by simp; omega
                have hun : ((q : Int) + 1 != (j : Int) + 1) = true := by simp; omega
                go_wp2
                exact ⟨⟨q + 1, by omega, by go_num, T3.out _, HO3.out _⟩, by simp [intOf]; omega⟩
            · obtain rfl : N = q := by omega
              clear ho HO
              have hgl := gone_is N j f hjN
              have hll := left_is N j f
              have HE := hid (expunge_any T.out.is (by rw [L_len]; omega))
              generalize L N (j + 1) f = LL at *
              obtain ⟨z, hz⟩ : ∃ z, bits .and .i64 f 8 = z := ⟨_, rfl⟩
              rw [hz] at hgl
              go_wp2_with fail
              refine HE.out.mono ?_
              rintro e w4 ⟨vo, vf, rfl, hi4, ho4, hf4, hl4, hk4⟩
              have T4 := hid (T.out.exp hi4 hk4 hl4)
              obtain ⟨aoo, capo, hvo⟩ := ownsRow_slice ho4
              obtain ⟨G, hG⟩ : ∃ G, (Bv.gone LL).length = G := ⟨_, rfl⟩
              rw [hG] at hvo hgl hll
              subst hvo
              have HL2 := hid (list_any hi4 (by omega))
              have hG1 : G ≤ N := by rw [hgl]; split <;> omega
              have HGL := hid hgl
              have HLL := hid hll
              clear hgl hll hG
              clear hi4 ho4 hf4 hl4 hk4 HE T
              go_wp2_with fail
              refine HL2.out.mono ?_
              rintro e w5 ⟨vl5, rfl, ho5, _, hb5⟩
              obtain ⟨ao5, cap5, hv5⟩ := ownsRow_slice ho5
              rw [HLL.out] at hv5
              subst hv5
              have T5 := hid (T4.out.bel.trans (hb5.mono T4.out.bel.size))
              clear ho5 hb5 HL2 T4
              have hwG : IntKind.i64.wrap ((N : Int) - (G : Int)) = ((N - G : Nat) : Int) := by rw [IntKind.wrap_i64]; omega
              by_cases h0 : z = 0
              · obtain rfl : G = 0 := by rw [HGL.out, h0]; rfl
                subst h0
                go_wp2
                go_ret
                exact ⟨rfl, T5.out⟩
              · have h1 : (z != 0) = true := by simpa using h0
                obtain rfl : G = 1 := by rw [HGL.out, h1]; rfl
                go_wp2
                go_ret
                exact ⟨rfl, T5.out⟩

set_option maxRecDepth 100000 in
theorem contract (H : Type) (enc : TypeId × Value → H) (W : World) (base : Nat) (args : Array Value) (ds gs : List (DataW H)) (before : List MemPlace)
    (hval : ∀ (j : Nat) t v, Try.f6.params[j]? = some t → args[j]? = some v → Value.okWide Try.prog W .any base t v)
    (hW : DataW.Whole enc Try.prog Try.f6.params.toList Rows.boxFlagsSpec.vars false W args.toList ds gs before) (hL : laidMetH Try.prog Rows.boxFlagsRow.laid W) :
    Calls Try.prog 6 args W fun e W' => ∃ v, e = .returned v ∧ Rows.boxFlagsSpec.post enc Try.prog Try.f6 false true false false W args v W' := by
  have hW' := hW
  obtain ⟨p, q, hA0, hV, rfl, hfz, hnd⟩ := hW
  have hA : DataW.TrodAll enc Try.prog W 0 (fun _ => true) true Try.f6.params.toList args.toList ds p := hA0
  rw [Try.params6] at hA hval
  obtain ⟨v0, vs0, d0, ds0, p0, q0, hargs, rfl, rfl, h0, r0⟩ := trodAll_cons hA
  obtain ⟨v1, vs1, d1, ds1, p1, q1, rfl, rfl, rfl, h1, r1⟩ := trodAll_cons r0
  obtain ⟨v2, vs2, d2, ds2, p2, q2, rfl, rfl, rfl, h2, r2⟩ := trodAll_cons r1
  obtain ⟨rfl, rfl, rfl⟩ := trodAll_nil r2
  obtain rfl : args = #[v0, v1, v2] := by cases args; simp_all
  obtain ⟨n0, rfl, rfl, rfl, wn0⟩ := open_int Try.underlying3 (hval 0 3 v0 rfl rfl) h0
  obtain ⟨n1, rfl, rfl, rfl, wn1⟩ := open_int Try.underlying3 (hval 1 3 v1 rfl rfl) h1
  obtain ⟨ao2, L2, cap2, rfl, hR2, hL2⟩ := open_pairs (hval 2 53 v2 rfl rfl) h2
  refine (walk n0 n1 ao2 L2 cap2 W hR2 hL2).mono fun e W' ⟨he, hb⟩ => ?_
  subst he
  exact ⟨_, rfl, law_post rfl rfl (by rw [Try.params6]; decide +kernel) hW' rfl hb⟩

theorem laid_met (os : Os) : laidMet Try.prog Rows.boxFlagsRow.laid ((laidWorld os).forCall (fun _ _ => 0) ⟨#[], #[.int .i64 0, .int .i64 0, .slice none 0 0], []⟩).memory :=
  laidMet_of_run' 8 (by kernel_rfl) (by kernel_rfl)
theorem reads (os : Os) {H : Type} (enc : TypeId × Value → H) : ∃ places, DataW.whole enc Try.prog ((laidWorld os).forCall (fun _ _ => 0) ⟨#[], #[.int .i64 0, .int .i64 0, .slice none 0 0], []⟩).memory Try.f6.params.toList Rows.boxFlagsSpec.vars false (#[.int .i64 0, .int .i64 0, .slice none 0 0] : Array Value).toList 8
    = some ([.lit (.int .i64 0), .lit (.int .i64 0), .nil], [], places) :=
  ⟨[], by kernel_rfl⟩

set_option maxRecDepth 100000 in
theorem lifted (os : Os) (started : os.Started) (H : Type) (enc : TypeId × Value → H) (F : Stop.Interp) :
    ReturnsInHanded {} Try.checked os 6 .any ((OpenSpec.ofChange Rows.boxFlagsSpec).preRow enc Try.prog Try.f6 Rows.boxFlagsRow.domain false Rows.boxFlagsRow.laid) (((OpenSpec.ofChange Rows.boxFlagsSpec).at F).post enc Try.prog Try.f6 false true false false) := by
  obtain ⟨places, hx⟩ := reads os enc
  refine returnsInHanded_of_row (C := Try.checked) (s := OpenSpec.ofChange Rows.boxFlagsSpec) own started (by kernel_rfl) Try.func6
    (witness_row_at (enc := enc) (C := Try.checked) false (laidWorld os) #[.int .i64 0, .int .i64 0, .slice none 0 0] rfl (by kernel_rfl) (by kernel_rfl) (by kernel_rfl)
      (OpenSpec.preRow_of_cond 8 hx (by kernel_rfl) (fun k hk => by cases hk) (by kernel_rfl) (laid_met os))) ?_
  intro W base args ds gs before hval hW _ _ _ hL _ _
  exact contract H enc W base args ds gs before hval hW hL

theorem said : Rows.BoxFlagsSaid :=
  OpenClaim.holds_of_cond 6 Try.f6 rfl rfl rfl rfl rfl rfl rfl ⟨rfl, rfl, rfl, rfl, rfl⟩ rfl rfl rfl rfl rfl (by kernel_rfl) Try.func6 (by kernel_rfl)
    (of_decide_eq_true (by kernel_rfl)) (by unfold Func.isWrapper; first | (rw [if_pos (by decide +kernel)]; kernel_rfl) | (rw [if_neg (by decide +kernel)]; exact ⟨rfl, rfl⟩))
    (fun os started H enc _ F => by rw [OpenClaim.pre_eq_preRow]; exact lifted os started H enc F)


end BoxFlags
theorem boxFlags_said : Rows.BoxFlagsSaid := BoxFlags.said
end Go.Proofs.Ytlfjhpmachblkaa
