/-
  RefFns, RefKit, RefOf, RefMac in one text.
-/
import Derived.Test.YtgjkkcggcljcdaaDoorBase
import Derived.Test.YtgjkkcggcljcdaaDoorShaCut
import Derived.Test.YtgjkkcggcljcdaaDoorAnyS
import Derived.Test.YtgjkkcggcljcdaaDoorMacOf
/-
  The reference of layer 1: what sealwaxref01.Turn, shift and constants return.
-/
namespace Go.Proofs.YtgjkkcggcljcdaaDoor
open Go.RowKit
open Go.Lib (hid)

theorem turn_sum (x k : Nat) (hk : k ≤ 32) : (x / 2 ^ k + x % 2 ^ k * (4294967296 / 2 ^ k) : Nat) = Sx.rotr x k := by
  unfold Sx.rotr
  rw [show (4294967296 : Nat) = 2 ^ 32 from rfl, Nat.pow_div hk (by omega)]

theorem wrap_small (n : Nat) (h : n < 9223372036854775808) : wrap64 (n : Int) = n := by
  unfold wrap64
  omega
theorem turn_wrap (a b : Nat) (ha : a ≤ 4294967296) (hb : b ≤ 4294967296) : wrap64 (wrap64 (a : Int) + wrap64 (b : Int)) = ((a + b : Nat) : Int) := by
  rw [wrap_small a (by omega), wrap_small b (by omega), ← Int.natCast_add, wrap_small _ (by omega)]

end Go.Proofs.YtgjkkcggcljcdaaDoor

/-
  The reference of layer 1: slices of numbers of a call's own, and small laws.
-/
namespace Go.Proofs.YtgjkkcggcljcdaaDoor
open Go.RowKit
open Go.Lib (hid)

namespace Sx
theorem zeros_hit (n j : Nat) (h : j ≤ zeros n) : (n + 1 + j) % 64 = 56 ↔ j = zeros n := by unfold zeros at *; omega
theorem ending_eq (t : List Nat) (n : Nat) : (t ++ 128 :: List.replicate (zeros n) 0) ++ be (8 * n) 8 = t ++ ending n := by simp [ending]
end Sx

theorem block_get (T : List Nat) (n k j : Nat) (hk : k < 16) (hj : j < 4) : ((T.drop (64 * n + 4 * k)).take 4).getD j 0 = ((T.drop (64 * n)).take 64).getD (4 * k + j) 0 := by
  simp only [List.getD_eq_getElem?_getD, List.getElem?_take, List.getElem?_drop]
  rw [if_pos hj, if_pos (by omega), Nat.add_assoc]

/-- The word that a round of the first loop lays. -/
theorem word_int (x0 x1 x2 x3 : Nat) : ((((x0 : Int) * 256 + (x1 : Int)) * 256 + (x2 : Int)) * 256 + (x3 : Int)) = ((((x0 * 256 + x1) * 256 + x2) * 256 + x3 : Nat) : Int) := by omega

theorem next_int (p q X Y nw : Nat) (h : nw = (p + q + X + Y) % Sx.M) : ((p : Int) + (q : Int) + (X : Int) + (Y : Int)) % 4294967296 = (nw : Int) := by
  rw [h]; unfold Sx.M; omega
theorem wsum2 (p q : Nat) (hp : p < Sx.M) (hq : q < Sx.M) : IntKind.i64.wrap ((p : Int) + (q : Int)) = (p : Int) + (q : Int) := by
  unfold Sx.M at hp hq; rw [IntKind.wrap_i64]; omega
theorem wsum3 (p q x : Nat) (hp : p < Sx.M) (hq : q < Sx.M) (hx : x < Sx.M) : IntKind.i64.wrap ((p : Int) + (q : Int) + (x : Int)) = (p : Int) + (q : Int) + (x : Int) := by
  unfold Sx.M at hp hq hx; rw [IntKind.wrap_i64]; omega
theorem wsum4 (p q x y : Nat) (hp : p < Sx.M) (hq : q < Sx.M) (hx : x < Sx.M) (hy : y < Sx.M) : IntKind.i64.wrap ((p : Int) + (q : Int) + (x : Int) + (y : Int)) = (p : Int) + (q : Int) + (x : Int) + (y : Int) := by
  unfold Sx.M at hp hq hx hy; rw [IntKind.wrap_i64]; omega
theorem next_tmod (p q X Y nw : Nat) (h : ((p : Int) + (q : Int) + (X : Int) + (Y : Int)) % 4294967296 = (nw : Int)) : ((p : Int) + (q : Int) + (X : Int) + (Y : Int)).tmod 4294967296 = (nw : Int) := by
  rw [Int.tmod_eq_emod_of_nonneg (by omega), h]
/-- The eight variables hold a state. -/
def StRelI (s : Sx.St) (a b c d e f g h : Value) : Prop :=
  a = .int .i64 (s.a : Int) ∧ b = .int .i64 (s.b : Int) ∧ c = .int .i64 (s.c : Int) ∧ d = .int .i64 (s.d : Int) ∧ e = .int .i64 (s.e : Int) ∧ f = .int .i64 (s.f : Int) ∧ g = .int .i64 (s.g : Int) ∧ h = .int .i64 (s.h : Int)
theorem runB_ok (t : List Nat) (n : Nat) : (Sx.St.of (Sx.runB t n)).Ok := by
  cases n with
  | zero => show (Sx.St.of Sx.H0).Ok; exact ⟨by decide, by decide, by decide, by decide, by decide, by decide, by decide, by decide⟩
  | succ n => exact Sx.St.ok_of _ _
theorem K_lt (k : Nat) : Sx.K.getD k 0 < Sx.M := by
  by_cases h : k < 64
  · exact (show ∀ k, k < 64 → Sx.K.getD k 0 < Sx.M from by decide +kernel) k h
  · simp only [List.getD_eq_getElem?_getD, List.getElem?_eq_none (show Sx.K.length ≤ k from Nat.le_of_not_lt h), Option.getD_none]; decide
theorem subI (a : Nat) (ha : a < Sx.M) : wrap64 (4294967295 - (a : Int)) = ((Sx.M - 1 - a : Nat) : Int) := by
  unfold Sx.M at *; unfold wrap64; omega
namespace Sx
theorem bs1_lt (e : Nat) (he : e < M) : bs1 e < M := xor32_lt _ _ (xor32_lt _ _ (rotr_lt e 6 (by omega) he) (rotr_lt e 11 (by omega) he)) (rotr_lt e 25 (by omega) he)
theorem bs0_lt (e : Nat) (he : e < M) : bs0 e < M := xor32_lt _ _ (xor32_lt _ _ (rotr_lt e 2 (by omega) he) (rotr_lt e 13 (by omega) he)) (rotr_lt e 22 (by omega) he)
theorem chs_lt (e f g : Nat) (hf : f < M) (hg : g < M) : chs e f g < M := xor32_lt _ _ (and32_lt _ _ hf) (and32_lt _ _ hg)
theorem maj_lt (a b c : Nat) (hb : b < M) (hc : c < M) : maj a b c < M := xor32_lt _ _ (xor32_lt _ _ (and32_lt _ _ hb) (and32_lt _ _ hc)) (and32_lt _ _ hc)
end Sx
theorem rnd_xI (e f g h k w : Nat) (he : e < Sx.M) (hf : f < Sx.M) (hg : g < Sx.M) (hh : h < Sx.M) (hk : k < Sx.M) (hw : w < Sx.M) :
    wrap64 (wrap64 (wrap64 (wrap64 ((h : Int) + bits .xor .i64 (bits .xor .i64 (Sx.rotr e 6 : Nat) (Sx.rotr e 11 : Nat)) (Sx.rotr e 25 : Nat)) + bits .xor .i64 (bits .and .i64 (e : Int) (f : Int)) (bits .and .i64 (wrap64 (4294967295 - (e : Int))) (g : Int))) + (k : Int)) + (w : Int))
      = ((h + Sx.bs1 e + Sx.chs e f g + k + w : Nat) : Int) := by
  have r1 := Sx.rotr_lt e 6 (by omega) he
  have r2 := Sx.rotr_lt e 11 (by omega) he
  have r3 := Sx.rotr_lt e 25 (by omega) he
  have b1 := Sx.bs1_lt e he
  have b2 := Sx.chs_lt e f g hf hg
  have hs : Sx.M - 1 - e < Sx.M := by unfold Sx.M at *; omega
  rw [xor64 _ _ r1 r2, xor64 _ _ (xor32_lt _ _ r1 r2) r3, and64 _ _ he hf, subI e he, and64 _ _ hs hg, xor64 _ _ (and32_lt _ _ hf) (and32_lt _ _ hg)]
  change wrap64 (wrap64 (wrap64 (wrap64 ((h : Int) + (Sx.bs1 e : Nat)) + (Sx.chs e f g : Nat)) + (k : Int)) + (w : Int)) = _
  unfold Sx.M at *
  rw [sumI _ _ (by omega) (by omega), sumI _ _ (by omega) (by omega), sumI _ _ (by omega) (by omega), sumI _ _ (by omega) (by omega)]
theorem rnd_yI (a b c : Nat) (ha : a < Sx.M) (hb : b < Sx.M) (hc : c < Sx.M) :
    wrap64 (bits .xor .i64 (bits .xor .i64 (Sx.rotr a 2 : Nat) (Sx.rotr a 13 : Nat)) (Sx.rotr a 22 : Nat) + bits .xor .i64 (bits .xor .i64 (bits .and .i64 (a : Int) (b : Int)) (bits .and .i64 (a : Int) (c : Int))) (bits .and .i64 (b : Int) (c : Int)))
      = ((Sx.bs0 a + Sx.maj a b c : Nat) : Int) := by
  have r1 := Sx.rotr_lt a 2 (by omega) ha
  have r2 := Sx.rotr_lt a 13 (by omega) ha
  have r3 := Sx.rotr_lt a 22 (by omega) ha
  have b1 := Sx.bs0_lt a ha
  have b2 := Sx.maj_lt a b c hb hc
  rw [xor64 _ _ r1 r2, xor64 _ _ (xor32_lt _ _ r1 r2) r3, and64 _ _ ha hb, and64 _ _ ha hc, and64 _ _ hb hc, xor64 _ _ (and32_lt _ _ hb) (and32_lt _ _ hc), xor64 _ _ (xor32_lt _ _ (and32_lt _ _ hb) (and32_lt _ _ hc)) (and32_lt _ _ hc)]
  change wrap64 (((Sx.bs0 a : Nat) : Int) + ((Sx.maj a b c : Nat) : Int)) = _
  unfold Sx.M at *
  rw [sumI _ _ (by omega) (by omega)]
theorem list_lt (s : Sx.St) (o : s.Ok) (k : Nat) : s.list.getD k 0 < Sx.M := by
  refine getD_lt (by decide) ?_ k
  intro x hx
  simp only [Sx.St.list, List.mem_cons, List.not_mem_nil, or_false] at hx
  rcases hx with rfl | rfl | rfl | rfl | rfl | rfl | rfl | rfl
  · exact o.a
  · exact o.b
  · exact o.c
  · exact o.d
  · exact o.e
  · exact o.f
  · exact o.g
  · exact o.h
theorem mixed_lt (t : List Nat) (n : Nat) (b : List Nat) (k : Nat) : (Sx.mixed (Sx.runB t n) b).getD k 0 < Sx.M :=
  list_lt _ ((runB_ok t n).rounds (Sx.sched b 48) 64) k
theorem out_take (R : List Nat) (k : Nat) (h : k < R.length) : Sx.out (R.take k) ++ Sx.bytes4 (R.getD k 0) = Sx.out (R.take (k + 1)) := by
  rw [List.take_succ_eq_append_getElem h, List.getD_eq_getElem?_getD, List.getElem?_eq_getElem h]
  simp only [Sx.out, List.flatMap_append, List.flatMap_cons, List.flatMap_nil, List.append_nil, Option.getD_some]
theorem rndX_lt (e f g h k w : Nat) (he : e < Sx.M) (hf : f < Sx.M) (hg : g < Sx.M) (hh : h < Sx.M) (hk : k < Sx.M) (hw : w < Sx.M) : h + Sx.bs1 e + Sx.chs e f g + k + w < 2 ^ 40 := by
  have := Sx.bs1_lt e he; have := Sx.chs_lt e f g hf hg; unfold Sx.M at *; omega
theorem rndY_lt (a b c : Nat) (ha : a < Sx.M) (hb : b < Sx.M) (hc : c < Sx.M) : Sx.bs0 a + Sx.maj a b c < 2 ^ 40 := by
  have := Sx.bs0_lt a ha; have := Sx.maj_lt a b c hb hc; unfold Sx.M at *; omega
theorem M_lt40M (d : Nat) (h : d < Sx.M) : d < 2 ^ 40 := by unfold Sx.M at h; omega
end Go.Proofs.YtgjkkcggcljcdaaDoor

/-
  The reference of layer 1: what sealwaxref01.Of returns: the sum of the plain mathematics.
-/
namespace Go.Proofs.YtgjkkcggcljcdaaDoor
open Go.RowKit
open Go.Lib (hid)

end Go.Proofs.YtgjkkcggcljcdaaDoor

/-
  The reference of layer 2: what sealwaxref02.xored and Of return.
-/
namespace Go.Proofs.YtgjkkcggcljcdaaDoor
open Go.RowKit
open Go.Lib (hid)

theorem maskK_get (K : List Nat) (hK : K.length ≤ 64) (m j : Nat) (hj : j < 64) : (Sx.maskK K m).getD j 0 = (if j < K.length then K.getD j 0 else 0) ^^^ m := by
  unfold Sx.maskK
  rw [List.take_of_length_le hK]
  simp only [List.getD_eq_getElem?_getD, List.getElem?_map, List.getElem?_append]
  by_cases h : j < K.length
  · rw [if_pos h, if_pos h, List.getElem?_eq_getElem h]; simp
  · rw [if_neg h, if_neg h, List.getElem?_replicate, if_pos (by omega)]; simp
theorem hmac_mid (k t : List Nat) (hk : ∀ x ∈ k, x < 256) (ht : ∀ x ∈ t, x < 256) : ∀ x ∈ Sx.maskK (Sx.shortK k) 54 ++ t, x < 256 := by
  intro x hx
  rcases List.mem_append.1 hx with h | h
  · exact maskK_lt _ _ (shortK_lt k hk) (by decide) x h
  · exact ht x h
theorem hmac_out (k D : List Nat) (hk : ∀ x ∈ k, x < 256) (hD : ∀ x ∈ D, x < 256) : ∀ x ∈ Sx.maskK (Sx.shortK k) 92 ++ D, x < 256 := by
  intro x hx
  rcases List.mem_append.1 hx with h | h
  · exact maskK_lt _ _ (shortK_lt k hk) (by decide) x h
  · exact hD x h
end Go.Proofs.YtgjkkcggcljcdaaDoor
