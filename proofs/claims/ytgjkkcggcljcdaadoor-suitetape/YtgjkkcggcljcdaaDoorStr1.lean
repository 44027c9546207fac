/-
  Layer 3: what stream.number, math/bits.RotateLeft32, (numbers).mix and quarter do.
-/
import Derived.Test.YtgjkkcggcljcdaaDoorStrSpec
namespace Go.Proofs.YtgjkkcggcljcdaaDoor
open Go.RowKit
open Go.Lib (hid)

theorem or_le4 (x0 x1 x2 x3 : Nat) (h0 : x0 < 256) (h1 : x1 < 256) (h2 : x2 < 256) (h3 : x3 < 256) :
    bits .or .u32 (bits .or .u32 (bits .or .u32 (x0 : Int) ((x1 : Int) * 256)) ((x2 : Int) * 65536)) ((x3 : Int) * 16777216) = ((x0 + 256 * x1 + 65536 * x2 + 16777216 * x3 : Nat) : Int) := by
  have e1 : (x1 : Int) * 256 = ((256 * x1 : Nat) : Int) := by omega
  have e2 : (x2 : Int) * 65536 = ((65536 * x2 : Nat) : Int) := by omega
  have e3 : (x3 : Int) * 16777216 = ((16777216 * x3 : Nat) : Int) := by omega
  have o1 : x0 ||| 256 * x1 = x0 + 256 * x1 := by
    rw [Nat.or_comm, ← Nat.two_pow_add_eq_or_of_lt (i := 8) (b := x0) h0 x1]; omega
  have o2 : (x0 + 256 * x1) ||| 65536 * x2 = x0 + 256 * x1 + 65536 * x2 := by
    rw [Nat.or_comm, ← Nat.two_pow_add_eq_or_of_lt (i := 16) (b := x0 + 256 * x1) (by omega) x2]; omega
  have o3 : (x0 + 256 * x1 + 65536 * x2) ||| 16777216 * x3 = x0 + 256 * x1 + 65536 * x2 + 16777216 * x3 := by
    rw [Nat.or_comm, ← Nat.two_pow_add_eq_or_of_lt (i := 24) (b := x0 + 256 * x1 + 65536 * x2) (by omega) x3]; omega
  rw [e1, e2, e3, or32 _ _ (by unfold Sx.M; omega) (by unfold Sx.M; omega), o1, or32 _ _ (by unfold Sx.M; omega) (by unfold Sx.M; omega), o2, or32 _ _ (by unfold Sx.M; omega) (by unfold Sx.M; omega), o3]

set_option maxRecDepth 100000 in
/-- The number of four bytes of a row from place off on. -/
theorem number_any (w : World) (b off n cap : Nat) (ty : TypeId) (l : List Nat) (i : Nat) (ho : off = 4 * i) (hn : 4 ≤ n) (hl : ∀ x ∈ l, x < 256) (hlen : off + 4 ≤ l.length) (hr : Row w b .u8 ty l) :
    Calls Tryd.prog 78 #[.slice (some ⟨b, off, none⟩) n cap] w fun e w' => e = .returned (.int .u32 (Cx.le4 l i : Nat)) ∧ ∃ m, w' = w.drewN m := by
  have c0 := hr.cell off (by omega)
  have c1 := hr.cell (off + 1) (by omega)
  have c2 := hr.cell (off + 2) (by omega)
  have c3 := hr.cell (off + 3) (by omega)
  have b0 := getD_lt (by omega) hl off
  have b1 := getD_lt (by omega) hl (off + 1)
  have b2 := getD_lt (by omega) hl (off + 2)
  have b3 := getD_lt (by omega) hl (off + 3)
  have hv := or_le4 _ _ _ _ b0 b1 b2 b3
  have HW : Hid (l.getD off 0 + 256 * l.getD (off + 1) 0 + 65536 * l.getD (off + 2) 0 + 16777216 * l.getD (off + 3) 0 = Cx.le4 l i) := by rw [ho]; exact rfl
  rw [HW.out] at hv
  generalize Cx.le4 l i = z at *
  generalize l.getD off 0 = x0 at *
  generalize l.getD (off + 1) 0 = x1 at *
  generalize l.getD (off + 2) 0 = x2 at *
  generalize l.getD (off + 3) 0 = x3 at *
  clear hr hl hlen HW ho
  go_enter Tryd.func78, Tryd.ntmps78
  go_wp2
  go_quiet (fail)
  go_wp2
  go_ret
  exact ⟨rfl, _, rfl⟩

theorem mask31 (k : Int) (h0 : 0 ≤ k) (h1 : k ≤ 31) : bits .and .u64 k 31 = k := by
  have h := bits_mask .u64 64 (by decide) (fun n h0 h1 => by simp [IntKind.wrap, IntKind.bits, IntKind.signed]; omega) 5 (by decide) k (by omega) (by omega)
  have h' : bits .and .u64 k 31 = k % 32 := h
  rw [h']; omega
theorem rotl_bits (x k : Nat) (hk : 1 ≤ k) (hk2 : k ≤ 31) (hx : x < Sx.M) :
    bits .or .u32 ((x : Int) * 2 ^ k % 4294967296) ((x : Int) / 2 ^ (32 - k)) = ((Cx.rotl x k : Nat) : Int) := by
  have hp : 2 ^ (32 - k) * 2 ^ k = Sx.M := by rw [← Nat.pow_add, show 32 - k + k = 32 from by omega]; rfl
  have e1 : (x : Int) * 2 ^ k % 4294967296 = ((x % 2 ^ (32 - k) * 2 ^ k : Nat) : Int) := by
    have : (x * 2 ^ k) % 4294967296 = x % 2 ^ (32 - k) * 2 ^ k := by
      rw [show (4294967296 : Nat) = Sx.M from rfl, ← hp, Nat.mul_mod_mul_right]
    rw [← this]; simp
  have e2 : (x : Int) / 2 ^ (32 - k) = ((x / 2 ^ (32 - k) : Nat) : Int) := by simp
  have hq : x / 2 ^ (32 - k) < 2 ^ k := by apply Nat.div_lt_of_lt_mul; rw [hp]; exact hx
  have hm : x % 2 ^ (32 - k) < 2 ^ (32 - k) := Nat.mod_lt _ (Nat.pow_pos (by omega))
  have hl : x % 2 ^ (32 - k) * 2 ^ k < Sx.M := by rw [← hp]; exact Nat.mul_lt_mul_of_pos_right hm (Nat.pow_pos (by omega))
  have h2 : 2 ^ k ≤ 2 ^ 32 := Nat.pow_le_pow_right (by omega) (by omega)
  rw [e1, e2, or32 _ _ hl (by unfold Sx.M; omega)]
  have hj := Nat.two_pow_add_eq_or_of_lt hq (x % 2 ^ (32 - k))
  rw [Nat.mul_comm (x % 2 ^ (32 - k)), ← hj]
  unfold Cx.rotl
  congr 1
  rw [← hp, Nat.mul_mod_mul_right, Nat.mul_comm]
set_option maxRecDepth 100000 in
theorem rotl_any (x : Nat) (k : Int) (w : World) (hk : 1 ≤ k) (hk2 : k ≤ 31) (hx : x < Sx.M) :
    Calls Tryd.prog 96 #[.int .u32 (x : Int), .int .i64 k] w fun e w' => e = .returned (.int .u32 (Cx.rotl x k.toNat : Nat)) ∧ w' = w := by
  have hm := mask31 k (by omega) hk2
  have hr : bits .or .u32 ((x : Int) * 2 ^ k.toNat % 4294967296) ((x : Int) / 2 ^ (32 - k).toNat) = ((Cx.rotl x k.toNat : Nat) : Int) := by
    rw [← rotl_bits x k.toNat (by omega) (by omega) hx, show (32 - k).toNat = 32 - k.toNat from by omega]
  have hx' : (x : Int) < 4294967296 := by unfold Sx.M at hx; omega
  have HR := hid hr
  clear hr
  go_enter Tryd.func96, Tryd.ntmps96
  go_wp2
  go_ret
  exact ⟨ret_int HR.out, rfl⟩

theorem info61 : (Tryd.prog.info? 132).map (·.size) = some 16 := by kernel_rfl

set_option maxRecDepth 100000 in
set_option maxHeartbeats 1000000 in
theorem mix_any (b : Nat) (x : List Nat) (s o t : Nat) (n : Int) (hx : Cx.Ok x) (hl : x.length = 16) (hs : s < 16) (ho : o < 16) (ht : t < 16) (hn : 1 ≤ n) (hn2 : n ≤ 31) (w : World) (ty : TypeId) (hr : Row w b .u32 ty x) :
    Calls Tryd.prog 90 #[.pointer (some ⟨b, 0, none⟩), .int .i64 (s : Int), .int .i64 (o : Int), .int .i64 (t : Int), .int .i64 n] w
      fun e w' => e = .returned (.tuple #[]) ∧ Row w' b .u32 ty (Cx.mix x s o t n.toNat) ∧ KeptB b w w' := by
  have cs := hr.cell s (by omega)
  have co := hr.cell o (by omega)
  have fs := hr.free s
  have hw := add32 (x.getD s 0) (x.getD o 0)
  have r1 := fun m => show Row ((w.drewN m).setCell ⟨b, s, none⟩ (.int .u32 ((x.getD s 0 + x.getD o 0) % Sx.M : Nat))) b .u32 ty (x.set s ((x.getD s 0 + x.getD o 0) % Sx.M)) from Row.set (w := w.drewN m) hr s _
  have k1 := fun m => show KeptB b w ((w.drewN m).setCell ⟨b, s, none⟩ (.int .u32 ((x.getD s 0 + x.getD o 0) % Sx.M : Nat))) from KeptB.setCell (u := w) (w := w.drewN m) ⟨rfl, rfl, rfl, Nat.le_refl _, fun _ _ _ => rfl⟩ _
  obtain ⟨y, hy⟩ : ∃ y, y = x.set s ((x.getD s 0 + x.getD o 0) % Sx.M) := ⟨_, rfl⟩
  have hyo : Cx.Ok y := by rw [hy]; exact hx.set _ _ (Nat.mod_lt _ (by decide))
  have hyl : y.length = 16 := by rw [hy]; simpa using hl
  have HM : Hid (y.set t (Cx.rotl (y.getD t 0 ^^^ y.getD s 0) n.toNat) = Cx.mix x s o t n.toNat) := by rw [hy]; exact rfl
  rw [← hy] at r1
  generalize (x.getD s 0 + x.getD o 0) % Sx.M = z at *
  generalize x.getD s 0 = x1 at *
  generalize x.getD o 0 = x2 at *
  have R1 := hid r1
  have K1 := hid k1
  clear hr hx hl hy r1 k1
  go_enter Tryd.func90, Tryd.ntmps90
  go_upto_region 0 with (fail)
  refine wp_region_noPanic ?_
  refine wp_region_hd1 12 2 rfl (by kernel_rfl) (by kernel_rfl) (fun _ _ _ _ _ h => h) ?_
  simp only [List.take_succ_cons, List.take_zero, List.drop_succ_cons, List.drop_zero]
  repeat (go_big_quiet_step (fail))
  refine wpQuiet_nil ?_
  intro m
  go_wp2
  refine NoPanic.normal ?_
  have r1 := R1.out m
  have K2 := hid (K1.out m)
  generalize (w.drewN m).setCell _ _ = w1 at *
  have ct := r1.cell t (by omega)
  have cs1 := r1.cell s (by omega)
  have ft := r1.free t
  have gt := hyo.get t
  have gs := hyo.get s
  have hxo := xor32 _ _ gt gs
  have hxl := xor32_lt _ _ gt gs
  have r2 := fun m' => show Row ((w1.drewN m').setCell ⟨b, t, none⟩ (.int .u32 (Cx.rotl (y.getD t 0 ^^^ y.getD s 0) n.toNat : Nat))) b .u32 ty (y.set t (Cx.rotl (y.getD t 0 ^^^ y.getD s 0) n.toNat)) from Row.set (w := w1.drewN m') r1 t _
  rw [HM.out] at r2
  have k2 := fun m' => show KeptB b w1 ((w1.drewN m').setCell ⟨b, t, none⟩ (.int .u32 (Cx.rotl (y.getD t 0 ^^^ y.getD s 0) n.toNat : Nat))) from KeptB.setCell (u := w1) (w := w1.drewN m') ⟨rfl, rfl, rfl, Nat.le_refl _, fun _ _ _ => rfl⟩ _
  generalize y.getD t 0 ^^^ y.getD s 0 = v at *
  generalize y.getD t 0 = y1 at *
  generalize y.getD s 0 = y2 at *
  have HRO := hid (fun wx => rotl_any v n wx hn hn2 hxl)
  generalize Cx.rotl v n.toNat = u at *
  have R2 := hid r2
  have KK := hid k2
  clear cs co fs R1 K1 hw r1 r2 k2 hyo hyl HM gt gs hxl
  go_wp2
  refine wp_region_noPanic ?_
  refine wp_region_hd1 16 2 rfl (by kernel_rfl) (by kernel_rfl) (fun _ _ _ _ _ h => h) ?_
  simp only [List.take_succ_cons, List.take_zero, List.drop_succ_cons, List.drop_zero]
  repeat (go_big_quiet_step ((go_at_call 96; exact Calls.quiet_of_same (HRO.out _))))
  refine wpQuiet_nil ?_
  intro m2
  go_wp2
  refine NoPanic.normal ?_
  go_wp2
  go_end0
  exact ⟨rfl, R2.out m2, K2.out.trans (KK.out m2)⟩

theorem mixI (b : Nat) (x : List Nat) (s o t : Int) (n : Int) (hx : Cx.Ok x) (hl : x.length = 16) (hs : 0 ≤ s ∧ s < 16) (ho : 0 ≤ o ∧ o < 16) (ht : 0 ≤ t ∧ t < 16) (hn : 1 ≤ n ∧ n ≤ 31) (w : World) (ty : TypeId) (hr : Row w b .u32 ty x) :
    Calls Tryd.prog 90 #[.pointer (some ⟨b, 0, none⟩), .int .i64 s, .int .i64 o, .int .i64 t, .int .i64 n] w
      fun e w' => e = .returned (.tuple #[]) ∧ Row w' b .u32 ty (Cx.mix x s.toNat o.toNat t.toNat n.toNat) ∧ KeptB b w w' := by
  have h := mix_any b x s.toNat o.toNat t.toNat n hx hl (by omega) (by omega) (by omega) hn.1 hn.2 w ty hr
  rwa [show ((s.toNat : Nat) : Int) = s from by omega, show ((o.toNat : Nat) : Int) = o from by omega, show ((t.toNat : Nat) : Int) = t from by omega] at h

set_option maxRecDepth 100000 in
theorem quarter_any (b : Nat) (x : List Nat) (a c d e : Nat) (hx : Cx.Ok x) (hl : x.length = 16) (ha : a < 16) (hc : c < 16) (hd : d < 16) (he : e < 16) (w : World) (ty : TypeId) (hr : Row w b .u32 ty x) :
    Calls Tryd.prog 79 #[.pointer (some ⟨b, 0, none⟩), .int .i64 (a : Int), .int .i64 (c : Int), .int .i64 (d : Int), .int .i64 (e : Int)] w
      fun e' w' => e' = .returned (.tuple #[]) ∧ Row w' b .u32 ty (Cx.quarter x a c d e) ∧ KeptB b w w' := by
  have HR := hid hr
  have HX := hid hx
  have HQ : Hid (Cx.mix (Cx.mix (Cx.mix (Cx.mix x a c e 16) d e c 12) a c e 8) d e c 7 = Cx.quarter x a c d e) := rfl
  clear hr hx
  go_enter Tryd.func79, Tryd.ntmps79
  go_wp2_with fail
  refine (mix_any b x a c e 16 HX.out hl ha hc he (by decide) (by decide) _ ty HR.out).mono ?_
  rintro e1 w1 ⟨rfl, r1, k1⟩
  have hx1 := HX.out.mix a c e 16 (by omega)
  go_wp2_with fail
  refine (mix_any b _ d e c 12 hx1 (by rw [Cx.mix_length]; exact hl) hd he hc (by decide) (by decide) _ ty r1).mono ?_
  rintro e2 w2 ⟨rfl, r2, k2⟩
  have hx2 := hx1.mix d e c 12 (by omega)
  go_wp2_with fail
  refine (mix_any b _ a c e 8 hx2 (by rw [Cx.mix_length]; exact (Cx.mix_length _ _ _ _ _).trans hl) ha hc he (by decide) (by decide) _ ty r2).mono ?_
  rintro e3 w3 ⟨rfl, r3, k3⟩
  have hx3 := hx2.mix a c e 8 (by omega)
  go_wp2_with fail
  refine (mix_any b _ d e c 7 hx3 (by rw [Cx.mix_length]; exact (Cx.mix_length _ _ _ _ _).trans ((Cx.mix_length _ _ _ _ _).trans hl)) hd he hc (by decide) (by decide) _ ty r3).mono ?_
  rintro e4 w4 ⟨rfl, r4, k4⟩
  go_wp2_with fail
  go_end0
  exact ⟨rfl, by rw [← HQ.out]; exact r4, ((k1.trans k2).trans k3).trans k4⟩
end Go.Proofs.YtgjkkcggcljcdaaDoor
