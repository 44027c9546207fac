/-
  The reference of layer 3: what sealwaxref03.left, number and quarter do.
-/
import Derived.Test.YtiolflofkoeffaaDoorStr4
namespace Go.Proofs.YtiolflofkoeffaaDoor
open Go.RowKit
open Go.Lib (hid)

namespace Cx
theorem rotl_mod (x n : Nat) (hn : n ≤ 32) : x * 2 ^ n % Sx.M = x % 2 ^ (32 - n) * 2 ^ n := by
  have hp : 2 ^ (32 - n) * 2 ^ n = Sx.M := by rw [← Nat.pow_add, show 32 - n + n = 32 from by omega]; rfl
  rw [← hp, Nat.mul_mod_mul_right]
theorem rotl_succ (x n : Nat) (hn : n ≤ 31) (hx : x < Sx.M) : rotl x (n + 1) = 2 * rotl x n % 4294967296 + rotl x n / 2147483648 := by
  have e1 : rotl x (n + 1) = x % 2 ^ (31 - n) * 2 ^ (n + 1) + x / 2 ^ (31 - n) := by
    unfold rotl; rw [rotl_mod x (n + 1) (by omega), show 32 - (n + 1) = 31 - n from by omega]
  have e2 : rotl x n = x % 2 ^ (32 - n) * 2 ^ n + x / 2 ^ (32 - n) := by unfold rotl; rw [rotl_mod x n (by omega)]
  have hP : 2 ^ (32 - n) = 2 ^ (31 - n) * 2 := by rw [← Nat.pow_succ, show (31 - n).succ = 32 - n from by omega]
  have hQ : 2 ^ (31 - n) * 2 ^ n = 2147483648 := by rw [← Nat.pow_add, show 31 - n + n = 31 from by omega]
  have hPp : 0 < 2 ^ (31 - n) := Nat.pow_pos (by omega)
  have hQp : 0 < 2 ^ n := Nat.pow_pos (by omega)
  rw [e1, e2, hP, Nat.mod_mul, ← Nat.div_div_eq_div_mul, Nat.pow_succ]
  have hr0 : x % 2 ^ (31 - n) + 1 ≤ 2 ^ (31 - n) := Nat.mod_lt _ hPp
  have hA : (x % 2 ^ (31 - n) + 1) * 2 ^ n ≤ 2147483648 := by rw [← hQ]; exact Nat.mul_le_mul_right _ hr0
  have hu : x / 2 ^ (31 - n) < 2 * 2 ^ n := by
    apply Nat.div_lt_of_lt_mul
    rw [Nat.mul_comm 2, ← Nat.mul_assoc, hQ]; exact hx
  have hm : (x % 2 ^ (31 - n) + 2 ^ (31 - n) * (x / 2 ^ (31 - n) % 2)) * 2 ^ n = x % 2 ^ (31 - n) * 2 ^ n + x / 2 ^ (31 - n) % 2 * 2147483648 := by
    rw [Nat.add_mul, Nat.mul_right_comm, hQ, Nat.mul_comm 2147483648]
  rw [hm, ← Nat.mul_assoc]
  rw [Nat.add_mul, Nat.one_mul] at hA
  generalize x % 2 ^ (31 - n) * 2 ^ n = A at *
  generalize x / 2 ^ (31 - n) = u at *
  generalize 2 ^ n = q at *
  omega
end Cx

set_option maxHeartbeats 1000000 in
theorem left_any (x k : Nat) (hk : k ≤ 31) (hx : x < Sx.M) (w : World) :
    Calls Tryd.prog 70 #[.int .i64 (x : Int), .int .i64 (k : Int)] w fun e w' => e = .returned (.int .i64 (Cx.rotl x k : Nat)) ∧ w' = w := by
  go_enter Tryd.func70, Tryd.ntmps70
  go_upto_region 2 with (fail)
  go_loopw [0, 5] (fun p i wr => wr = w ∧ ∃ j : Nat, j ≤ k ∧ i = .int .i64 j ∧ p = .int .i64 (Cx.rotl x j : Nat))
    (fun _ i _ => k - (intOf i).toNat)
  case atStart => exact ⟨by trivial, 0, by omega, rfl, by unfold Cx.rotl; unfold Sx.M at *; simp; omega⟩
  case round =>
    obtain ⟨rfl, j, hj, rfl, rfl⟩ := hrel
    have h1 := Cx.rotl_lt x j (by omega) hx
    by_cases hlt : j < k
    · have HS := hid (Cx.rotl_succ x j (by omega) hx)
      unfold Sx.M at h1
      generalize Cx.rotl x j = p at *
      go_wp2
      go_roundw
      case rel =>
        first
          | exact ⟨by trivial, j + 1, by omega, by go_num, by rw [HS.out]; exact congrArg (Value.int .i64) (by omega)⟩
          | ((repeat apply Exists.intro); refine ⟨?_, rfl⟩; exact ⟨by trivial, j + 1, by omega, by go_num, by rw [HS.out]; exact congrArg (Value.int .i64) (by omega)⟩)
      case measure => simp [intOf]; omega
    · obtain rfl : j = k := by omega
      generalize hp : Cx.rotl x j = p at h1 ⊢
      have HP := hid hp
      clear hp
      go_wp2
      go_ret
      exact ⟨by rw [HP.out]; rfl, rfl⟩
theorem leftI (x : Nat) (k : Int) (w : World) (h0 : 0 ≤ k) (hk : k ≤ 31) (hx : x < Sx.M) :
    Calls Tryd.prog 70 #[.int .i64 (x : Int), .int .i64 k] w fun e w' => e = .returned (.int .i64 (Cx.rotl x k.toNat : Nat)) ∧ w' = w := by
  have h := left_any x k.toNat (by omega) hx w
  rwa [show ((k.toNat : Nat) : Int) = k from by omega] at h

/-- A block's first cells are these numbers. -/
def Pre (w : World) (b : Nat) (k : IntKind) (t : TypeId) (l : List Nat) : Prop := ∃ r : Array Value, w.heap[b]? = some (.cells (ints k l ++ r) t (0, 0))
theorem Pre.cell {w : World} {b : Nat} {k : IntKind} {t : TypeId} {l : List Nat} (h : Pre w b k t l) (i : Nat) (hi : i < l.length) : w.cell? ⟨b, i, none⟩ = some (.int k (l.getD i 0 : Nat)) := by
  obtain ⟨r, h⟩ := h
  rw [cell_of_row w b i _ _ _ h, Array.getElem?_append_left (by rw [ints_size]; exact hi), ints_get k l i hi]
theorem Pre.free {w : World} {b : Nat} {k : IntKind} {t : TypeId} {l : List Nat} (h : Pre w b k t l) (i : Nat) : w.frozen? ⟨b, i, none⟩ = false := by
  obtain ⟨r, h⟩ := h
  exact frozen_of_row w b i _ _ h
theorem Pre.set {w : World} {b : Nat} {k : IntKind} {t : TypeId} {l : List Nat} (h : Pre w b k t l) (i n : Nat) (hi : i < l.length) : Pre (w.setCell ⟨b, i, none⟩ (.int k (n : Int))) b k t (l.set i n) := by
  obtain ⟨r, h⟩ := h
  refine ⟨r, ?_⟩
  rw [heap_setCell_same w b i _ t _ h, Array.setIfInBounds_append_left (by rw [ints_size]; exact hi), ints_set]
theorem Pre.set_other {w : World} {b : Nat} {k : IntKind} {t : TypeId} {l : List Nat} (h : Pre w b k t l) (a : Addr) (v : Value) (hb : b ≠ a.block) : Pre (w.setCell a v) b k t l := by
  obtain ⟨r, h⟩ := h
  exact ⟨r, by rw [heap_setCell_other w a b v hb]; exact h⟩
theorem Pre.lt {w : World} {b : Nat} {k : IntKind} {t : TypeId} {l : List Nat} (h : Pre w b k t l) : b < w.heap.size := by
  obtain ⟨r, h⟩ := h
  exact (Array.getElem?_eq_some_iff.1 h).1
theorem Pre.below {w w' : World} {B b : Nat} {k : IntKind} {t : TypeId} {l : List Nat} (h : Pre w b k t l) (hb : Below B w w') (hlt : b < B) : Pre w' b k t l := by
  obtain ⟨r, h⟩ := h
  exact ⟨r, by rw [hb.block b hlt]; exact h⟩
theorem Pre.keptB {w w' : World} {c b : Nat} {k : IntKind} {t : TypeId} {l : List Nat} (h : Pre w b k t l) (hk : KeptB c w w') (hb : b ≠ c) : Pre w' b k t l := by
  have hlt := h.lt
  obtain ⟨r, h⟩ := h
  exact ⟨r, by rw [hk.block b hlt hb]; exact h⟩
theorem Pre.alloc {w : World} {b : Nat} {k : IntKind} {t : TypeId} {l : List Nat} (h : Pre w b k t l) (o : Obj) : Pre (w.alloc o) b k t l := by
  have hlt := h.lt
  obtain ⟨r, h⟩ := h
  exact ⟨r, by rw [Below.heap_alloc w o b hlt]; exact h⟩
theorem OwnI.pre {w : World} {base : Nat} {v : Value} {l : List Nat} (h : OwnI w base v l) (hl : 0 < l.length) :
    ∃ g cap, v = .slice (some ⟨g, 0, none⟩) l.length cap ∧ base ≤ g ∧ Pre w g .i64 3 l := by
  obtain ⟨h1, ⟨hv, h0⟩ | ⟨g, cap, cur, hv, hg, hh, hn, _, hs, hc⟩⟩ := h
  · omega
  · refine ⟨g, cap, hv, hg, (cur.toList.drop l.length).toArray, ?_⟩
    rw [hh]
    congr 2
    apply Array.toList_inj.1
    rw [Array.toList_append, ← hc, Nat.mul_one, List.take_append_drop]
theorem drewN_kept (b : Nat) (w : World) (m : Nat) : KeptB b w (w.drewN m) := ⟨rfl, rfl, rfl, Nat.le_refl _, fun _ _ _ => rfl⟩


set_option maxHeartbeats 4000000 in
theorem refq_any (b cap : Nat) (x : List Nat) (a c d e : Nat) (hx : Cx.Ok x) (hl : x.length = 16) (ha : a < 16) (hc : c < 16) (hd : d < 16) (he : e < 16) (w : World) (hr : Pre w b .i64 3 x) :
    Calls Tryd.prog 63 #[.slice (some ⟨b, 0, none⟩) 16 cap, .int .i64 (a : Int), .int .i64 (c : Int), .int .i64 (d : Int), .int .i64 (e : Int)] w
      fun e' w' => e' = .returned (.tuple #[]) ∧ Pre w' b .i64 3 (Cx.quarter x a c d e) ∧ KeptB b w w' := by
  have HQ : Hid (∀ n : Nat, Cx.mix (Cx.mix (Cx.mix (Cx.mix x a c e 16) d e c 12) a c e 8) d e c 7 = Cx.quarter x a c d e) := fun _ => rfl
  have K0 := hid (KeptB.refl b w)
  go_enter Tryd.func63, Tryd.ntmps63
  have cs0 := hr.cell a (by omega)
  have co0 := hr.cell c (by omega)
  have fs0 := hr.free a
  have b10 := hx.get a
  have b20 := hx.get c
  have sm0 := sumI (x.getD a 0) (x.getD c 0) (by unfold Sx.M at b10; omega) (by unfold Sx.M at b20; omega)
  have md0 := modI (x.getD a 0 + x.getD c 0)
  have tm0 := tmodI (x.getD a 0 + x.getD c 0)
  have r10 := fun m => Pre.set (w := w.drewN m) (show Pre (w.drewN m) b .i64 3 x from hr) a ((x.getD a 0 + x.getD c 0) % Sx.M) (by omega)
  have k10 := fun m => KeptB.setCell (b := b) (o := a) (u := w) (w := w.drewN m) (K0.out.trans (drewN_kept b w m)) (.int .i64 ((x.getD a 0 + x.getD c 0) % Sx.M : Nat))
  obtain ⟨y0, hy0⟩ : ∃ y, y = x.set a ((x.getD a 0 + x.getD c 0) % Sx.M) := ⟨_, rfl⟩
  have hyo0 : Cx.Ok y0 := by rw [hy0]; exact hx.set _ _ (Nat.mod_lt _ (by decide))
  have hyl0 : y0.length = 16 := by rw [hy0]; simpa using hl
  have HM0 : Hid (y0.set e (Cx.rotl (y0.getD e 0 ^^^ y0.getD a 0) 16) = Cx.mix x a c e 16) := by rw [hy0]; exact rfl
  have hmo0 := hx.mix a c e 16 (by omega)
  have hml0 : (Cx.mix x a c e 16).length = 16 := by rw [Cx.mix_length]; exact hl
  rw [← hy0] at r10
  generalize (x.getD a 0 + x.getD c 0) % Sx.M = v0 at *
  generalize x.getD a 0 + x.getD c 0 = u0 at *
  generalize x.getD a 0 = p0 at *
  generalize x.getD c 0 = o0 at *
  generalize Cx.mix x a c e 16 = z0 at *
  have R10 := hid r10
  have K10 := hid k10
  clear hr hx hl hy0 r10 k10 b10 b20
  go_upto_region 0 with (fail)
  refine wp_region_noPanic ?_
  refine wp_region_hd1 12 2 rfl (by kernel_rfl) (by kernel_rfl) (fun _ _ _ _ _ h => h) ?_
  simp only [List.take_succ_cons, List.take_zero, List.drop_succ_cons, List.drop_zero]
  repeat (go_big_quiet_step (fail))
  refine wpQuiet_nil ?_
  intro m0
  go_wp2
  refine NoPanic.normal ?_
  have r10 := R10.out m0
  have K20 := hid (K10.out m0)
  clear cs0 co0 fs0 sm0 md0 tm0 R10 K10
  generalize (w.drewN m0).setCell _ _ = wa0 at *
  have ct0 := r10.cell e (by omega)
  have cu0 := r10.cell a (by omega)
  have ft0 := r10.free e
  have gt0 := hyo0.get e
  have gs0 := hyo0.get a
  have hxo0 := xor64 _ _ gt0 gs0
  have hxl0 := xor32_lt _ _ gt0 gs0
  have r20 := fun m => Pre.set (w := wa0.drewN m) (show Pre (wa0.drewN m) b .i64 3 y0 from r10) e (Cx.rotl (y0.getD e 0 ^^^ y0.getD a 0) 16) (by omega)
  rw [HM0.out] at r20
  have k20 := fun m => KeptB.setCell (b := b) (o := e) (u := w) (w := wa0.drewN m) (K20.out.trans (drewN_kept b wa0 m)) (.int .i64 (Cx.rotl (y0.getD e 0 ^^^ y0.getD a 0) 16 : Nat))
  generalize y0.getD e 0 ^^^ y0.getD a 0 = x0 at *
  generalize y0.getD e 0 = q0 at *
  generalize y0.getD a 0 = s0 at *
  have HRO0 := hid (fun wx => left_any x0 16 (by omega) hxl0 wx)
  generalize Cx.rotl x0 16 = t0 at *
  have R20 := hid r20
  have KK0 := hid k20
  clear r10 r20 k20 hyo0 hyl0 HM0 gt0 gs0 hxl0 K20
  go_upto_region 1 with (fail)
  refine wp_region_noPanic ?_
  refine wp_region_hd1 12 2 rfl (by kernel_rfl) (by kernel_rfl) (fun _ _ _ _ _ h => h) ?_
  simp only [List.take_succ_cons, List.take_zero, List.drop_succ_cons, List.drop_zero]
  repeat (go_big_quiet_step ((go_at_call 70; exact Calls.quiet_of_same (HRO0.out _))))
  refine wpQuiet_nil ?_
  intro l0
  go_wp2
  refine NoPanic.normal ?_
  have hr := R20.out l0
  have K1 := hid (KK0.out l0)
  have hx := hmo0
  have hl := hml0
  clear ct0 cu0 ft0 hxo0 HRO0 R20 KK0 hmo0 hml0 K0
  generalize (wa0.drewN l0).setCell _ _ = wb0 at *
  have cs1 := hr.cell d (by omega)
  have co1 := hr.cell e (by omega)
  have fs1 := hr.free d
  have b11 := hx.get d
  have b21 := hx.get e
  have sm1 := sumI (z0.getD d 0) (z0.getD e 0) (by unfold Sx.M at b11; omega) (by unfold Sx.M at b21; omega)
  have md1 := modI (z0.getD d 0 + z0.getD e 0)
  have tm1 := tmodI (z0.getD d 0 + z0.getD e 0)
  have r11 := fun m => Pre.set (w := wb0.drewN m) (show Pre (wb0.drewN m) b .i64 3 z0 from hr) d ((z0.getD d 0 + z0.getD e 0) % Sx.M) (by omega)
  have k11 := fun m => KeptB.setCell (b := b) (o := d) (u := w) (w := wb0.drewN m) (K1.out.trans (drewN_kept b wb0 m)) (.int .i64 ((z0.getD d 0 + z0.getD e 0) % Sx.M : Nat))
  obtain ⟨y1, hy1⟩ : ∃ y, y = z0.set d ((z0.getD d 0 + z0.getD e 0) % Sx.M) := ⟨_, rfl⟩
  have hyo1 : Cx.Ok y1 := by rw [hy1]; exact hx.set _ _ (Nat.mod_lt _ (by decide))
  have hyl1 : y1.length = 16 := by rw [hy1]; simpa using hl
  have HM1 : Hid (y1.set c (Cx.rotl (y1.getD c 0 ^^^ y1.getD d 0) 12) = Cx.mix z0 d e c 12) := by rw [hy1]; exact rfl
  have hmo1 := hx.mix d e c 12 (by omega)
  have hml1 : (Cx.mix z0 d e c 12).length = 16 := by rw [Cx.mix_length]; exact hl
  rw [← hy1] at r11
  generalize (z0.getD d 0 + z0.getD e 0) % Sx.M = v1 at *
  generalize z0.getD d 0 + z0.getD e 0 = u1 at *
  generalize z0.getD d 0 = p1 at *
  generalize z0.getD e 0 = o1 at *
  generalize Cx.mix z0 d e c 12 = z1 at *
  have R11 := hid r11
  have K11 := hid k11
  clear hr hx hl hy1 r11 k11 b11 b21
  go_upto_region 2 with (fail)
  refine wp_region_noPanic ?_
  refine wp_region_hd1 12 2 rfl (by kernel_rfl) (by kernel_rfl) (fun _ _ _ _ _ h => h) ?_
  simp only [List.take_succ_cons, List.take_zero, List.drop_succ_cons, List.drop_zero]
  repeat (go_big_quiet_step (fail))
  refine wpQuiet_nil ?_
  intro m1
  go_wp2
  refine NoPanic.normal ?_
  have r11 := R11.out m1
  have K21 := hid (K11.out m1)
  clear cs1 co1 fs1 sm1 md1 tm1 R11 K11
  generalize (wb0.drewN m1).setCell _ _ = wa1 at *
  have ct1 := r11.cell c (by omega)
  have cu1 := r11.cell d (by omega)
  have ft1 := r11.free c
  have gt1 := hyo1.get c
  have gs1 := hyo1.get d
  have hxo1 := xor64 _ _ gt1 gs1
  have hxl1 := xor32_lt _ _ gt1 gs1
  have r21 := fun m => Pre.set (w := wa1.drewN m) (show Pre (wa1.drewN m) b .i64 3 y1 from r11) c (Cx.rotl (y1.getD c 0 ^^^ y1.getD d 0) 12) (by omega)
  rw [HM1.out] at r21
  have k21 := fun m => KeptB.setCell (b := b) (o := c) (u := w) (w := wa1.drewN m) (K21.out.trans (drewN_kept b wa1 m)) (.int .i64 (Cx.rotl (y1.getD c 0 ^^^ y1.getD d 0) 12 : Nat))
  generalize y1.getD c 0 ^^^ y1.getD d 0 = x1 at *
  generalize y1.getD c 0 = q1 at *
  generalize y1.getD d 0 = s1 at *
  have HRO1 := hid (fun wx => left_any x1 12 (by omega) hxl1 wx)
  generalize Cx.rotl x1 12 = t1 at *
  have R21 := hid r21
  have KK1 := hid k21
  clear r11 r21 k21 hyo1 hyl1 HM1 gt1 gs1 hxl1 K21
  go_upto_region 3 with (fail)
  refine wp_region_noPanic ?_
  refine wp_region_hd1 12 2 rfl (by kernel_rfl) (by kernel_rfl) (fun _ _ _ _ _ h => h) ?_
  simp only [List.take_succ_cons, List.take_zero, List.drop_succ_cons, List.drop_zero]
  repeat (go_big_quiet_step ((go_at_call 70; exact Calls.quiet_of_same (HRO1.out _))))
  refine wpQuiet_nil ?_
  intro l1
  go_wp2
  refine NoPanic.normal ?_
  have hr := R21.out l1
  have K2 := hid (KK1.out l1)
  have hx := hmo1
  have hl := hml1
  clear ct1 cu1 ft1 hxo1 HRO1 R21 KK1 hmo1 hml1 K1
  generalize (wa1.drewN l1).setCell _ _ = wb1 at *
  have cs2 := hr.cell a (by omega)
  have co2 := hr.cell c (by omega)
  have fs2 := hr.free a
  have b12 := hx.get a
  have b22 := hx.get c
  have sm2 := sumI (z1.getD a 0) (z1.getD c 0) (by unfold Sx.M at b12; omega) (by unfold Sx.M at b22; omega)
  have md2 := modI (z1.getD a 0 + z1.getD c 0)
  have tm2 := tmodI (z1.getD a 0 + z1.getD c 0)
  have r12 := fun m => Pre.set (w := wb1.drewN m) (show Pre (wb1.drewN m) b .i64 3 z1 from hr) a ((z1.getD a 0 + z1.getD c 0) % Sx.M) (by omega)
  have k12 := fun m => KeptB.setCell (b := b) (o := a) (u := w) (w := wb1.drewN m) (K2.out.trans (drewN_kept b wb1 m)) (.int .i64 ((z1.getD a 0 + z1.getD c 0) % Sx.M : Nat))
  obtain ⟨y2, hy2⟩ : ∃ y, y = z1.set a ((z1.getD a 0 + z1.getD c 0) % Sx.M) := ⟨_, rfl⟩
  have hyo2 : Cx.Ok y2 := by rw [hy2]; exact hx.set _ _ (Nat.mod_lt _ (by decide))
  have hyl2 : y2.length = 16 := by rw [hy2]; simpa using hl
  have HM2 : Hid (y2.set e (Cx.rotl (y2.getD e 0 ^^^ y2.getD a 0) 8) = Cx.mix z1 a c e 8) := by rw [hy2]; exact rfl
  have hmo2 := hx.mix a c e 8 (by omega)
  have hml2 : (Cx.mix z1 a c e 8).length = 16 := by rw [Cx.mix_length]; exact hl
  rw [← hy2] at r12
  generalize (z1.getD a 0 + z1.getD c 0) % Sx.M = v2 at *
  generalize z1.getD a 0 + z1.getD c 0 = u2 at *
  generalize z1.getD a 0 = p2 at *
  generalize z1.getD c 0 = o2 at *
  generalize Cx.mix z1 a c e 8 = z2 at *
  have R12 := hid r12
  have K12 := hid k12
  clear hr hx hl hy2 r12 k12 b12 b22
  go_upto_region 4 with (fail)
  refine wp_region_noPanic ?_
  refine wp_region_hd1 12 2 rfl (by kernel_rfl) (by kernel_rfl) (fun _ _ _ _ _ h => h) ?_
  simp only [List.take_succ_cons, List.take_zero, List.drop_succ_cons, List.drop_zero]
  repeat (go_big_quiet_step (fail))
  refine wpQuiet_nil ?_
  intro m2
  go_wp2
  refine NoPanic.normal ?_
  have r12 := R12.out m2
  have K22 := hid (K12.out m2)
  clear cs2 co2 fs2 sm2 md2 tm2 R12 K12
  generalize (wb1.drewN m2).setCell _ _ = wa2 at *
  have ct2 := r12.cell e (by omega)
  have cu2 := r12.cell a (by omega)
  have ft2 := r12.free e
  have gt2 := hyo2.get e
  have gs2 := hyo2.get a
  have hxo2 := xor64 _ _ gt2 gs2
  have hxl2 := xor32_lt _ _ gt2 gs2
  have r22 := fun m => Pre.set (w := wa2.drewN m) (show Pre (wa2.drewN m) b .i64 3 y2 from r12) e (Cx.rotl (y2.getD e 0 ^^^ y2.getD a 0) 8) (by omega)
  rw [HM2.out] at r22
  have k22 := fun m => KeptB.setCell (b := b) (o := e) (u := w) (w := wa2.drewN m) (K22.out.trans (drewN_kept b wa2 m)) (.int .i64 (Cx.rotl (y2.getD e 0 ^^^ y2.getD a 0) 8 : Nat))
  generalize y2.getD e 0 ^^^ y2.getD a 0 = x2 at *
  generalize y2.getD e 0 = q2 at *
  generalize y2.getD a 0 = s2 at *
  have HRO2 := hid (fun wx => left_any x2 8 (by omega) hxl2 wx)
  generalize Cx.rotl x2 8 = t2 at *
  have R22 := hid r22
  have KK2 := hid k22
  clear r12 r22 k22 hyo2 hyl2 HM2 gt2 gs2 hxl2 K22
  go_upto_region 5 with (fail)
  refine wp_region_noPanic ?_
  refine wp_region_hd1 12 2 rfl (by kernel_rfl) (by kernel_rfl) (fun _ _ _ _ _ h => h) ?_
  simp only [List.take_succ_cons, List.take_zero, List.drop_succ_cons, List.drop_zero]
  repeat (go_big_quiet_step ((go_at_call 70; exact Calls.quiet_of_same (HRO2.out _))))
  refine wpQuiet_nil ?_
  intro l2
  go_wp2
  refine NoPanic.normal ?_
  have hr := R22.out l2
  have K3 := hid (KK2.out l2)
  have hx := hmo2
  have hl := hml2
  clear ct2 cu2 ft2 hxo2 HRO2 R22 KK2 hmo2 hml2 K2
  generalize (wa2.drewN l2).setCell _ _ = wb2 at *
  have cs3 := hr.cell d (by omega)
  have co3 := hr.cell e (by omega)
  have fs3 := hr.free d
  have b13 := hx.get d
  have b23 := hx.get e
  have sm3 := sumI (z2.getD d 0) (z2.getD e 0) (by unfold Sx.M at b13; omega) (by unfold Sx.M at b23; omega)
  have md3 := modI (z2.getD d 0 + z2.getD e 0)
  have tm3 := tmodI (z2.getD d 0 + z2.getD e 0)
  have r13 := fun m => Pre.set (w := wb2.drewN m) (show Pre (wb2.drewN m) b .i64 3 z2 from hr) d ((z2.getD d 0 + z2.getD e 0) % Sx.M) (by omega)
  have k13 := fun m => KeptB.setCell (b := b) (o := d) (u := w) (w := wb2.drewN m) (K3.out.trans (drewN_kept b wb2 m)) (.int .i64 ((z2.getD d 0 + z2.getD e 0) % Sx.M : Nat))
  obtain ⟨y3, hy3⟩ : ∃ y, y = z2.set d ((z2.getD d 0 + z2.getD e 0) % Sx.M) := ⟨_, rfl⟩
  have hyo3 : Cx.Ok y3 := by rw [hy3]; exact hx.set _ _ (Nat.mod_lt _ (by decide))
  have hyl3 : y3.length = 16 := by rw [hy3]; simpa using hl
  have HM3 : Hid (y3.set c (Cx.rotl (y3.getD c 0 ^^^ y3.getD d 0) 7) = Cx.mix z2 d e c 7) := by rw [hy3]; exact rfl
  have hmo3 := hx.mix d e c 7 (by omega)
  have hml3 : (Cx.mix z2 d e c 7).length = 16 := by rw [Cx.mix_length]; exact hl
  rw [← hy3] at r13
  generalize (z2.getD d 0 + z2.getD e 0) % Sx.M = v3 at *
  generalize z2.getD d 0 + z2.getD e 0 = u3 at *
  generalize z2.getD d 0 = p3 at *
  generalize z2.getD e 0 = o3 at *
  generalize Cx.mix z2 d e c 7 = z3 at *
  have R13 := hid r13
  have K13 := hid k13
  clear hr hx hl hy3 r13 k13 b13 b23
  go_upto_region 6 with (fail)
  refine wp_region_noPanic ?_
  refine wp_region_hd1 12 2 rfl (by kernel_rfl) (by kernel_rfl) (fun _ _ _ _ _ h => h) ?_
  simp only [List.take_succ_cons, List.take_zero, List.drop_succ_cons, List.drop_zero]
  repeat (go_big_quiet_step (fail))
  refine wpQuiet_nil ?_
  intro m3
  go_wp2
  refine NoPanic.normal ?_
  have r13 := R13.out m3
  have K23 := hid (K13.out m3)
  clear cs3 co3 fs3 sm3 md3 tm3 R13 K13
  generalize (wb2.drewN m3).setCell _ _ = wa3 at *
  have ct3 := r13.cell c (by omega)
  have cu3 := r13.cell d (by omega)
  have ft3 := r13.free c
  have gt3 := hyo3.get c
  have gs3 := hyo3.get d
  have hxo3 := xor64 _ _ gt3 gs3
  have hxl3 := xor32_lt _ _ gt3 gs3
  have r23 := fun m => Pre.set (w := wa3.drewN m) (show Pre (wa3.drewN m) b .i64 3 y3 from r13) c (Cx.rotl (y3.getD c 0 ^^^ y3.getD d 0) 7) (by omega)
  rw [HM3.out] at r23
  have k23 := fun m => KeptB.setCell (b := b) (o := c) (u := w) (w := wa3.drewN m) (K23.out.trans (drewN_kept b wa3 m)) (.int .i64 (Cx.rotl (y3.getD c 0 ^^^ y3.getD d 0) 7 : Nat))
  generalize y3.getD c 0 ^^^ y3.getD d 0 = x3 at *
  generalize y3.getD c 0 = q3 at *
  generalize y3.getD d 0 = s3 at *
  have HRO3 := hid (fun wx => left_any x3 7 (by omega) hxl3 wx)
  generalize Cx.rotl x3 7 = t3 at *
  have R23 := hid r23
  have KK3 := hid k23
  clear r13 r23 k23 hyo3 hyl3 HM3 gt3 gs3 hxl3 K23
  go_upto_region 7 with (fail)
  refine wp_region_noPanic ?_
  refine wp_region_hd1 12 2 rfl (by kernel_rfl) (by kernel_rfl) (fun _ _ _ _ _ h => h) ?_
  simp only [List.take_succ_cons, List.take_zero, List.drop_succ_cons, List.drop_zero]
  repeat (go_big_quiet_step ((go_at_call 70; exact Calls.quiet_of_same (HRO3.out _))))
  refine wpQuiet_nil ?_
  intro l3
  go_wp2
  refine NoPanic.normal ?_
  have hr := R23.out l3
  have K4 := hid (KK3.out l3)
  have hx := hmo3
  have hl := hml3
  clear ct3 cu3 ft3 hxo3 HRO3 R23 KK3 hmo3 hml3 K3
  generalize (wa3.drewN l3).setCell _ _ = wb3 at *
  rw [HQ.out 0] at hr
  have HR := hid hr
  clear hr
  go_wp2
  go_end0
  exact ⟨rfl, HR.out, K4.out⟩
end Go.Proofs.YtiolflofkoeffaaDoor
