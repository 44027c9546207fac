/-
  Layer 6: numbers and their bytes: what is written is read; bytes rise as numbers do.
-/
import Derived.Test.YtlfjhpmachblkaaWire3
import Derived.Test.YtlfjhpmachblkaaWire6
namespace Go.Proofs.Ytlfjhpmachblkaa
open Go.RowKit
open Go.Lib (hid)

theorem Wx.beval_from (l : List Nat) : ∀ v, l.foldl (fun v c => v * 256 + c) v = v * 256 ^ l.length + Wx.beval l := by
  induction l with
  | nil => intro v; simp [Wx.beval]
  | cons a l ih =>
    intro v
    have h0 : Wx.beval (a :: l) = a * 256 ^ l.length + Wx.beval l := by
      unfold Wx.beval
      rw [List.foldl_cons, ih, Nat.zero_mul, Nat.zero_add]
      rfl
    rw [List.foldl_cons, ih, h0, List.length_cons, Nat.pow_succ, Nat.add_mul]
    rw [show v * 256 * 256 ^ l.length = v * (256 ^ l.length * 256) from by rw [Nat.mul_assoc, Nat.mul_comm 256]]
    omega
theorem Wx.beval_cons (a : Nat) (l : List Nat) : Wx.beval (a :: l) = a * 256 ^ l.length + Wx.beval l := by
  show List.foldl _ _ _ = _
  rw [List.foldl_cons, Wx.beval_from]
  simp
theorem Wx.beval_bound (l : List Nat) (h : ∀ c ∈ l, c < 256) : Wx.beval l < 256 ^ l.length := by
  have := Wx.beval_lt l h l.length
  rwa [List.take_length] at this
theorem Wx.num8_val (x : Nat) (h : x < 18446744073709551616) : Wx.beval (Wx.num8 x) = x := by
  show List.foldl (fun v c => v * 256 + c) 0 [x / 2 ^ 56 % 256, x / 2 ^ 48 % 256, x / 2 ^ 40 % 256, x / 2 ^ 32 % 256, x / 2 ^ 24 % 256, x / 2 ^ 16 % 256, x / 2 ^ 8 % 256, x / 2 ^ 0 % 256] = x
  simp only [List.foldl_cons, List.foldl_nil]
  omega
theorem less_val : ∀ (l r : List Nat), l.length = r.length → (∀ c ∈ l, c < 256) → (∀ c ∈ r, c < 256) → Op.bytesLess (l.map UInt8.ofNat) (r.map UInt8.ofNat) = decide (Wx.beval l < Wx.beval r)
  | [], [], _, _, _ => by simp [Op.bytesLess, Wx.beval]
  | [], _ :: _, h, _, _ => by simp at h
  | _ :: _, [], h, _, _ => by simp at h
  | a :: l, b :: r, h, hl, hr => by
    have h' : l.length = r.length := by simpa using h
    have ih := less_val l r h' (fun c hc => hl c (by simp [hc])) (fun c hc => hr c (by simp [hc]))
    have b1 := Wx.beval_bound l (fun c hc => hl c (by simp [hc]))
    have b2 := Wx.beval_bound r (fun c hc => hr c (by simp [hc]))
    have a1 := hl a (by simp)
    have a2 := hr b (by simp)
    rw [Wx.beval_cons, Wx.beval_cons, ← h']
    rw [← h'] at b2
    simp only [List.map_cons, Op.bytesLess, ih]
    have e1 : (UInt8.ofNat a).toNat = a := by simp; omega
    have e2 : (UInt8.ofNat b).toNat = b := by simp; omega
    have l1 : decide (UInt8.ofNat a < UInt8.ofNat b) = decide (a < b) := by
      apply decide_eq_decide.2
      rw [UInt8.lt_iff_toNat_lt, e1, e2]
    have l2 : (UInt8.ofNat a == UInt8.ofNat b) = decide (a = b) := by
      rw [show (UInt8.ofNat a == UInt8.ofNat b) = decide (UInt8.ofNat a = UInt8.ofNat b) from rfl]
      apply decide_eq_decide.2
      rw [← UInt8.toNat_inj, e1, e2]
    rw [l1, l2]
    generalize 256 ^ l.length = p at *
    rcases Nat.lt_trichotomy a b with hlt | heq | hgt
    · have hm : (a + 1) * p ≤ b * p := Nat.mul_le_mul_right p hlt
      rw [Nat.add_mul] at hm
      rw [decide_eq_true hlt, Bool.true_or]
      exact (decide_eq_true (by omega)).symm
    · subst heq
      simp
    · have hm : (b + 1) * p ≤ a * p := Nat.mul_le_mul_right p hgt
      rw [Nat.add_mul] at hm
      rw [decide_eq_false (show ¬ a < b by omega), decide_eq_false (show ¬ a = b by omega), Bool.false_and, Bool.or_self]
      exact (decide_eq_false (by omega)).symm

namespace Wx
theorem iraw_app (t r : List Nat) (e : Int) : iraw (t ++ r) e (t.length : Int) = ((r, e), t) := by
  unfold iraw
  rw [Int.toNat_natCast, if_neg (by rw [List.length_append]; omega), List.drop_left' rfl, List.take_left' rfl]
theorem inum_num8 (v : Nat) (h : v < 9223372036854775808) (r : List Nat) (e : Int) : inum (num8 v ++ r) e = ((r, e), v) := by
  have h8 : iraw (num8 v ++ r) e 8 = ((r, e), num8 v) := by
    have := iraw_app (num8 v) r e
    rwa [num8_length] at this
  unfold inum
  rw [h8, if_neg (by intro hc; have := congrArg List.length hc; rw [num8_length] at this; simp at this), num8_val v (by omega), if_neg (by omega)]
theorem itext_text (t r : List Nat) (h : t.length < 9223372036854775808) (e : Int) : itext (num8 t.length ++ (t ++ r)) e = ((r, e), t) := by
  unfold itext
  rw [inum_num8 t.length h]
  exact iraw_app t r e
end Wx
end Go.Proofs.Ytlfjhpmachblkaa
