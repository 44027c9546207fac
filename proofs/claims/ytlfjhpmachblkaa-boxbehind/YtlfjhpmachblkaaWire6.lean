/-
  Layer 6: the numbers and texts that a wire.In takes.
-/
import Derived.Test.YtlfjhpmachblkaaWire5
namespace Go.Proofs.Ytlfjhpmachblkaa
open Go.RowKit
open Go.Lib (hid)

namespace Wx
theorem beval_snoc (t : List Nat) (c : Nat) : beval (t ++ [c]) = beval t * 256 + c := by simp [beval]
theorem beval_succ (t : List Nat) (k : Nat) (h : k < t.length) : beval (t.take (k + 1)) = beval (t.take k) * 256 + t.getD k 0 := by
  rw [← take_getD_succ t k h, beval_snoc]
theorem beval_lt (t : List Nat) (h : ∀ c ∈ t, c < 256) (k : Nat) : beval (t.take k) < 256 ^ k := by
  induction k with
  | zero => simp [beval]
  | succ n ih =>
    by_cases hn : n < t.length
    · rw [beval_succ t n hn, Nat.pow_succ]
      have := getD_lt (by omega) h n
      omega
    · rw [List.take_of_length_le (by omega), Nat.pow_succ]
      rw [List.take_of_length_le (by omega)] at ih
      omega
theorem ifail_lt (s : List Nat) (e q : Int) (h : ∀ c ∈ s, c < 256) : ∀ c ∈ (ifail s e q).1, c < 256 := by
  unfold ifail
  split
  · exact h
  · simp
theorem iraw_lt (s : List Nat) (e n : Int) (h : ∀ c ∈ s, c < 256) : (∀ c ∈ (iraw s e n).1.1, c < 256) ∧ ∀ c ∈ (iraw s e n).2, c < 256 := by
  unfold iraw
  split
  · exact ⟨ifail_lt s e 2 h, by simp⟩
  · exact ⟨fun c hc => h c (List.mem_of_mem_drop hc), fun c hc => h c (List.mem_of_mem_take hc)⟩
theorem inum_lt (s : List Nat) (e : Int) (h : ∀ c ∈ s, c < 256) : ∀ c ∈ (inum s e).1.1, c < 256 := by
  unfold inum
  split
  · exact (iraw_lt s e 8 h).1
  · split
    · exact ifail_lt _ _ _ (iraw_lt s e 8 h).1
    · exact (iraw_lt s e 8 h).1
theorem itext_lt (s : List Nat) (e : Int) (h : ∀ c ∈ s, c < 256) : (∀ c ∈ (itext s e).1.1, c < 256) ∧ ∀ c ∈ (itext s e).2, c < 256 :=
  iraw_lt _ _ _ (inum_lt s e h)
end Wx
theorem wraps_u64 (n : Int) (h0 : 0 ≤ n) (h1 : n < 2 ^ 64) : IntKind.u64.wrap n = n := by rw [IntKind.wrap_u64]; omega
theorem or64 (v c : Nat) (hv : v < 72057594037927936) (hc : c < 256) : bits .or .u64 ((v : Int) * 256) (c : Int) = ((v * 256 + c : Nat) : Int) := by
  have h := (bits_nat .u64 64 (by decide) wraps_u64 (v * 256) c (by omega) (by omega)).2
  rw [show ((v : Int) * 256) = ((v * 256 : Nat) : Int) from by omega, h]
  congr 1
  have := Nat.two_pow_add_eq_or_of_lt (i := 8) (b := c) (by omega) v
  rw [show v * 256 = 2 ^ 8 * v from by omega]
  exact this.symm
theorem itext_eq (s : List Nat) (e : Int) : Wx.itext s e = Wx.iraw (Wx.inum s e).1.1 (Wx.inum s e).1.2 ((Wx.inum s e).2 : Int) := rfl

set_option maxHeartbeats 1000000 in
set_option maxRecDepth 100000 in
theorem inum_any (b : Nat) (s : List Nat) (e : Int) (w : World) (h : InAt w b (s, e)) (hs : ∀ c ∈ s, c < 256) :
    Calls Try.prog 44 #[.pointer (some ⟨b, 0, none⟩)] w fun r w' => r = .returned (.int .i64 ((Wx.inum s e).2 : Int)) ∧ InAt w' b (Wx.inum s e).1 ∧ KeptB b w w' := by
  have HR := hid (iraw_any b s e 8 w h hs)
  have HTB := hid (show ∀ c ∈ (Wx.iraw s e 8).2, c < 256 from by
    unfold Wx.iraw
    split
    · simp
    · exact fun c hc => hs c (List.mem_of_mem_take hc))
  have HTL := hid (show (Wx.iraw s e 8).2 ≠ [] → (Wx.iraw s e 8).2.length = 8 from by
    unfold Wx.iraw
    split
    · simp
    · rename_i h8
      intro _
      simp at h8
      show (s.take 8).length = 8
      rw [List.length_take]; omega)
  have HNU := hid (show Wx.inum s e = if (Wx.iraw s e 8).2 = [] then ((Wx.iraw s e 8).1, 0) else if 9223372036854775808 ≤ Wx.beval (Wx.iraw s e 8).2 then (Wx.ifail (Wx.iraw s e 8).1.1 (Wx.iraw s e 8).1.2 1, 0) else ((Wx.iraw s e 8).1, Wx.beval (Wx.iraw s e 8).2) from rfl)
  clear h hs
  generalize Wx.iraw s e 8 = R at *
  obtain ⟨⟨s1, e1⟩, t⟩ := R
  simp only at HR HTB HTL HNU
  cases t with
  | nil =>
    rw [if_pos rfl] at HNU
    rw [HNU.out]
    rw [show str [] = ⟨#[]⟩ from rfl] at HR
    go_enter Try.func44, Try.ntmps44
    go_wp2_with (go_at_call 24; refine HR.out.mono ?_; rintro r w1 ⟨rfl, hi1, hk1⟩)
    go_ret
    exact ⟨rfl, hi1, hk1⟩
  | cons c0 t' =>
    have hne := str_ne_nil c0 t'
    rw [if_neg (by simp)] at HNU
    have hl8 := HTL.out (by simp)
    generalize hss : c0 :: t' = t at *
    clear hss HTL
    have hz : (str t).size = 8 := by rw [str_size, hl8]
    have HSG : Hid (∀ j (hj : j < (str t).size), (str t)[j].toNat = t.getD j 0) := fun j hj => str_get t HTB.out j hj
    generalize hS : str t = ST at *
    clear hS
    go_enter Try.func44, Try.ntmps44
    go_upto_region 6 with (go_at_call 24; refine HR.out.mono ?_; rintro r w1 ⟨rfl, hi1, hk1⟩)
    have HI1 := hid hi1
    have HK1 := hid hk1
    clear hi1 hk1 HR
    go_loopw [4, 10] (fun v i wr => wr = w1 ∧ ∃ k : Nat, k ≤ 8 ∧ i = .int .i64 k ∧ v = .int .u64 (Wx.beval (t.take k) : Nat))
      (fun _ i _ => 8 - (intOf i).toNat)
    case atStart => exact ⟨by trivial, 0, by omega, rfl, by simp [Wx.beval]⟩
    case round =>
      obtain ⟨rfl, k, hk, rfl, rfl⟩ := hrel
      by_cases hlt : k < 8
      · have hlt' : k < ST.size := by omega
        have hsg := HSG.out k hlt'
        have hg := getD_lt (by omega) HTB.out k
        have hbv := Wx.beval_lt t HTB.out k
        have hb56 : Wx.beval (t.take k) < 72057594037927936 := Nat.lt_of_lt_of_le hbv (Nat.le_trans (Nat.pow_le_pow_right (by omega) (show k ≤ 7 by omega)) (by decide))
        have HSU := hid (Wx.beval_succ t k (by omega))
        generalize Wx.beval (t.take k) = v at *
        generalize t.getD k 0 = c at *
        have hor := or64 v c hb56 hg
        have hsh : (v : Int) * 256 % 18446744073709551616 = ((v * 256 : Nat) : Int) := by omega
        clear hb56 hbv
        go_wp2
        exact ⟨⟨by trivial, k + 1, by omega, by go_num, by rw [HSU.out]; congr 1⟩, by simp [intOf]; omega⟩
      · obtain rfl : k = 8 := by omega
        rw [List.take_of_length_le (by omega)]
        have hbv := Wx.beval_lt t HTB.out 8
        rw [List.take_of_length_le (by omega)] at hbv
        generalize Wx.beval t = v at *
        have hv : v < 18446744073709551616 := hbv
        have HF := hid (ifail_any b s1 e1 1 wr HI1.out)
        clear hbv
        rw [show ((8 : Nat) : Int) = 8 from rfl]
        by_cases hbig : 9223372036854775808 ≤ v
        · rw [if_pos hbig] at HNU
          have hd : (v : Int) / 9223372036854775808 = 1 := by omega
          go_wp2_with (go_at_call 45; refine HF.out.mono ?_; rintro r w2 ⟨rfl, hi2, hk2⟩)
          go_ret
          rw [HNU.out]
          exact ⟨rfl, hi2, HK1.out.trans hk2⟩
        · rw [if_neg hbig] at HNU
          have hd : (v : Int) / 9223372036854775808 = 0 := by omega
          go_wp2
          go_ret
          rw [HNU.out]
          exact ⟨rfl, HI1.out, HK1.out⟩

end Go.Proofs.Ytlfjhpmachblkaa
