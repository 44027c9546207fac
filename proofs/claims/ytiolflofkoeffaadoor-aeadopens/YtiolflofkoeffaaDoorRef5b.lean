/-
  The reference of layer 5: what sealwaxref05.Seal and Open return.
-/
import Derived.Test.YtiolflofkoeffaaDoorRef5
namespace Go.Proofs.YtiolflofkoeffaaDoor
open Go.RowKit
open Go.Lib (hid)

set_option maxHeartbeats 2000000 in
theorem rseal_any (key nonce ad p : List Nat) (hk : ∀ x ∈ key, x < 256) (hkl : key.length = 32) (hn : ∀ x ∈ nonce, x < 256) (hnl : nonce.length = 12) (ha : ∀ x ∈ ad, x < 256) (hal : ad.length ≤ 400) (hp : ∀ x ∈ p, x < 256) (hpl : p.length ≤ 400) (w : World) :
    Calls Tryd.prog 24 #[.string (str key), .string (str nonce), .string (str ad), .string (str p)] w fun e w' => e = .returned (.string (str (Ax.sealed key nonce ad p))) ∧ Below w.heap.size w w' := by
  have HX := hid (fun wx => refxor_any key nonce p 1 hk hkl hn hnl (by decide) hp (by omega) wx)
  rw [show Cx.xors key 1 nonce p = Ax.hidden key nonce p from rfl, show ((1 : Nat) : Int) = 1 from rfl] at HX
  have HBK := hid (fun wx => refblock_any key nonce 0 hk hkl hn hnl (by decide) wx)
  rw [show ((0 : Nat) : Int) = 0 from rfl] at HBK
  have hbl : (Cx.block key 0 nonce).length = 64 := Cx.block_length _ _ _
  have hzb : (str (Cx.block key 0 nonce)).size = 64 := by rw [str_size, hbl]
  have hblt : ∀ x ∈ Cx.block key 0 nonce, x < 256 := Cx.block_lt _ _ _
  have hex : (str (Cx.block key 0 nonce)).extract 0 32 = str (Ax.once key nonce) := by
    have := extract_mid (Cx.block key 0 nonce) hblt 0 32
    rwa [Nat.zero_add, List.drop_zero] at this
  have hHl := Ax.hidden_length key nonce p
  have hHb := Ax.hidden_lt key nonce p hp
  have hol : (Ax.once key nonce).length = 32 := by unfold Ax.once; rw [List.length_take, hbl]; rfl
  have hob : ∀ x ∈ Ax.once key nonce, x < 256 := fun x hx => hblt x (List.mem_of_mem_take hx)
  have HOF := hid (fun wx => rof_any (Ax.once key nonce) (Ax.said ad (Ax.hidden key nonce p)) hol hob (by have := Ax.said_length ad (Ax.hidden key nonce p); omega) (Ax.said_lt _ _ ha hHb) wx)
  rw [show Px.of (Ax.once key nonce) (Ax.said ad (Ax.hidden key nonce p)) = Ax.tag key nonce ad (Ax.hidden key nonce p) from rfl] at HOF
  have a4 := str_append (Ax.hidden key nonce p) (Ax.tag key nonce ad (Ax.hidden key nonce p))
  rw [show Ax.hidden key nonce p ++ Ax.tag key nonce ad (Ax.hidden key nonce p) = Ax.sealed key nonce ad p from rfl] at a4
  have hTl := Ax.tag_length key nonce ad (Ax.hidden key nonce p)
  generalize Ax.tag key nonce ad (Ax.hidden key nonce p) = T at *
  generalize Ax.sealed key nonce ad p = SE at *
  rw [Ax.said_eq] at HOF
  generalize Ax.hidden key nonce p = H at *
  have HW1 := hid (fun wx => rwhole_any ad (by omega) wx)
  have HW2 := hid (fun wx => rwhole_any H (by omega) wx)
  have HN1 := hid (fun wx => rcount_any ad.length (by omega) wx)
  have HN2 := hid (fun wx => rcount_any H.length (by omega) wx)
  have hza := str_size ad
  have hzh := str_size H
  have a1 := str_append (Ax.filled ad) (Ax.filled H)
  have a2 := str_append (Ax.filled ad ++ Ax.filled H) (Ax.le8 ad.length)
  have a3 := str_append (Ax.filled ad ++ Ax.filled H ++ Ax.le8 ad.length) (Ax.le8 H.length)
  have f1 := Ax.filled_length ad
  have f2 := Ax.filled_length H
  have z1 : (str (Ax.filled ad)).size ≤ 500 := by rw [str_size]; omega
  have z2 : (str (Ax.filled H)).size ≤ 500 := by rw [str_size]; omega
  have z3 : (str (Ax.filled ad ++ Ax.filled H)).size ≤ 1000 := by rw [str_size, List.length_append]; omega
  have z4 : (str (Ax.filled ad ++ Ax.filled H ++ Ax.le8 ad.length)).size ≤ 1008 := by rw [str_size, List.length_append, List.length_append, Ax.le8_length]; omega
  have z5 : (str (Ax.le8 ad.length)).size = 8 := by rw [str_size, Ax.le8_length]
  have z6 : (str (Ax.le8 H.length)).size = 8 := by rw [str_size, Ax.le8_length]
  have z7 : (str T).size ≤ 100 := by rw [str_size]; omega
  have hH4 : H.length ≤ 400 := by omega
  clear hblt hHb hob hk hn ha hp hbl hol f1 f2 hHl hTl
  generalize str (Ax.filled ad ++ Ax.filled H ++ Ax.le8 ad.length ++ Ax.le8 H.length) = S3 at *
  generalize str (Ax.filled ad ++ Ax.filled H ++ Ax.le8 ad.length) = S2 at *
  generalize str (Ax.filled ad ++ Ax.filled H) = S1 at *
  generalize str (Ax.filled ad) = FA at *
  generalize str (Ax.filled H) = FH at *
  generalize str (Ax.le8 ad.length) = NA at *
  generalize str (Ax.le8 H.length) = NH at *
  generalize str (Ax.once key nonce) = SO at *
  generalize str (Cx.block key 0 nonce) = SB at *
  generalize str H = SH at *
  generalize str ad = SA at *
  generalize str T = ST at *
  generalize str SE = SS at *
  generalize str key = SK at *
  generalize str nonce = SN at *
  generalize str p = SP at *
  go_enter Tryd.func24, Tryd.ntmps24
  go_wp2_with fail
  refine (HX.out _).mono ?_
  rintro e w1 ⟨rfl, hb1⟩
  have HB1 := hid hb1
  clear hb1 HX
  go_wp2_with fail
  refine (HBK.out _).mono ?_
  rintro e w2 ⟨rfl, hb2⟩
  have HB2 := hid (HB1.out.next (Nat.le_refl _) hb2)
  clear hb2 HBK HB1
  go_wp2_with fail
  refine (HW1.out _).mono ?_
  rintro e w3 ⟨rfl, hw3⟩
  subst hw3
  go_wp2_with fail
  refine (HW2.out _).mono ?_
  rintro e w4 ⟨rfl, hw4⟩
  subst hw4
  go_wp2_with fail
  refine (HN1.out _).mono ?_
  rintro e w5 ⟨rfl, hb5⟩
  have HB5 := hid (HB2.out.next (Nat.le_refl _) hb5)
  clear hb5
  go_wp2_with fail
  refine (HN2.out _).mono ?_
  rintro e w6 ⟨rfl, hb6⟩
  have HB6 := hid (HB5.out.next (Nat.le_refl _) hb6)
  clear hb6
  go_wp2_with fail
  refine (HOF.out _).mono ?_
  rintro e w7 ⟨rfl, hb7⟩
  have HB7 := hid (HB6.out.next (Nat.le_refl _) hb7)
  clear hb7
  go_wp2_with fail
  go_ret
  exact ⟨rfl, HB7.out⟩

theorem Ax.sealed_iff (key nonce ad s : List Nat) (h : 16 ≤ s.length) :
    Ax.sealed key nonce ad (Ax.hidden key nonce (s.take (s.length - 16))) = s ↔ Ax.tag key nonce ad (s.take (s.length - 16)) = s.drop (s.length - 16) := by
  unfold Ax.sealed
  rw [Ax.hidden_hidden]
  constructor
  · intro h'
    have := congrArg (List.drop (s.length - 16)) h'
    rwa [List.drop_append_of_le_length (by simp), List.drop_of_length_le (by simp), List.nil_append] at this
  · intro h'
    rw [h', List.take_append_drop]

set_option maxHeartbeats 2000000 in
theorem ropen_any (key nonce ad s : List Nat) (hk : ∀ x ∈ key, x < 256) (hkl : key.length = 32) (hn : ∀ x ∈ nonce, x < 256) (hnl : nonce.length = 12) (ha : ∀ x ∈ ad, x < 256) (hal : ad.length ≤ 400) (hp : ∀ x ∈ s, x < 256) (hpl : s.length ≤ 400) (w : World) :
    Calls Tryd.prog 27 #[.string (str key), .string (str nonce), .string (str ad), .string (str s)] w fun e w' => e = .returned (Ax.openedV (Ax.opened key nonce ad s)) ∧ Below w.heap.size w w' := by
  have hz := str_size s
  by_cases hlt : s.length < 16
  · rw [show Ax.openedV (Ax.opened key nonce ad s) = .tuple #[.string ⟨#[]⟩, .bool false] from by unfold Ax.opened; rw [if_pos hlt]; rfl]
    have g1 : (s.length : Int) < 16 := by omega
    generalize str s = SS at *
    clear hk hn ha hp
    go_enter Tryd.func27, Tryd.ntmps27
    go_wp2
    refine bodyPost_ret (results_tmp2 Tryd.results27 _ _ _) rfl ?_
    exact ⟨rfl, Below.refl _ _⟩
  · have hiff := Ax.sealed_iff key nonce ad s (by omega)
    have htb : ∀ x ∈ s.take (s.length - 16), x < 256 := fun x hx => hp x (List.mem_of_mem_take hx)
    have htl : (s.take (s.length - 16)).length ≤ 400 := by simp; omega
    have HX := hid (fun wx => refxor_any key nonce (s.take (s.length - 16)) 1 hk hkl hn hnl (by decide) htb (by omega) wx)
    rw [show Cx.xors key 1 nonce (s.take (s.length - 16)) = Ax.hidden key nonce (s.take (s.length - 16)) from rfl, show ((1 : Nat) : Int) = 1 from rfl] at HX
    have hHl := Ax.hidden_length key nonce (s.take (s.length - 16))
    have hHb := Ax.hidden_lt key nonce (s.take (s.length - 16)) htb
    have HSE := hid (fun wx => rseal_any key nonce ad (Ax.hidden key nonce (s.take (s.length - 16))) hk hkl hn hnl ha hal hHb (by omega) wx)
    have hSb := Ax.sealed_lt key nonce ad (Ax.hidden key nonce (s.take (s.length - 16))) hHb
    have hex : (str s).extract 0 (s.length - 16) = str (s.take (s.length - 16)) := by
      have := extract_mid s hp 0 (s.length - 16)
      rwa [Nat.zero_add, List.drop_zero] at this
    have g1 : ¬ (s.length : Int) < 16 := by omega
    have g2 : ((s.length : Int) - 16).toNat = s.length - 16 := by omega
    have hop : Ax.opened key nonce ad s = if Ax.tag key nonce ad (s.take (s.length - 16)) = s.drop (s.length - 16) then some (Ax.hidden key nonce (s.take (s.length - 16))) else none := by
      unfold Ax.opened; rw [if_neg hlt]
    rw [hop]
    by_cases heq : Ax.tag key nonce ad (s.take (s.length - 16)) = s.drop (s.length - 16)
    · rw [if_pos heq]
      rw [hiff.2 heq] at HSE
      clear hiff hop heq hSb hp htb hHb hk hn ha
      generalize Ax.hidden key nonce (s.take (s.length - 16)) = H at *
      show Calls _ _ _ _ fun e w' => e = .returned (.tuple #[.string (str H), .bool true]) ∧ _
      generalize str H = SH at *
      generalize str (s.take (s.length - 16)) = ST at *
      generalize hS : str s = SS at *
      clear hS
      generalize str key = SK at *
      generalize str nonce = SN at *
      generalize str ad = SA at *
      go_enter Tryd.func27, Tryd.ntmps27
      go_wp2_with fail
      refine (HX.out _).mono ?_
      rintro e w1 ⟨rfl, hb1⟩
      have HB1 := hid hb1
      clear hb1 HX
      go_wp2_with fail
      refine (HSE.out _).mono ?_
      rintro e w2 ⟨rfl, hb2⟩
      have HB2 := hid (HB1.out.next (Nat.le_refl _) hb2)
      clear hb2
      go_wp2_with fail
      refine bodyPost_ret (results_tmp2 Tryd.results27 _ _ _) rfl ?_
      exact ⟨rfl, HB2.out⟩
    · rw [if_neg heq]
      have hne : ((str (Ax.sealed key nonce ad (Ax.hidden key nonce (s.take (s.length - 16))))).toList == (str s).toList) = false := by
        rw [str_beq _ _ hSb hp]
        cases hb : (Ax.sealed key nonce ad (Ax.hidden key nonce (s.take (s.length - 16))) == s) with
        | false => rfl
        | true => exact absurd (hiff.1 (by simpa using hb)) heq
      clear hiff hop heq hSb hp htb hHb hk hn ha
      generalize Ax.sealed key nonce ad (Ax.hidden key nonce (s.take (s.length - 16))) = SE at *
      generalize Ax.hidden key nonce (s.take (s.length - 16)) = H at *
      show Calls _ _ _ _ fun e w' => e = .returned (.tuple #[.string ⟨#[]⟩, .bool false]) ∧ _
      generalize str H = SH at *
      generalize str SE = SX at *
      generalize str (s.take (s.length - 16)) = ST at *
      generalize hS : str s = SS at *
      clear hS
      generalize str key = SK at *
      generalize str nonce = SN at *
      generalize str ad = SA at *
      go_enter Tryd.func27, Tryd.ntmps27
      go_wp2_with fail
      refine (HX.out _).mono ?_
      rintro e w1 ⟨rfl, hb1⟩
      have HB1 := hid hb1
      clear hb1 HX
      go_wp2_with fail
      refine (HSE.out _).mono ?_
      rintro e w2 ⟨rfl, hb2⟩
      have HB2 := hid (HB1.out.next (Nat.le_refl _) hb2)
      clear hb2
      go_wp2_with fail
      refine bodyPost_ret (results_tmp2 Tryd.results27 _ _ _) rfl ?_
      exact ⟨rfl, HB2.out⟩
end Go.Proofs.YtiolflofkoeffaaDoor
