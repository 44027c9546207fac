/-
  Layer 5: what aead.Seal and aead.Open return.
-/
import Derived.Test.YtgjkkcggcljcdaaDoorAead2
import Derived.Test.YtgjkkcggcljcdaaDoorLXor
namespace Go.Proofs.YtgjkkcggcljcdaaDoor
open Go.RowKit
open Go.Lib (hid)

namespace Ax
def hidden (key nonce p : List Nat) : List Nat := Cx.xors key 1 nonce p
def sealed (key nonce ad p : List Nat) : List Nat := hidden key nonce p ++ tag key nonce ad (hidden key nonce p)
/-- What is opened, if anything is. -/
def opened (key nonce ad s : List Nat) : Option (List Nat) :=
  if s.length < 16 then none else if tag key nonce ad (s.take (s.length - 16)) = s.drop (s.length - 16) then some (hidden key nonce (s.take (s.length - 16))) else none
theorem hidden_length (key nonce p : List Nat) : (hidden key nonce p).length = p.length := Cx.xors_length _ _ _ _
theorem hidden_lt (key nonce p : List Nat) (h : ∀ x ∈ p, x < 256) : ∀ x ∈ hidden key nonce p, x < 256 := Cx.xors_lt _ _ _ _ h
theorem hidden_hidden (key nonce p : List Nat) : hidden key nonce (hidden key nonce p) = p := Cx.xors_xors _ _ _ _
theorem sealed_length (key nonce ad p : List Nat) : (sealed key nonce ad p).length = p.length + 16 := by rw [sealed, List.length_append, hidden_length, tag_length]
theorem sealed_lt (key nonce ad p : List Nat) (h : ∀ x ∈ p, x < 256) : ∀ x ∈ sealed key nonce ad p, x < 256 := by
  intro x hx
  rcases List.mem_append.1 hx with h1 | h1
  · exact hidden_lt key nonce p h x h1
  · exact tag_lt _ _ _ _ x h1
theorem opened_sealed (key nonce ad p : List Nat) : opened key nonce ad (sealed key nonce ad p) = some p := by
  unfold opened
  rw [sealed_length, if_neg (by omega), Nat.add_sub_cancel]
  have h1 : (sealed key nonce ad p).take p.length = hidden key nonce p := by unfold sealed; rw [List.take_left' (hidden_length key nonce p)]
  have h2 : (sealed key nonce ad p).drop p.length = tag key nonce ad (hidden key nonce p) := by unfold sealed; rw [List.drop_left' (hidden_length key nonce p)]
  rw [h1, h2, if_pos rfl, hidden_hidden]
/-- What Open returns. -/
def openedV (r : Option (List Nat)) : Value := match r with | some t => .tuple #[.string (str t), .bool true] | none => .tuple #[.string ⟨#[]⟩, .bool false]
end Ax

set_option maxHeartbeats 2000000 in
set_option maxRecDepth 100000 in
theorem aseal_any (key nonce ad p : List Nat) (hk : ∀ x ∈ key, x < 256) (hkl : key.length = 32) (hn : ∀ x ∈ nonce, x < 256) (hnl : nonce.length = 12) (ha : ∀ x ∈ ad, x < 256) (hal : ad.length ≤ 10000) (hp : ∀ x ∈ p, x < 256) (hpl : p.length ≤ 10000) (w : World) (hT : TabQ w) (hK : TabK w) :
    Calls Tryd.prog 21 #[.agg (ints .u8 key), .agg (ints .u8 nonce), .string (str ad), .string (str p)] w fun e w' => e = .returned (.string (str (Ax.sealed key nonce ad p))) ∧ Below w.heap.size w w' := by
  have HX := hid (fun wx hx => xor_any key nonce p 1 hk hkl hn hnl (by decide) hp (by omega) wx hx)
  rw [show Cx.xors key 1 nonce p = Ax.hidden key nonce p from rfl, show ((1 : Nat) : Int) = 1 from rfl] at HX
  have HTG := hid (fun wx hx hy => atag_any key nonce ad (Ax.hidden key nonce p) hk hkl hn hnl ha (by omega) (Ax.hidden_lt key nonce p hp) (by rw [Ax.hidden_length]; omega) wx hx hy)
  have htl := Ax.tag_length key nonce ad (Ax.hidden key nonce p)
  have HTX := hid (fun wx => ttext_any (Ax.tag key nonce ad (Ax.hidden key nonce p)) htl wx)
  have hap := str_append (Ax.hidden key nonce p) (Ax.tag key nonce ad (Ax.hidden key nonce p))
  rw [show Ax.hidden key nonce p ++ Ax.tag key nonce ad (Ax.hidden key nonce p) = Ax.sealed key nonce ad p from rfl] at hap
  have z1 : (str (Ax.hidden key nonce p)).size = p.length := by rw [str_size, Ax.hidden_length]
  have z2 : (str (Ax.tag key nonce ad (Ax.hidden key nonce p))).size = 16 := by rw [str_size, htl]
  have hks : (ints .u8 key).size = 32 := by rw [ints_size, hkl]
  have hns : (ints .u8 nonce).size = 12 := by rw [ints_size, hnl]
  have HT := hid hT
  have HK := hid hK
  clear hT hK hk hn ha hp htl hkl hnl
  generalize str (Ax.sealed key nonce ad p) = SE at *
  generalize str (Ax.tag key nonce ad (Ax.hidden key nonce p)) = ST at *
  generalize Ax.tag key nonce ad (Ax.hidden key nonce p) = T at *
  generalize str (Ax.hidden key nonce p) = SH at *
  generalize str ad = SA at *
  generalize str p = SP at *
  go_enter Tryd.func21, Tryd.ntmps21
  go_upto_region 1 with (fail)
  generalize hw0 : (w.alloc _).alloc _ = w0
  have rk : Row w0 w.heap.size .u8 60 key := by rw [← hw0]; unfold Row; rw [heap_alloc2_old]
  have rn : Row w0 (w.heap.size + 1) .u8 64 nonce := by rw [← hw0]; unfold Row; rw [heap_alloc2_new]
  have hb0 : Below w.heap.size w w0 := by rw [← hw0]; exact ((Below.refl _ _).alloc (Nat.le_refl _) _).alloc (by simp) _
  clear hw0
  have HB0 := hid hb0
  clear hb0
  go_upto_region 2 with (first
    | (refine wpList_load_row rfl _ _ rfl w.heap.size rfl _ _ _ _ rk Tryd.underlying60 rfl (by rw [hks]; exact info23) ?_)
    | (refine wpList_load_row rfl _ _ rfl (w.heap.size + 1) rfl _ _ _ _ rn Tryd.underlying64 rfl (by rw [hns]; exact info26) ?_)
    | (go_at_call 37; refine (HX.out _ (HT.out.below HB0.out (Nat.le_refl _))).mono ?_; rintro e w1 ⟨rfl, k1⟩))
  have rk1 := rk.below k1 rk.lt
  have rn1 := rn.below k1 rn.lt
  have HB1 := hid (HB0.out.trans (k1.mono HB0.out.size))
  clear rk rn k1 HB0
  go_wp2_with (first
    | (refine wpList_load_row rfl _ _ rfl w.heap.size rfl _ _ _ _ rk1 Tryd.underlying60 rfl (by rw [hks]; exact info23) ?_)
    | (refine wpList_load_row rfl _ _ rfl (w.heap.size + 1) rfl _ _ _ _ rn1 Tryd.underlying64 rfl (by rw [hns]; exact info26) ?_)
    | (go_at_call 38; refine (HTG.out _ (HT.out.below HB1.out (Nat.le_refl _)) (HK.out.below HB1.out (Nat.le_refl _))).mono ?_; rintro e w2 ⟨rfl, k2⟩)
    | (go_at_call 39; refine (HTX.out _).mono ?_; rintro e w3 ⟨rfl, k3⟩))
  go_ret
  have b2 := HB1.out.trans (k2.mono HB1.out.size)
  exact ⟨rfl, b2.trans (k3.mono b2.size)⟩

set_option maxHeartbeats 2000000 in
set_option maxRecDepth 100000 in
theorem aopen_any (key nonce ad s : List Nat) (hk : ∀ x ∈ key, x < 256) (hkl : key.length = 32) (hn : ∀ x ∈ nonce, x < 256) (hnl : nonce.length = 12) (ha : ∀ x ∈ ad, x < 256) (hal : ad.length ≤ 10000) (hp : ∀ x ∈ s, x < 256) (hpl : s.length ≤ 10000) (w : World) (hT : TabQ w) (hK : TabK w) :
    Calls Tryd.prog 24 #[.agg (ints .u8 key), .agg (ints .u8 nonce), .string (str ad), .string (str s)] w fun e w' => e = .returned (Ax.openedV (Ax.opened key nonce ad s)) ∧ Below w.heap.size w w' := by
  have hz := str_size s
  by_cases hlt : s.length < 16
  · rw [show Ax.openedV (Ax.opened key nonce ad s) = .tuple #[.string ⟨#[]⟩, .bool false] from by unfold Ax.opened; rw [if_pos hlt]; rfl]
    have hlt' : (s.length : Int) < 16 := by omega
    clear hT hK
    generalize str s = SS at *
    go_enter Tryd.func24, Tryd.ntmps24
    go_wp2
    refine bodyPost_ret (results_tmp2 Tryd.results24 _ _ _) rfl ?_
    exact ⟨rfl, ((Below.refl _ _).alloc (Nat.le_refl _) _).alloc (by simp) _⟩
  · obtain ⟨m, hm⟩ : ∃ m, m = s.length - 16 := ⟨_, rfl⟩
    have HOP := hid (show Ax.opened key nonce ad s = if Ax.tag key nonce ad (s.take m) = s.drop m then some (Ax.hidden key nonce (s.take m)) else none from by unfold Ax.opened; rw [if_neg hlt, ← hm])
    have htgl : (s.drop m).length = 16 := by rw [List.length_drop]; omega
    have hml : (s.take m).length = m := by rw [List.length_take]; omega
    have hdb : ∀ x ∈ s.take m, x < 256 := fun x hx => hp x (List.mem_of_mem_take hx)
    have htb : ∀ x ∈ s.drop m, x < 256 := fun x hx => hp x (List.mem_of_mem_drop hx)
    have hex1 : (str s).extract 0 m = str (s.take m) := by
      have := extract_mid s hp 0 m
      rwa [Nat.zero_add, List.drop_zero] at this
    have hex2 : (str s).extract m s.length = str (s.drop m) := by
      have := extract_mid s hp m (s.length - m)
      rwa [show m + (s.length - m) = s.length from by omega, List.take_of_length_le (by simp)] at this
    have HX := hid (fun wx hx => xor_any key nonce (s.take m) 1 hk hkl hn hnl (by decide) hdb (by omega) wx hx)
    rw [show Cx.xors key 1 nonce (s.take m) = Ax.hidden key nonce (s.take m) from rfl, show ((1 : Nat) : Int) = 1 from rfl] at HX
    have HTG := hid (fun wx hx hy => atag_any key nonce ad (s.take m) hk hkl hn hnl ha (by omega) hdb (by omega) wx hx hy)
    have HTO := hid (fun wx => tagof_any (s.drop m) htb wx)
    rw [show Cx.padL (s.drop m) 16 = s.drop m from by unfold Cx.padL; rw [htgl, Nat.sub_self, List.replicate_zero, List.append_nil, List.take_of_length_le (by omega)]] at HTO
    have HEQ := hid (fun wx => pequal_any (Ax.tag key nonce ad (s.take m)) (s.drop m) (Ax.tag_length _ _ _ _) htgl (Ax.tag_lt _ _ _ _) htb wx)
    have hge : ¬ ((s.length : Int) < 16) := by omega
    have hsub : (s.length : Int) - 16 = (m : Int) := by omega
    have hmle : (m : Int) ≤ (s.length : Int) := by omega
    have hks : (ints .u8 key).size = 32 := by rw [ints_size, hkl]
    have hns : (ints .u8 nonce).size = 12 := by rw [ints_size, hnl]
    have HT := hid hT
    have HK := hid hK
    clear hT hK hk hn ha hp hkl hnl hdb htb htgl hml hm
    generalize hTT : Ax.tag key nonce ad (s.take m) = T at *
    generalize hTG : s.drop m = TG at *
    generalize hSH : str (Ax.hidden key nonce (s.take m)) = SX at *
    have HSX := hid hSH
    clear hTT hTG hSH
    generalize str (s.take m) = SH at *
    generalize str TG = ST at *
    generalize str ad = SA at *
    generalize str s = SS at *
    go_enter Tryd.func24, Tryd.ntmps24
    go_upto_region 3 with (fail)
    generalize hw0 : (w.alloc _).alloc _ = w0
    have rk : Row w0 w.heap.size .u8 60 key := by rw [← hw0]; unfold Row; rw [heap_alloc2_old]
    have rn : Row w0 (w.heap.size + 1) .u8 64 nonce := by rw [← hw0]; unfold Row; rw [heap_alloc2_new]
    have hb0 : Below w.heap.size w w0 := by rw [← hw0]; exact ((Below.refl _ _).alloc (Nat.le_refl _) _).alloc (by simp) _
    clear hw0
    have HRK := hid rk
    have HRN := hid rn
    have HB0 := hid hb0
    clear rk rn hb0
    go_quiet (fail)
    have rk : Row (w0.drewN nq) w.heap.size .u8 60 key := HRK.out
    have rn : Row (w0.drewN nq) (w.heap.size + 1) .u8 64 nonce := HRN.out
    have HB1 := hid (show Below w.heap.size w (w0.drewN nq) from HB0.out.trans ⟨rfl, rfl, rfl, Nat.le_refl _, fun _ _ => rfl⟩)
    generalize w0.drewN nq = w1 at *
    clear HRK HRN HB0 hex1 hex2
    go_wp2_with (first
      | (refine wpList_load_row rfl _ _ rfl w.heap.size rfl _ _ _ _ rk Tryd.underlying60 rfl (by rw [hks]; exact info23) ?_)
      | (refine wpList_load_row rfl _ _ rfl (w.heap.size + 1) rfl _ _ _ _ rn Tryd.underlying64 rfl (by rw [hns]; exact info26) ?_)
      | fail)
    refine (HTG.out _ (HT.out.below HB1.out (Nat.le_refl _)) (HK.out.below HB1.out (Nat.le_refl _))).mono ?_
    rintro e w2 ⟨rfl, k2⟩
    go_wp2_with fail
    refine (HTO.out _).mono ?_
    rintro e w3 ⟨rfl, k3⟩
    go_wp2_with fail
    refine (HEQ.out _).mono ?_
    rintro e w4 ⟨rfl, k4⟩
    have rk4 := ((rk.below k2 rk.lt).below k3 (Nat.lt_of_lt_of_le rk.lt k2.size)).below k4 (Nat.lt_of_lt_of_le rk.lt (Nat.le_trans k2.size k3.size))
    have rn4 := ((rn.below k2 rn.lt).below k3 (Nat.lt_of_lt_of_le rn.lt k2.size)).below k4 (Nat.lt_of_lt_of_le rn.lt (Nat.le_trans k2.size k3.size))
    have HB4 := hid (show Below w.heap.size w w4 from by
      have b2 := HB1.out.trans (k2.mono HB1.out.size)
      have b3 := b2.trans (k3.mono b2.size)
      exact b3.trans (k4.mono b3.size))
    clear k2 k3 k4 rk rn HB1
    by_cases heq : T = TG
    · rw [if_pos heq] at HOP
      subst heq
      rw [beq_self_eq_true]
      go_wp2_with (first
        | (refine wpList_load_row rfl _ _ rfl w.heap.size rfl _ _ _ _ rk4 Tryd.underlying60 rfl (by rw [hks]; exact info23) ?_)
        | (refine wpList_load_row rfl _ _ rfl (w.heap.size + 1) rfl _ _ _ _ rn4 Tryd.underlying64 rfl (by rw [hns]; exact info26) ?_)
        | (go_at_call 37; refine (HX.out _ (HT.out.below HB4.out (Nat.le_refl _))).mono ?_; rintro e w5 ⟨rfl, k5⟩))
      refine bodyPost_ret (results_tmp2 Tryd.results24 _ _ _) rfl ?_
      exact ⟨by rw [HOP.out, show Ax.openedV (some (Ax.hidden key nonce (s.take m))) = .tuple #[.string (str (Ax.hidden key nonce (s.take m))), .bool true] from rfl, HSX.out]; rfl, HB4.out.trans (k5.mono HB4.out.size)⟩
    · rw [if_neg heq] at HOP
      rw [show (T == TG) = false from by simp [heq]]
      go_wp2
      refine bodyPost_ret (results_tmp2 Tryd.results24 _ _ _) rfl ?_
      exact ⟨by rw [HOP.out]; rfl, HB4.out⟩
end Go.Proofs.YtgjkkcggcljcdaaDoor
