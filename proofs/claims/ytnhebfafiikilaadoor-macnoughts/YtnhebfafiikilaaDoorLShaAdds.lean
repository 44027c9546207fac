/-
  For every list of texts: added at once, one by one, or as one text, they have one sum and as many bytes (law ShaAdds); without conditions.
-/
import Derived.Test.YtnhebfafiikilaaDoorShaCut
namespace Go.Proofs.YtnhebfafiikilaaDoor
open Go.ChangeShapes Go.WideShapes Go.ChangeAt Go.RowKit
open Go.Lib (hid)

theorem Stt.below {w w' : World} {b : Nat} {t : List Nat} (h : Stt w b t) (hb : Below w.heap.size w w') : Stt w' b t := by
  obtain ⟨a, r, hh, hv⟩ := h
  exact ⟨a, r, by rw [hb.block b (Array.getElem?_eq_some_iff.1 hh).1]; exact hh, hv⟩
theorem Stt.keptB {w w' : World} {b c : Nat} {t : List Nat} (h : Stt w b t) (hk : KeptB c w w') (hne : b ≠ c) : Stt w' b t := by
  obtain ⟨a, r, hh, hv⟩ := h
  exact ⟨a, r, by rw [hk.block b (Array.getElem?_eq_some_iff.1 hh).1 hne]; exact hh, hv⟩
theorem Stt.lt {w : World} {b : Nat} {t : List Nat} (h : Stt w b t) : b < w.heap.size := by
  obtain ⟨a, r, hh, hv⟩ := h
  exact (Array.getElem?_eq_some_iff.1 hh).1

/-- Add of one text. -/
theorem add_one (b : Nat) (t x : List Nat) (hx : ∀ y ∈ x, y < 256) (hl : t.length + x.length ≤ 100000000000) (w : World) (hT : Tabs w) (hb : 0 < b ∧ 1 < b) (hS : Stt w b t) (ty : TypeId) :
    Calls Tryd.prog 21 #[.pointer (some ⟨b, 0, none⟩), .slice (some ⟨w.heap.size, 0, none⟩) 1 1] (w.alloc (.cells #[.string (str x)] ty))
      fun e w' => e = .returned (.pointer (some ⟨b, 0, none⟩)) ∧ Stt w' b (t ++ x) ∧ KeptB b w w' := by
  have hb0 : Below w.heap.size w (w.alloc (.cells #[.string (str x)] ty)) := (Below.refl _ _).alloc (Nat.le_refl _) _
  have h := add_any b t [x] (some ⟨w.heap.size, 0, none⟩) 1 (by simpa using hx) _ (hT.below hb0 (Nat.le_refl _)) hb (hS.below hb0) (strs_one w x ty) (by simp; omega) (by simp)
  simp only [List.flatten_cons, List.flatten_nil, List.append_nil] at h
  exact h.mono fun e w' ⟨he, hs, hk⟩ => ⟨he, hs, (KeptB.of_below hb0).trans hk⟩

namespace ShaAdds
set_option maxHeartbeats 4000000 in
set_option maxRecDepth 100000 in
theorem walk (ao : Option Addr) (L : List ByteArray) (cap : Nat) (w : World) (hT : Tabs w) (hA : StrsB w ao L) (hL : L.length ≤ maxLen) (hs : ∀ s ∈ L, s.size ≤ maxLen) :
    Calls Tryd.prog 7 #[.slice ao L.length cap] w fun e w' => e = .returned (.bool true) ∧ Below w.heap.size w w' := by
  have HT := hid hT
  have HA := hid hA
  have HLL := hid hL
  have HSS := hid hs
  have hz := zero40
  clear hT hA hL hs
  go_enter Tryd.func7, Tryd.ntmps7
  go_wp2_with fail
  refine (awake_any _ HT.out).mono ?_
  rintro e w1 ⟨rfl, hb1⟩
  go_wp2_with fail
  refine (few_any ao L cap 6 80 _ (HA.out.below hb1) HLL.out HSS.out (by omega) (by omega)).mono ?_
  rintro e w2 ⟨v, rfl, hown, hb2⟩
  obtain ⟨ao', cap', rfl, hstr⟩ := hown.strs
  have hfl := few_flatten_le L 6 80
  have hflt := few_lt L 6 80
  have hfn : (few L 6 80).length ≤ 6 := by rw [few_length]; omega
  generalize few L 6 80 = F at *
  have HB2 := hid (hb1.next (Nat.le_refl _) hb2)
  have HT2 := hid (HT.out.below HB2.out (Nat.le_refl _))
  have HFLT := hid hflt
  have HSTR := hid hstr
  clear hflt hstr hown hb1 hb2 HA HLL HSS
  go_upto_region 5 with (fail)
  have hb3 : Below w2.heap.size w2 (((w2.alloc (.cells stZ 40)).alloc (.cells stZ 40)).alloc (.cells stZ 40)) := (((Below.refl _ _).alloc (Nat.le_refl _) _).alloc (by simp) _).alloc (by simp; omega) _
  have sx : Stt (((w2.alloc (.cells stZ 40)).alloc (.cells stZ 40)).alloc (.cells stZ 40)) w2.heap.size [] := stt_zero (heap_alloc3_0 _ _ _ _)
  have sy : Stt (((w2.alloc (.cells stZ 40)).alloc (.cells stZ 40)).alloc (.cells stZ 40)) (w2.heap.size + 1) [] := stt_zero (heap_alloc3_1 _ _ _ _)
  have sz : Stt (((w2.alloc (.cells stZ 40)).alloc (.cells stZ 40)).alloc (.cells stZ 40)) (w2.heap.size + 1 + 1) [] := stt_zero (heap_alloc3_2 _ _ _ _)
  generalize hw3 : ((w2.alloc _).alloc _).alloc _ = w3 at *
  clear hw3 hz
  have hsz2 : w.heap.size ≤ w2.heap.size := HB2.out.size
  have hg := HT2.out.lt
  generalize hbx : w2.heap.size = bx at *
  have HT3 := hid (HT2.out.below hb3 (by omega))
  have HB3 := hid (HB2.out.trans (hb3.mono hsz2))
  have HSTR3 := hid (HSTR.out.below (by rw [hbx]; exact hb3))
  have HSX := hid sx
  have HSY := hid sy
  have HSZ := hid sz
  have hlt3 := sz.lt
  clear sx sy sz hb3 HB2 HT2 HSTR hbx
  go_wp2_with fail
  refine (add_any bx [] F ao' cap' HFLT.out _ HT3.out hg HSX.out HSTR3.out (by rw [List.length_nil]; omega) (by omega)).mono ?_
  rintro e w4 ⟨rfl, hx4, hk4⟩
  rw [List.nil_append] at hx4
  have HSX4 := hid hx4
  have HSY4 := hid (HSY.out.keptB hk4 (by omega))
  have HSZ4 := hid (HSZ.out.keptB hk4 (by omega))
  have HSTR4 := hid (HSTR3.out.kept HSX.out hk4)
  have HT4 := hid (HT3.out.keptB hk4 hg)
  have HB4 := hid (HB3.out.trans (hk4.below hsz2 (by omega)))
  clear hx4 hk4 HSX HSY HSZ HSTR3 HT3 HB3 hlt3
  go_wp2
  go_loopw [6, 17] (fun al i wr => ∃ k : Nat, k ≤ F.length ∧ i = .int .i64 k ∧ al = .string (str (F.take k).flatten) ∧ Stt wr bx F.flatten ∧ Stt wr (bx + 1) (F.take k).flatten ∧ Stt wr (bx + 1 + 1) [] ∧ Strs wr ao' F ∧ Tabs wr ∧ Below w.heap.size w wr)
    (fun _ i _ => F.length - (intOf i).toNat)
  case atStart => exact ⟨0, Nat.zero_le _, rfl, rfl, HSX4.out, HSY4.out, HSZ4.out, HSTR4.out, HT4.out, HB4.out⟩
  case round =>
    obtain ⟨k, hk, rfl, rfl, qx, qy, qz, qs, qT, qb⟩ := hrel
    by_cases hlt : k < F.length
    · obtain ⟨sb, so, rfl, hc⟩ := qs k hlt
      have hfs := flatten_take_succ F k hlt
      have hle := flatten_take_le F (k + 1)
      rw [hfs] at hle
      simp only [List.length_append] at hle
      have HADD := hid (add_one (bx + 1) (F.take k).flatten (F.getD k []) (fun y hy => HFLT.out y (getD_mem_flatten F k y hy)) (by omega) wr qT (by omega) qy 9)
      rw [← hfs] at HADD
      have z1 : (str (F.take k).flatten).size ≤ 1000 := by rw [str_size]; omega
      have z2 : (str (F.getD k [])).size ≤ 1000 := by rw [str_size]; omega
      have HAP := hid (str_append (F.take k).flatten (F.getD k []))
      rw [← hfs] at HAP
      have QX := hid qx
      have QY := hid qy
      have QZ := hid qz
      have QS := hid qs
      have QT := hid qT
      have QB := hid qb
      clear qx qy qz qs qT qb hfs hle
      obtain ⟨X, hX⟩ : ∃ X, X = str (F.getD k []) := ⟨_, rfl⟩
      obtain ⟨Y, hY⟩ : ∃ Y, Y = str (F.take k).flatten := ⟨_, rfl⟩
      rw [← hX] at hc z2 HAP HADD
      rw [← hY] at z1 HAP
      rw [← hY]
      clear hX hY
      go_wp2_with (go_at_call 21; refine HADD.out.mono ?_; rintro e w' ⟨rfl, hy', hk'⟩)
      rw [HAP.out]
      go_roundw
      case rel => exact ⟨k + 1, by omega, by go_num, rfl, QX.out.keptB hk' (by omega), hy', QZ.out.keptB hk' (by omega), QS.out.kept QY.out hk', QT.out.keptB hk' (by omega), QB.out.trans (hk'.below (by omega) QB.out.size)⟩
      case measure => simp [intOf]; omega
    · obtain rfl : k = F.length := by omega
      rw [List.take_length] at qy
      rw [List.take_length]
      have z1 : (str F.flatten).size = F.flatten.length := str_size _
      have HADD := hid (add_one (bx + 1 + 1) [] F.flatten HFLT.out (by rw [List.length_nil]; omega) wr qT (by omega) qz 9)
      rw [List.nil_append] at HADD
      have HDL := hid (digest_lt F.flatten)
      have HDN := hid (digest_length F.flatten)
      have heq := fun wx => eql_sums wx (Sx.digest F.flatten) (Sx.digest F.flatten) HDL.out HDL.out HDN.out HDN.out
      have hDD : (Sx.digest F.flatten == Sx.digest F.flatten) = true := beq_self_eq_true _
      rw [hDD] at heq
      clear hDD
      have QX := hid qx
      have QY := hid qy
      have QZ := hid qz
      have QT := hid qT
      have QB := hid qb
      clear qx qy qz qs qT qb
      generalize hT0 : F.flatten = T at *
      obtain ⟨Y, hY⟩ : ∃ Y, Y = str T := ⟨_, rfl⟩
      have HY := hid hY
      rw [← hY] at z1 HADD
      rw [← hY]
      clear hY hT0
      have hzi : ((T.length : Int) == (Y.size : Int)) = true := by rw [z1]; exact beq_self_eq_true _
      generalize hD : Sx.digest T = D at *
      have HD := hid hD
      clear hD
      go_wp2_with fail
      refine HADD.out.mono ?_
      rintro e u1 ⟨rfl, hz1, hk1⟩
      have UX := hid (QX.out.keptB hk1 (by omega))
      have UY := hid (QY.out.keptB hk1 (by omega))
      have UZ := hid hz1
      have UT := hid (QT.out.keptB hk1 (by omega))
      have UB := hid (QB.out.trans (hk1.below (by omega) QB.out.size))
      clear hz1 hk1
      go_wp2_with fail
      refine (stsum_any bx T _ UT.out UX.out (by omega)).mono ?_
      rw [HD.out]
      rintro e u2 ⟨rfl, hb2⟩
      go_wp2_with fail
      refine (stsum_any (bx + 1) T _ (UT.out.below hb2 (Nat.le_refl _)) (UY.out.below hb2) (by omega)).mono ?_
      rw [HD.out]
      rintro e u3 ⟨rfl, hb3⟩
      have VB3 := hid (hb2.next (Nat.le_refl _) hb3)
      go_wp2_with fail
      refine (stsum_any (bx + 1) T _ (UT.out.below VB3.out (Nat.le_refl _)) (UY.out.below VB3.out) (by omega)).mono ?_
      rw [HD.out]
      rintro e u4 ⟨rfl, hb4⟩
      have VB4 := hid (VB3.out.next (Nat.le_refl _) hb4)
      go_wp2_with fail
      refine (stsum_any (bx + 1 + 1) T _ (UT.out.below VB4.out (Nat.le_refl _)) (UZ.out.below VB4.out) (by omega)).mono ?_
      rw [HD.out]
      rintro e u5 ⟨rfl, hb5⟩
      have VB5 := hid (VB4.out.next (Nat.le_refl _) hb5)
      go_wp2_with fail
      refine (len_any bx T _ (UX.out.below VB5.out)).mono ?_
      rintro e u6 ⟨rfl, rfl⟩
      go_wp2_with fail
      refine (len_any (bx + 1) T _ (UY.out.below VB5.out)).mono ?_
      rintro e u6 ⟨rfl, rfl⟩
      go_wp2_with fail
      refine (len_any (bx + 1 + 1) T _ (UZ.out.below VB5.out)).mono ?_
      rintro e u6 ⟨rfl, rfl⟩
      go_wp2_with fail
      refine (stsum_any (bx + 1 + 1) T _ (UT.out.below VB5.out (Nat.le_refl _)) (UZ.out.below VB5.out) (by omega)).mono ?_
      rw [HD.out]
      rintro e u7 ⟨rfl, hb7⟩
      have VB7 := hid (VB5.out.next (Nat.le_refl _) hb7)
      have HOF := hid (of_one T HFLT.out (by omega) u7 (UT.out.below VB7.out (Nat.le_refl _)) 9)
      rw [HD.out, ← HY.out] at HOF
      go_wp2_with fail
      refine HOF.out.mono ?_
      rintro e u8 ⟨rfl, hb8⟩
      go_wp2_with fail
      go_ret
      exact ⟨rfl, (UB.out.trans (VB7.out.mono UB.out.size)).next (Nat.le_refl _) hb8⟩


theorem contract (H : Type) (enc : TypeId × Value → H) (W : World) (base : Nat) (args : Array Value) (ds gs : List (DataW H)) (before : List MemPlace)
    (hval : ∀ (j : Nat) t v, Tryd.f7.params[j]? = some t → args[j]? = some v → Value.okWide Tryd.prog W .any base t v)
    (hW : DataW.Whole enc Tryd.prog Tryd.f7.params.toList Rows.shaAddsSpec.vars false W args.toList ds gs before) (hL : laidMetH Tryd.prog Rows.shaAddsRow.laid W) :
    Calls Tryd.prog 7 args W fun e W' => ∃ v, e = .returned v ∧ Rows.shaAddsSpec.post enc Tryd.prog Tryd.f7 false true false false W args v W' := by
  have hW' := hW
  obtain ⟨p, q, hA0, hV, rfl, hfz, hnd⟩ := hW
  have hA : DataW.TrodAll enc Tryd.prog W 0 (fun _ => true) true Tryd.f7.params.toList args.toList ds p := hA0
  rw [Tryd.params7] at hA hval
  obtain ⟨v0, vs0, d0, ds0, p0, q0, hargs, rfl, rfl, h0, r0⟩ := trodAll_cons hA
  obtain ⟨rfl, rfl, rfl⟩ := trodAll_nil r0
  obtain rfl : args = #[v0] := by cases args; simp_all
  obtain ⟨ao0, L0, cap0, rfl, hL0, hb0⟩ := open_strs (hval 0 22 v0 rfl rfl) h0
  refine (walk ao0 L0 cap0 W (tabs_of hL) hL0 hb0.1 hb0.2).mono fun e W' ⟨he, hb⟩ => ?_
  subst he
  exact ⟨_, rfl, law_post rfl rfl (by rw [Tryd.params7]; decide +kernel) hW' rfl hb⟩

theorem laid_met (os : Os) : laidMet Tryd.prog Rows.shaAddsRow.laid ((laidWorld os).forCall (fun _ _ => 0) ⟨#[], #[.slice none 0 0], []⟩).memory :=
  laidMet_of_run' 8 (by kernel_rfl) (by kernel_rfl)
theorem reads (os : Os) {H : Type} (enc : TypeId × Value → H) : ∃ places, DataW.whole enc Tryd.prog ((laidWorld os).forCall (fun _ _ => 0) ⟨#[], #[.slice none 0 0], []⟩).memory Tryd.f7.params.toList Rows.shaAddsSpec.vars false (#[.slice none 0 0] : Array Value).toList 8
    = some ([.nil], [], places) :=
  ⟨[], by kernel_rfl⟩

set_option maxRecDepth 100000 in
theorem lifted (os : Os) (started : os.Started) (H : Type) (enc : TypeId × Value → H) (F : Stop.Interp) :
    ReturnsInHanded {} Tryd.checked os 7 .any ((OpenSpec.ofChange Rows.shaAddsSpec).preRow enc Tryd.prog Tryd.f7 Rows.shaAddsRow.domain false Rows.shaAddsRow.laid) (((OpenSpec.ofChange Rows.shaAddsSpec).at F).post enc Tryd.prog Tryd.f7 false true false false) := by
  obtain ⟨places, hx⟩ := reads os enc
  refine returnsInHanded_of_row (C := Tryd.checked) (s := OpenSpec.ofChange Rows.shaAddsSpec) own started (by kernel_rfl) Tryd.func7
    (witness_row_at (enc := enc) (C := Tryd.checked) false (laidWorld os) #[.slice none 0 0] rfl (by kernel_rfl) (by kernel_rfl) (by kernel_rfl)
      (OpenSpec.preRow_of_cond 8 hx (by kernel_rfl) (fun k hk => by cases hk) (by kernel_rfl) (laid_met os))) ?_
  intro W base args ds gs before hval hW _ _ _ hL _ _
  exact contract H enc W base args ds gs before hval hW hL

theorem said : Rows.ShaAddsSaid :=
  OpenClaim.holds_of_cond 7 Tryd.f7 rfl rfl rfl rfl rfl rfl rfl ⟨rfl, rfl, rfl, rfl, rfl⟩ rfl rfl rfl rfl rfl (by kernel_rfl) Tryd.func7 (by kernel_rfl)
    (of_decide_eq_true (by kernel_rfl)) (by unfold Func.isWrapper; first | (rw [if_pos (by decide +kernel)]; kernel_rfl) | (rw [if_neg (by decide +kernel)]; exact ⟨rfl, rfl⟩))
    (fun os started H enc _ F => by rw [OpenClaim.pre_eq_preRow]; exact lifted os started H enc F)

theorem plain (f : FuncId) (fn : Func) (hf : Tryd.pinned.checked.prog.funcNamed "sealwax/sealwaxlaw01.ShaAdds" = some f) (hfn : Tryd.pinned.checked.prog.funcs[f]? = some fn) :
    false = Tryd.pinned.checked.prog.looks [] ∧ ∀ (j : Nat) t, fn.params[j]? = some t → Tryd.pinned.checked.prog.wantsStandIn t = false := by
  obtain rfl : f = 7 := Option.some.inj ((show Tryd.prog.funcNamed "sealwax/sealwaxlaw01.ShaAdds" = some 7 by kernel_rfl).symm.trans hf) |>.symm
  obtain rfl : fn = Tryd.f7 := (Option.some.inj (Tryd.func7.symm.trans hfn)).symm
  refine ⟨by kernel_rfl, fun j t ht => ?_⟩
  rw [Tryd.params7] at ht
  have hmem := Array.mem_of_getElem? ht
  exact (show ∀ t ∈ (Tryd.f7.params), Tryd.prog.wantsStandIn t = false from by rw [Tryd.params7]; decide +kernel) t (by rw [Tryd.params7]; exact hmem)

theorem card : Rows.ShaAddsCardSaid :=
  Claim7.holds_tied_plain_at .later [] _ _ _ _ said (fun _ h => by cases h) (by kernel_rfl) (fun _ h => by cases h) shaAdds_row_tie rfl ⟨rfl, rfl⟩ (by kernel_rfl) rfl plain (by kernel_rfl)

end ShaAdds
theorem shaAdds_card : Rows.ShaAddsCardSaid := ShaAdds.card
end Go.Proofs.YtnhebfafiikilaaDoor
