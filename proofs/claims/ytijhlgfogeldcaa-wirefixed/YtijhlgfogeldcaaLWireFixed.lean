/-
  Texts of a fixed length have it, and begin with what they are of (law WireFixed); for every input.
-/
import Derived.Test.YtijhlgfogeldcaaLWire
namespace Go.Proofs.Ytijhlgfogeldcaa
open Go.ChangeShapes Go.WideShapes Go.ChangeAt Go.RowKit
open Go.Lib (hid)

theorem Wx.fix_get (s : List Nat) (k i : Nat) (h : i < k) : (Wx.fix s k).getD i 0 = s.getD i 0 := by
  unfold Wx.fix
  simp only [List.getD_eq_getElem?_getD]
  by_cases hl : i < s.length
  · rw [List.getElem?_append_left (by rw [List.length_take]; omega), List.getElem?_take_of_lt h]
  · rw [List.getElem?_append_right (by rw [List.length_take]; omega), List.getElem?_eq_none (show s.length ≤ i by omega)]
    rw [List.getElem?_replicate]
    split <;> rfl

namespace WireFixed
set_option maxHeartbeats 1000000 in
set_option maxRecDepth 100000 in
theorem walk (s : ByteArray) (hs : s.size ≤ maxLen) (n : Int) (w : World) :
    Calls Try.prog 6 #[.string s, .int .i64 n] w fun e w' => e = .returned (.bool true) ∧ Below w.heap.size w w' := by
  have HCUT := hid (fun wx => cut_any s 60 wx hs (by omega))
  obtain ⟨t, ht⟩ : ∃ t, t = (nums s).take 60 := ⟨_, rfl⟩
  have tb : ∀ x ∈ t, x < 256 := by rw [ht]; exact fun x hx => nums_lt s x (List.mem_of_mem_take hx)
  have tl : t.length ≤ 60 := by rw [ht, List.length_take]; omega
  rw [← ht] at HCUT
  obtain ⟨m, hm⟩ : ∃ m : Int, min n 200 = m := ⟨_, rfl⟩
  obtain ⟨k, hk⟩ : ∃ k : Nat, max 0 m = (k : Int) := ⟨m.toNat, by omega⟩
  have hkl : k ≤ 200 := by omega
  have HFX := hid (fun o wx hx => ofixed_any o [] t m k wx hx tb (by omega) (by omega) (by simp))
  rw [List.nil_append] at HFX
  have HBY := hid (fun o wx hx => obytes_any o (Wx.fix t k) wx hx (Wx.fix_lt t k tb) (by rw [Wx.fix_length]; omega))
  have HG1 := hid (str_get t tb)
  have HG2 := hid (str_get (Wx.fix t k) (Wx.fix_lt t k tb))
  have HG3 := hid (Wx.fix_get t k)
  have hz1 := str_size t
  have hz2 : (str (Wx.fix t k)).size = k := by rw [str_size, Wx.fix_length]
  clear ht tb hs
  generalize str t = ST at *
  generalize str (Wx.fix t k) = SF at *
  go_enter Try.func6, Try.ntmps6
  go_upto_region 3 with (go_at_call 9; refine (awake6_any _).mono ?_; rintro e w0 ⟨rfl, hb0⟩)
  go_upto_region 6 with (go_at_call 10; refine (HCUT.out _).mono ?_; rintro e w2 ⟨rfl, hw2⟩; obtain rfl : w0 = w2 := hw2)
  have HO1 := hid (OutAt.zero w0)
  have HB0 := hid (hb0.alloc hb0.size (.cells #[.pointer none, .int .i64 0] 26))
  have hs0 := hb0.size
  clear hb0
  generalize w0.alloc _ = w1 at *
  go_wp2_with fail
  refine (HFX.out _ _ HO1.out).mono ?_
  rintro e w2 ⟨rfl, ho2, hk2⟩
  go_wp2_with fail
  refine (HBY.out _ _ ho2).mono ?_
  rintro e w3 ⟨rfl, hb3⟩
  have HBB := hid (show Below w.heap.size w w3 from by
    have b2 := HB0.out.trans (hk2.below hs0 HB0.out.size)
    exact b2.trans (hb3.mono b2.size))
  clear hb3 ho2 hk2 HO1 HB0 hs0 HFX HBY
  go_upto_region 11 with (fail)
  go_loopw [8, 26] (fun u i wr => Below w.heap.size w wr ∧ ∃ j : Nat, j ≤ k ∧ i = .int .i64 j)
    (fun _ i _ => k - (intOf i).toNat)
  case atStart => exact ⟨HBB.out, 0, by omega, rfl⟩
  case round =>
    obtain ⟨hbel, j, hj, rfl⟩ := hrel
    have HBL := hid hbel
    clear hbel
    by_cases hlt : j < k
    · have hj2 : j < SF.size := by omega
      have g2 := HG2.out j hj2
      rw [HG3.out j hlt] at g2
      by_cases hlt2 : j < t.length
      · have g1 := HG1.out j (by omega)
        have hd : decide ((j : Int) < (t.length : Int)) = true := by simp; omega
        have hd2 : decide (t.length ≤ j) = false := by simp; omega
        go_upto_region 13 with (fail)
        go_quiet (fail)
        go_wp2
        exact ⟨⟨HBL.out.trans ⟨rfl, rfl, rfl, Nat.le_refl _, fun _ _ => rfl⟩, j + 1, by omega, by go_num⟩, by simp [intOf]; omega⟩
      · have hd : decide ((j : Int) < (t.length : Int)) = false := by simp; omega
        have hd2 : decide (t.length ≤ j) = true := by simp; omega
        rw [show t.getD j 0 = 0 from by rw [List.getD_eq_getElem?_getD, List.getElem?_eq_none (by omega)]; rfl] at g2
        go_upto_region 13 with (fail)
        go_quiet (fail)
        go_wp2
        exact ⟨⟨HBL.out.trans ⟨rfl, rfl, rfl, Nat.le_refl _, fun _ _ => rfl⟩, j + 1, by omega, by go_num⟩, by simp [intOf]; omega⟩
    · obtain rfl : j = k := by omega
      go_wp2
      go_ret
      exact ⟨rfl, HBL.out⟩

set_option maxRecDepth 100000 in
theorem contract (H : Type) (enc : TypeId × Value → H) (W : World) (base : Nat) (args : Array Value) (ds gs : List (DataW H)) (before : List MemPlace)
    (hval : ∀ (j : Nat) t v, Try.f6.params[j]? = some t → args[j]? = some v → Value.okWide Try.prog W .any base t v)
    (hW : DataW.Whole enc Try.prog Try.f6.params.toList Rows.wireFixedSpec.vars false W args.toList ds gs before) (hL : laidMetH Try.prog Rows.wireFixedRow.laid W) :
    Calls Try.prog 6 args W fun e W' => ∃ v, e = .returned v ∧ Rows.wireFixedSpec.post enc Try.prog Try.f6 false true false false W args v W' := by
  have hW' := hW
  obtain ⟨p, q, hA0, hV, rfl, hfz, hnd⟩ := hW
  have hA : DataW.TrodAll enc Try.prog W 0 (fun _ => true) true Try.f6.params.toList args.toList ds p := hA0
  rw [Try.params6] at hA hval
  obtain ⟨v0, vs0, d0, ds0, p0, q0, hargs, rfl, rfl, h0, r0⟩ := trodAll_cons hA
  obtain ⟨v1, vs1, d1, ds1, p1, q1, rfl, rfl, rfl, h1, r1⟩ := trodAll_cons r0
  obtain ⟨rfl, rfl, rfl⟩ := trodAll_nil r1
  obtain rfl : args = #[v0, v1] := by cases args; simp_all
  obtain ⟨s0, rfl, rfl, rfl, hs0⟩ := Go.ChangeMaps.open_string Try.underlying9 (hval 0 9 v0 rfl rfl) h0
  obtain ⟨n1, rfl, rfl, rfl, wn1⟩ := open_int Try.underlying3 (hval 1 3 v1 rfl rfl) h1
  refine (walk s0 hs0 n1 W).mono fun e W' ⟨he, hb⟩ => ?_
  subst he
  exact ⟨_, rfl, law_post rfl rfl (by rw [Try.params6]; decide +kernel) hW' rfl hb⟩

theorem laid_met (os : Os) : laidMet Try.prog Rows.wireFixedRow.laid ((laidWorld os).forCall (fun _ _ => 0) ⟨#[], #[.string ByteArray.empty, .int .i64 0], []⟩).memory :=
  laidMet_of_run' 8 (by kernel_rfl) (by kernel_rfl)
theorem reads (os : Os) {H : Type} (enc : TypeId × Value → H) : ∃ places, DataW.whole enc Try.prog ((laidWorld os).forCall (fun _ _ => 0) ⟨#[], #[.string ByteArray.empty, .int .i64 0], []⟩).memory Try.f6.params.toList Rows.wireFixedSpec.vars false (#[.string ByteArray.empty, .int .i64 0] : Array Value).toList 8
    = some ([.lit (.string []), .lit (.int .i64 0)], [], places) :=
  ⟨[], by kernel_rfl⟩

set_option maxRecDepth 100000 in
theorem lifted (os : Os) (started : os.Started) (H : Type) (enc : TypeId × Value → H) (F : Stop.Interp) :
    ReturnsInHanded {} Try.checked os 6 .any ((OpenSpec.ofChange Rows.wireFixedSpec).preRow enc Try.prog Try.f6 Rows.wireFixedRow.domain false Rows.wireFixedRow.laid) (((OpenSpec.ofChange Rows.wireFixedSpec).at F).post enc Try.prog Try.f6 false true false false) := by
  obtain ⟨places, hx⟩ := reads os enc
  refine returnsInHanded_of_row (C := Try.checked) (s := OpenSpec.ofChange Rows.wireFixedSpec) own started (by kernel_rfl) Try.func6
    (witness_row_at (enc := enc) (C := Try.checked) false (laidWorld os) #[.string ByteArray.empty, .int .i64 0] rfl (by kernel_rfl) (by kernel_rfl) (by kernel_rfl)
      (OpenSpec.preRow_of_cond 8 hx (by kernel_rfl) (fun k hk => by cases hk) (by kernel_rfl) (laid_met os))) ?_
  intro W base args ds gs before hval hW _ _ _ hL _ _
  exact contract H enc W base args ds gs before hval hW hL

theorem said : Rows.WireFixedSaid :=
  OpenClaim.holds_of_cond 6 Try.f6 rfl rfl rfl rfl rfl rfl rfl ⟨rfl, rfl, rfl, rfl, rfl⟩ rfl rfl rfl rfl rfl (by kernel_rfl) Try.func6 (by kernel_rfl)
    (of_decide_eq_true (by kernel_rfl)) (by unfold Func.isWrapper; first | (rw [if_pos (by decide +kernel)]; kernel_rfl) | (rw [if_neg (by decide +kernel)]; exact ⟨rfl, rfl⟩))
    (fun os started H enc _ F => by rw [OpenClaim.pre_eq_preRow]; exact lifted os started H enc F)


end WireFixed
theorem wireFixed_said : Rows.WireFixedSaid := WireFixed.said
end Go.Proofs.Ytijhlgfogeldcaa
