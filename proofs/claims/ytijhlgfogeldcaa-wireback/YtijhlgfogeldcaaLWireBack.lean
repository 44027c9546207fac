/-
  Numbers and texts that were written are read (law WireBack); for every input.
-/
import Derived.Test.YtijhlgfogeldcaaLActs
import Derived.Test.YtijhlgfogeldcaaWire7
namespace Go.Proofs.Ytijhlgfogeldcaa
open Go.ChangeShapes Go.WideShapes Go.ChangeAt Go.RowKit
open Go.Lib (hid)

theorem Wx.nums8_drop (L : List Int) (k : Nat) (h : k < L.length) : Wx.nums8 (L.drop k) = Wx.num8 (L.getD k 0).toNat ++ Wx.nums8 (L.drop (k + 1)) := by
  rw [List.drop_eq_getElem_cons h]
  simp only [Wx.nums8, List.map_cons, List.flatten_cons]
  rw [List.getD_eq_getElem?_getD, List.getElem?_eq_getElem h, Option.getD_some]
theorem IntsB.take {w : World} {ao : Option Addr} {L : List Int} (h : IntsB w ao L) (m : Nat) : IntsB w ao (L.take m) := by
  intro i hi
  rw [List.length_take] at hi
  obtain ⟨sb, so, ha, hc⟩ := h i (by omega)
  refine ⟨sb, so, ha, ?_⟩
  rw [hc]
  simp only [List.getD_eq_getElem?_getD]
  rw [List.getElem?_take_of_lt (by omega)]

namespace WireBack
set_option maxHeartbeats 2000000 in
set_option maxRecDepth 100000 in
theorem walk (ao : Option Addr) (L : List Int) (cap : Nat) (s : ByteArray) (hs : s.size ≤ maxLen) (w : World) (hA : IntsB w ao L) (hL : L.length ≤ cap) (hC : cap ≤ maxLen) (hB : ∀ n ∈ L, n ≤ 9223372036854775807) :
    Calls Try.prog 5 #[.slice ao L.length cap, .string s] w fun e w' => e = .returned (.bool true) ∧ Below w.heap.size w w' := by
  have HCUT := hid (fun wx => cut_any s 80 wx hs (by omega))
  obtain ⟨t, ht⟩ : ∃ t, t = (nums s).take 80 := ⟨_, rfl⟩
  have tb : ∀ x ∈ t, x < 256 := by rw [ht]; exact fun x hx => nums_lt s x (List.mem_of_mem_take hx)
  have tl : t.length ≤ 80 := by rw [ht, List.length_take]; omega
  rw [← ht] at HCUT
  obtain ⟨m, hm⟩ : ∃ m : Nat, m = min L.length 20 := ⟨_, rfl⟩
  have hmi : min (L.length : Int) 20 = (m : Int) := by omega
  have hmc : (m : Int) ≤ (cap : Int) := by omega
  have hLm : L.length ≤ 9223372036854775807 := Nat.le_trans hL hC
  have hCm : cap ≤ 9223372036854775807 := hC
  obtain ⟨M, hM⟩ : ∃ M, M = L.take m := ⟨_, rfl⟩
  have hMl : M.length = m := by rw [hM, List.length_take]; omega
  have HA := hid (hA.take m)
  rw [← hM] at HA
  have HMB := hid (show ∀ n ∈ M, n ≤ 9223372036854775807 from fun n hn => hB n (List.mem_of_mem_take (hM ▸ hn)))
  have hm20 : m ≤ 20 := by omega
  clear hA hB hM hC hs ht
  go_enter Try.func5, Try.ntmps5
  go_upto_region 3 with (go_at_call 9; refine (awake6_any _).mono ?_; rintro e w0 ⟨rfl, hb0⟩)
  go_upto_region 4 with (fail)
  have HO1 := hid (OutAt.zero w0)
  have HB0 := hid (hb0.alloc hb0.size (.cells #[.pointer none, .int .i64 0] 26))
  have hs0 := hb0.size
  clear hb0
  generalize w0.alloc _ = w1 at *
  generalize w0.heap.size = o at *
  go_upto_region 5 with (fail)
  rw [← hm]
  have HN := hid (fun wx hx hy => onum_any o [] ao cap M wx hx hy (by omega) HMB.out (by simp))
  rw [hMl, List.nil_append] at HN
  have hnl : (Wx.nums8 M).length = 8 * m := by rw [Wx.nums8_length, hMl]
  have HT := hid (fun wb wx hx hy => otext_any o (Wx.nums8 M) (some ⟨wb, 0, none⟩) 1 [t] wx hx hy (by simp) (by simp; omega) (by omega))
  rw [show [t].length = 1 from rfl, show Wx.texts [t] = Wx.num8 t.length ++ t from by simp [Wx.texts]] at HT
  have HR := hid (fun wb wx hx hy => oraw_any o (Wx.nums8 M ++ (Wx.num8 t.length ++ t)) wb 0 1 [t] wx hx hy (by simp) (by simp) (by simp) (by simp; omega) (by simp [Wx.num8_length]; omega))
  rw [show [t].length = 1 from rfl, List.flatten_singleton, List.append_assoc, List.append_assoc] at HR
  have HBY := hid (fun wx hx => obytes_any o (Wx.nums8 M ++ (Wx.num8 t.length ++ (t ++ t))) wx hx (by
    intro c hc
    simp only [List.mem_append] at hc
    rcases hc with h | h | h | h
    · exact Wx.nums8_lt M c h
    · exact Wx.num8_lt _ c h
    · exact tb c h
    · exact tb c h) (by simp [Wx.num8_length]; omega))
  have hXb : ∀ c ∈ Wx.num8 t.length ++ (t ++ t), c < 256 := by
    intro c hc
    simp only [List.mem_append] at hc
    rcases hc with h | h | h
    · exact Wx.num8_lt _ c h
    · exact tb c h
    · exact tb c h
  have HNb := hid (fun b k (hk : k < M.length) wx hx => inum_any b (Wx.nums8 (M.drop k) ++ (Wx.num8 t.length ++ (t ++ t))) 0 wx hx (by
    intro c hc
    rcases List.mem_append.1 hc with h | h
    · exact Wx.nums8_lt _ c h
    · exact hXb c h))
  have HTb := hid (fun b wx hx => itext_any b (Wx.num8 t.length ++ (t ++ t)) 0 wx hx hXb)
  rw [Wx.itext_text t t (by omega)] at HTb
  have hra := Wx.iraw_app t [] 0
  rw [List.append_nil] at hra
  have HRb := hid (fun b wx hx => iraw_any b t 0 (t.length : Int) wx hx tb)
  rw [hra] at HRb
  have HEb := hid (fun b wx hx => iend_any b [] 0 wx hx)
  rw [if_pos rfl] at HEb
  have hz := str_size t
  have HMB2 := hid (show ∀ k, k < M.length → Wx.inum (Wx.nums8 (M.drop k) ++ (Wx.num8 t.length ++ (t ++ t))) 0 = ((Wx.nums8 (M.drop (k + 1)) ++ (Wx.num8 t.length ++ (t ++ t)), 0), (M.getD k 0).toNat) from by
    intro k hk
    rw [Wx.nums8_drop M k hk, List.append_assoc, Wx.inum_num8 _ (by
      have := HMB.out (M.getD k 0) (by rw [List.getD_eq_getElem?_getD, List.getElem?_eq_getElem hk, Option.getD_some]; exact List.getElem_mem hk)
      omega)])
  clear hXb hra hnl tb hmi hmc hm hL hLm hCm
  have HML := hid hMl
  clear hMl
  generalize Wx.num8 t.length ++ (t ++ t) = Y at *
  have HST := hid (fun wx => strs_one wx t 9)
  generalize str t = ST at *
  go_upto_region 6 with (go_at_call 10; refine (HCUT.out _).mono ?_; rintro e w2 ⟨rfl, hw2⟩; obtain rfl : w1 = w2 := hw2)
  go_wp2_with fail
  refine (HN.out _ HO1.out (HA.out.below HB0.out)).mono ?_
  rintro e w2 ⟨rfl, ho2, hk2⟩
  have HO2 := hid (ho2.below ((Below.refl _ w2).alloc (Nat.le_refl _) (.cells #[.string ST] 9)))
  have HB2 := hid (HB0.out.trans (hk2.below hs0 HB0.out.size))
  clear ho2 hk2
  go_wp2_with fail
  refine (HT.out _ _ HO2.out (HST.out w2)).mono ?_
  rintro e w3 ⟨rfl, ho3, hk3⟩
  have HB3 := hid (show Below w.heap.size w w3 from (HB2.out.alloc HB2.out.size (.cells #[.string ST] 9)).trans (hk3.below hs0 (HB2.out.alloc HB2.out.size (.cells #[.string ST] 9)).size))
  have HO3 := hid (ho3.below ((Below.refl _ w3).alloc (Nat.le_refl _) (.cells #[.string ST] 9)))
  clear ho3 hk3 HO2
  go_wp2_with fail
  refine (HR.out _ _ HO3.out (HST.out w3)).mono ?_
  rintro e w4 ⟨rfl, ho4, hk4⟩
  have HB4 := hid (show Below w.heap.size w w4 from (HB3.out.alloc HB3.out.size (.cells #[.string ST] 9)).trans (hk4.below hs0 (HB3.out.alloc HB3.out.size (.cells #[.string ST] 9)).size))
  have HO4 := hid ho4
  clear ho4 hk4 HO3
  go_upto_region 8 with (first
    | (go_at_call 18; refine (HBY.out _ HO4.out).mono ?_; rintro e w5 ⟨rfl, hb5⟩)
    | (go_at_call 19; refine (of_any _ _).mono ?_; rintro e w6 ⟨rfl, rfl⟩))
  have HB5 := hid (HB4.out.trans (hb5.mono HB4.out.size))
  have HI6 := hid (InAt.new w5 (Wx.nums8 M ++ Y))
  have HB6 := hid (HB5.out.alloc HB5.out.size (.cells #[.string (str (Wx.nums8 M ++ Y)), .int .i64 0] 66))
  have hs5 := HB5.out.size
  clear hb5
  generalize w5.alloc _ = w6 at *
  generalize w5.heap.size = b at *
  clear HB0 HB2 HB3 HB4 HB5 HO1 HO4 HT HR HBY HN HCUT HST
  go_upto_region 11 with (fail)
  go_loopw [8, 32] (fun u i wr => ∃ k : Nat, k ≤ m ∧ i = .int .i64 k ∧ InAt wr b (Wx.nums8 (M.drop k) ++ Y, 0) ∧ Below w.heap.size w wr)
    (fun _ i _ => m - (intOf i).toNat)
  case atStart => exact ⟨0, by omega, rfl, HI6.out, HB6.out⟩
  case round =>
    clear HI6 HB6
    obtain ⟨k, hk, rfl, hin, hbel⟩ := hrel
    by_cases hlt : k < m
    · have hlt2 : k < M.length := by rw [HML.out]; exact hlt
      obtain ⟨sb, so, hao, hc⟩ := HA.out.below hbel k hlt2
      subst hao
      have HNU := hid (HNb.out b k hlt2 wr hin)
      rw [HMB2.out k hlt2] at HNU
      have HBL := hid hbel
      generalize M.getD k 0 = n at *
      have hmx : max 0 n = (n.toNat : Int) := by omega
      generalize n.toNat = v at *
      clear hin hbel hlt2
      go_wp2_with (go_at_call 20; refine HNU.out.mono ?_; rintro r w7 ⟨rfl, hi7, hk7⟩)
      go_roundw
      case rel =>
        first
          | exact ⟨k + 1, by omega, by go_num, hi7, HBL.out.trans (hk7.below hs5 HBL.out.size)⟩
          | ((repeat apply Exists.intro); refine ⟨?_, rfl⟩; exact ⟨k + 1, by omega, by go_num, hi7, HBL.out.trans (hk7.below hs5 HBL.out.size)⟩)
      case measure => simp [intOf]; omega
    · obtain rfl : k = m := by omega
      rw [← HML.out, List.drop_length] at hin
      have hin' : InAt wr b (Y, 0) := hin
      have HIN := hid hin'
      have HBL := hid hbel
      clear hin hin' hbel
      go_wp2_with (first
        | (go_at_call 22; refine (HTb.out _ _ HIN.out).mono ?_; rintro r w7 ⟨rfl, hi7, hk7⟩)
        | (go_at_call 24; refine (HRb.out _ _ hi7).mono ?_; rintro r w8 ⟨rfl, hi8, hk8⟩)
        | (go_at_call 29; refine (HEb.out _ _ hi8).mono ?_; rintro r w9 ⟨rfl, rfl⟩))
      go_ret
      have b7 := HBL.out.trans (hk7.below hs5 HBL.out.size)
      exact ⟨rfl, b7.trans (hk8.below hs5 b7.size)⟩


set_option maxRecDepth 100000 in
theorem contract (H : Type) (enc : TypeId × Value → H) (W : World) (base : Nat) (args : Array Value) (ds gs : List (DataW H)) (before : List MemPlace)
    (hval : ∀ (j : Nat) t v, Try.f5.params[j]? = some t → args[j]? = some v → Value.okWide Try.prog W .any base t v)
    (hW : DataW.Whole enc Try.prog Try.f5.params.toList Rows.wireBackSpec.vars false W args.toList ds gs before) (hL : laidMetH Try.prog Rows.wireBackRow.laid W) :
    Calls Try.prog 5 args W fun e W' => ∃ v, e = .returned v ∧ Rows.wireBackSpec.post enc Try.prog Try.f5 false true false false W args v W' := by
  have hW' := hW
  obtain ⟨p, q, hA0, hV, rfl, hfz, hnd⟩ := hW
  have hA : DataW.TrodAll enc Try.prog W 0 (fun _ => true) true Try.f5.params.toList args.toList ds p := hA0
  rw [Try.params5] at hA hval
  obtain ⟨v0, vs0, d0, ds0, p0, q0, hargs, rfl, rfl, h0, r0⟩ := trodAll_cons hA
  obtain ⟨v1, vs1, d1, ds1, p1, q1, rfl, rfl, rfl, h1, r1⟩ := trodAll_cons r0
  obtain ⟨rfl, rfl, rfl⟩ := trodAll_nil r1
  obtain rfl : args = #[v0, v1] := by cases args; simp_all
  obtain ⟨ao0, L0, cap0, rfl, hR0, hL0, hC0, hb0⟩ := open_is2 (hval 0 53 v0 rfl rfl) h0
  obtain ⟨s1, rfl, rfl, rfl, hs1⟩ := Go.ChangeMaps.open_string Try.underlying9 (hval 1 9 v1 rfl rfl) h1
  refine (walk ao0 L0 cap0 s1 hs1 W hR0 hL0 hC0 hb0).mono fun e W' ⟨he, hb⟩ => ?_
  subst he
  exact ⟨_, rfl, law_post rfl rfl (by rw [Try.params5]; decide +kernel) hW' rfl hb⟩

theorem laid_met (os : Os) : laidMet Try.prog Rows.wireBackRow.laid ((laidWorld os).forCall (fun _ _ => 0) ⟨#[], #[.slice none 0 0, .string ByteArray.empty], []⟩).memory :=
  laidMet_of_run' 8 (by kernel_rfl) (by kernel_rfl)
theorem reads (os : Os) {H : Type} (enc : TypeId × Value → H) : ∃ places, DataW.whole enc Try.prog ((laidWorld os).forCall (fun _ _ => 0) ⟨#[], #[.slice none 0 0, .string ByteArray.empty], []⟩).memory Try.f5.params.toList Rows.wireBackSpec.vars false (#[.slice none 0 0, .string ByteArray.empty] : Array Value).toList 8
    = some ([.nil, .lit (.string [])], [], places) :=
  ⟨[], by kernel_rfl⟩

set_option maxRecDepth 100000 in
theorem lifted (os : Os) (started : os.Started) (H : Type) (enc : TypeId × Value → H) (F : Stop.Interp) :
    ReturnsInHanded {} Try.checked os 5 .any ((OpenSpec.ofChange Rows.wireBackSpec).preRow enc Try.prog Try.f5 Rows.wireBackRow.domain false Rows.wireBackRow.laid) (((OpenSpec.ofChange Rows.wireBackSpec).at F).post enc Try.prog Try.f5 false true false false) := by
  obtain ⟨places, hx⟩ := reads os enc
  refine returnsInHanded_of_row (C := Try.checked) (s := OpenSpec.ofChange Rows.wireBackSpec) own started (by kernel_rfl) Try.func5
    (witness_row_at (enc := enc) (C := Try.checked) false (laidWorld os) #[.slice none 0 0, .string ByteArray.empty] rfl (by kernel_rfl) (by kernel_rfl) (by kernel_rfl)
      (OpenSpec.preRow_of_cond 8 hx (by kernel_rfl) (fun k hk => by cases hk) (by kernel_rfl) (laid_met os))) ?_
  intro W base args ds gs before hval hW _ _ _ hL _ _
  exact contract H enc W base args ds gs before hval hW hL

theorem said : Rows.WireBackSaid :=
  OpenClaim.holds_of_cond 5 Try.f5 rfl rfl rfl rfl rfl rfl rfl ⟨rfl, rfl, rfl, rfl, rfl⟩ rfl rfl rfl rfl rfl (by kernel_rfl) Try.func5 (by kernel_rfl)
    (of_decide_eq_true (by kernel_rfl)) (by unfold Func.isWrapper; first | (rw [if_pos (by decide +kernel)]; kernel_rfl) | (rw [if_neg (by decide +kernel)]; exact ⟨rfl, rfl⟩))
    (fun os started H enc _ F => by rw [OpenClaim.pre_eq_preRow]; exact lifted os started H enc F)


end WireBack
theorem wireBack_said : Rows.WireBackSaid := WireBack.said
end Go.Proofs.Ytijhlgfogeldcaa
