/-
  For every secret, text and list of numbers: as bytes, sealed with keys out of the secret, they are opened, and read as they were (law SealwaxLetter); without conditions.
-/
import Derived.Test.YtlifdngnhbcdiaaDoorLAead
import Derived.Test.YtlifdngnhbcdiaaDoorLActs
import Derived.Test.YtlifdngnhbcdiaaDoorWireA
import Derived.Test.YtlifdngnhbcdiaaDoorMacExp
import Derived.Test.YtlifdngnhbcdiaaDoorLawKit
namespace Go.Proofs.YtlifdngnhbcdiaaDoor
open Go.ChangeShapes Go.WideShapes Go.ChangeAt Go.RowKit
open Go.Lib (hid)

theorem lWx_nums8_drop (L : List Int) (k : Nat) (h : k < L.length) : Wx.nums8 (L.drop k) = Wx.num8 (L.getD k 0).toNat ++ Wx.nums8 (L.drop (k + 1)) := by
  rw [List.drop_eq_getElem_cons h]
  simp only [Wx.nums8, List.map_cons, List.flatten_cons]
  rw [List.getD_eq_getElem?_getD, List.getElem?_eq_getElem h, Option.getD_some]
theorem lIntsB_take {w : World} {ao : Option Addr} {L : List Int} (h : IntsB w ao L) (m : Nat) : IntsB w ao (L.take m) := by
  intro i hi
  rw [List.length_take] at hi
  obtain ⟨sb, so, ha, hc⟩ := h i (by omega)
  refine ⟨sb, so, ha, ?_⟩
  rw [hc]
  simp only [List.getD_eq_getElem?_getD]
  rw [List.getElem?_take_of_lt (by omega)]
set_option maxRecDepth 100000 in
theorem abc_no : (Sx.digest [97, 98, 99] == List.replicate 32 0) = false := by decide +kernel
/-- The row's list gives all tables. -/
theorem tabsL_of {W : World} (h : laidMetH Tryd.prog [("sealwax/poly.kept", Rows.laid_sealwax_poly_kept), ("sealwax/sha.first", Rows.laid_sealwax_sha_first), ("sealwax/sha.constants", Rows.laid_sealwax_sha_constants), ("sealwax/stream.quarters", Rows.laid_sealwax_stream_quarters)] W) : Tabs W ∧ TabK W ∧ TabQ W := by
  have h' : laidMet Tryd.prog [("sealwax/poly.kept", Rows.laid_sealwax_poly_kept), ("sealwax/sha.first", Rows.laid_sealwax_sha_first), ("sealwax/sha.constants", Rows.laid_sealwax_sha_constants), ("sealwax/stream.quarters", Rows.laid_sealwax_stream_quarters)] W := h
  have h2 := laidMet.tail h'
  have h3 := laidMet.tail h2
  have h4 := laidMet.tail h3
  refine ⟨?_, ?_, tabq_of h4⟩
  · rw [dataH] at h2
    rw [dataK] at h3
    have t1 := Lib.tabIs_of_head gH gHType Tryd.underlying51 Tryd.underlying50 cells34 cells35 h2
    have t2 := Lib.tabIs_of_head gK gKType Tryd.underlying109 Tryd.underlying50 cells34 cells67 h3
    refine ⟨fun i hi => ?_, fun i hi => ?_⟩
    · rw [t2.cell gK i (by rw [List.length_map]; exact hi), getD_cast]
    · rw [t1.cell gH i (by rw [List.length_map]; exact hi), getD_cast]
  · rw [dataKp] at h'
    have t1 := Lib.tabIs_of_head gKp gKpType Tryd.underlying68 Tryd.underlying5 (by kernel_rfl) (by kernel_rfl) h'
    intro j v hj
    have hlt : j < Px.kept.length := by have := (List.getElem?_eq_some_iff.1 hj).1; rwa [ints_llen] at this
    rw [Nat.zero_add, t1.cell gKp j (by rw [List.length_map]; exact hlt), getD_cast, ← hj, Array.getElem?_toList, ints_get _ _ _ hlt]

namespace SealwaxLetter
/-- A world for the witnesses: the settled one, the tables holding what their initialisers lay. -/
noncomputable def laidWorld (os : Os) : World :=
  { World.holding Tryd.prog os ⟨#[], #[], []⟩ with heap := (((((World.holding Tryd.prog os ⟨#[], #[], []⟩).heap.modify 2 (relaid (ints .i64 Cx.flat))).modify 3 (relaid (ints .u8 Px.kept))).modify 0 (relaid (ints .u32 Sx.K))).modify 1 (relaid (ints .u32 Sx.H0))) }

set_option maxHeartbeats 4000000 in
set_option maxRecDepth 100000 in
theorem walk (s0 s1 : ByteArray) (hs0 : s0.size ≤ maxLen) (hs1 : s1.size ≤ maxLen) (ao : Option Addr) (L : List Int) (cap : Nat) (w : World) (hT : Tabs w ∧ TabK w ∧ TabQ w) (hA : IntsB w ao L) (hL : L.length ≤ cap) (hC : cap ≤ maxLen) (hB : ∀ n ∈ L, n ≤ 9223372036854775807) :
    Calls Tryd.prog 3 #[.string s0, .string s1, .slice ao L.length cap] w fun e w' => e = .returned (.bool true) ∧ Below w.heap.size w w' := by
  have HC0 := hid (fun wx => cut_any s0 60 wx hs0 (by omega))
  have HC1 := hid (fun wx => cut_any s1 150 wx hs1 (by omega))
  obtain ⟨a, haa⟩ : ∃ t, t = (nums s0).take 60 := ⟨_, rfl⟩
  obtain ⟨t, ht⟩ : ∃ t, t = (nums s1).take 150 := ⟨_, rfl⟩
  have ab : ∀ x ∈ a, x < 256 := by rw [haa]; exact fun x hx => nums_lt s0 x (List.mem_of_mem_take hx)
  have tb : ∀ x ∈ t, x < 256 := by rw [ht]; exact fun x hx => nums_lt s1 x (List.mem_of_mem_take hx)
  have al : a.length ≤ 60 := by rw [haa, List.length_take]; omega
  have tl : t.length ≤ 150 := by rw [ht, List.length_take]; omega
  rw [← haa, show ((60 : Nat) : Int) = 60 from rfl] at HC0
  rw [← ht, show ((150 : Nat) : Int) = 150 from rfl] at HC1
  obtain ⟨m, hm⟩ : ∃ m : Nat, m = min L.length 10 := ⟨_, rfl⟩
  have hmi : min (L.length : Int) 10 = (m : Int) := by omega
  have hmc : (m : Int) ≤ (cap : Int) := by omega
  have hLm : L.length ≤ 9223372036854775807 := Nat.le_trans hL hC
  have hCm : cap ≤ 9223372036854775807 := hC
  obtain ⟨M, hM⟩ : ∃ M, M = L.take m := ⟨_, rfl⟩
  have hMl : M.length = m := by rw [hM, List.length_take]; omega
  have HA := hid (lIntsB_take hA m)
  rw [← hM] at HA
  have HMB := hid (show ∀ n ∈ M, n ≤ 9223372036854775807 from fun n hn => hB n (List.mem_of_mem_take (hM ▸ hn)))
  have hm10 : m ≤ 10 := by omega
  have HT := hid hT
  have HAB := hid (fun wx hx => of_one [97, 98, 99] (by decide) (by decide) wx hx 9)
  have heq := fun wx => eql_sums wx (Sx.digest [97, 98, 99]) (List.replicate 32 0) (digest_lt _) (by decide) (digest_length _) (by decide)
  rw [abc_no, show ints .u8 (List.replicate 32 0) = #[.int .u8 0, .int .u8 0, .int .u8 0, .int .u8 0, .int .u8 0, .int .u8 0, .int .u8 0, .int .u8 0, .int .u8 0, .int .u8 0, .int .u8 0, .int .u8 0, .int .u8 0, .int .u8 0, .int .u8 0, .int .u8 0, .int .u8 0, .int .u8 0, .int .u8 0, .int .u8 0, .int .u8 0, .int .u8 0, .int .u8 0, .int .u8 0, .int .u8 0, .int .u8 0, .int .u8 0, .int .u8 0, .int .u8 0, .int .u8 0, .int .u8 0, .int .u8 0] from rfl] at heq
  clear hA hB hM hC hs0 hs1 haa ht hT
  generalize Sx.digest [97, 98, 99] = DA at *
  go_enter Tryd.func3, Tryd.ntmps3
  go_wp2_with fail
  refine (HAB.out w HT.out.1).mono ?_
  rintro e w1 ⟨rfl, hb1⟩
  have HB1 := hid hb1
  clear hb1 HAB
  go_wp2_with fail
  refine (HC0.out _).mono ?_
  rintro e w2 ⟨rfl, hw2⟩
  obtain rfl : w1 = w2 := hw2
  go_wp2_with fail
  refine (HC1.out _).mono ?_
  rintro e w2 ⟨rfl, hw2⟩
  obtain rfl : w1 = w2 := hw2
  clear HC0 HC1 heq
  go_upto_region 6 with (fail)
  rw [← hm]
  have HO1 := hid (OutAt.zero w1)
  have hs0 := HB1.out.size
  have HB2 := hid (HB1.out.alloc hs0 (.cells #[.pointer none, .int .i64 0] 29))
  clear HB1
  generalize w1.alloc _ = w2 at *
  generalize w1.heap.size = o at *
  have HN := hid (fun wx hx hy => onum_any o [] ao cap M wx hx hy (by omega) HMB.out (by simp))
  rw [hMl, List.nil_append] at HN
  have hnl : (Wx.nums8 M).length = 8 * m := by rw [Wx.nums8_length, hMl]
  have HTX := hid (fun wb wx hx hy => otext_any o (Wx.nums8 M) (some ⟨wb, 0, none⟩) 1 [t] wx hx hy (by simp) (by simp; omega) (by omega))
  rw [show [t].length = 1 from rfl, show Wx.texts [t] = Wx.num8 t.length ++ t from by simp [Wx.texts]] at HTX
  have hYb : ∀ c ∈ Wx.num8 t.length ++ t, c < 256 := by
    intro c hc
    rcases List.mem_append.1 hc with h | h
    · exact Wx.num8_lt _ c h
    · exact tb c h
  have hYl : (Wx.num8 t.length ++ t).length ≤ 158 := by rw [List.length_append, Wx.num8_length]; omega
  have hPb : ∀ c ∈ Wx.nums8 M ++ (Wx.num8 t.length ++ t), c < 256 := by
    intro c hc
    rcases List.mem_append.1 hc with h | h
    · exact Wx.nums8_lt M c h
    · exact hYb c h
  have hPl : (Wx.nums8 M ++ (Wx.num8 t.length ++ t)).length ≤ 238 := by rw [List.length_append]; omega
  have HBY := hid (fun wx hx => obytes_any o (Wx.nums8 M ++ (Wx.num8 t.length ++ t)) wx hx hPb (by omega))
  have hit := Wx.itext_text t [] (by omega) 0
  rw [List.append_nil] at hit
  have HTb := hid (fun b wx hx => itext_any b (Wx.num8 t.length ++ t) 0 wx hx hYb)
  rw [hit] at HTb
  have HNb := hid (fun b k (hk : k < M.length) wx hx => inum_any b (Wx.nums8 (M.drop k) ++ (Wx.num8 t.length ++ t)) 0 wx hx (by
    intro c hc
    rcases List.mem_append.1 hc with h | h
    · exact Wx.nums8_lt _ c h
    · exact hYb c h))
  have HEb := hid (fun b wx hx => iend_any b [] 0 wx hx)
  rw [if_pos rfl] at HEb
  have HMB2 := hid (show ∀ k, k < M.length → Wx.inum (Wx.nums8 (M.drop k) ++ (Wx.num8 t.length ++ t)) 0 = ((Wx.nums8 (M.drop (k + 1)) ++ (Wx.num8 t.length ++ t), 0), (M.getD k 0).toNat) from by
    intro k hk
    rw [lWx_nums8_drop M k hk, List.append_assoc, Wx.inum_num8 _ (by
      have := HMB.out (M.getD k 0) (by rw [List.getD_eq_getElem?_getD, List.getElem?_eq_getElem hk, Option.getD_some]; exact List.getElem_mem hk)
      omega)])
  have HML := hid hMl
  clear hit hnl tb hmi hmc hm hL hLm hCm hMl hYb hYl
  generalize Wx.num8 t.length ++ t = Y at *
  obtain ⟨P, hP⟩ : ∃ P, P = Wx.nums8 M ++ Y := ⟨_, rfl⟩
  rw [← hP] at HBY hPb hPl HTX
  have HP := hid hP
  clear hP
  have HDK := hid (fun wx hx => derive_any [115, 97, 108, 116] a [108, 101, 116, 116, 101, 114] 32 (by decide) (by decide) ab (by omega) (by decide) (by decide) wx hx)
  have HDN := hid (fun wx hx => derive_any [115, 97, 108, 116] a [110, 111, 110, 99, 101] 12 (by decide) (by decide) ab (by omega) (by decide) (by decide) wx hx)
  have hkb := Sx.expand_lt (Sx.hmac [115, 97, 108, 116] a) [108, 101, 116, 116, 101, 114] (Sx.clamp 32)
  have hnb := Sx.expand_lt (Sx.hmac [115, 97, 108, 116] a) [110, 111, 110, 99, 101] (Sx.clamp 12)
  generalize Sx.expand (Sx.hmac [115, 97, 108, 116] a) [108, 101, 116, 116, 101, 114] (Sx.clamp 32) = k0 at *
  generalize Sx.expand (Sx.hmac [115, 97, 108, 116] a) [110, 111, 110, 99, 101] (Sx.clamp 12) = n0 at *
  have HKO := hid (fun wx => keyof_any k0 hkb wx)
  have HNO := hid (fun wx => nonceof_any n0 hnb wx)
  have kl := Cx.padL_length k0 32
  have nl := Cx.padL_length n0 12
  have kb := Cx.padL_lt k0 32 hkb
  have nb := Cx.padL_lt n0 12 hnb
  generalize Cx.padL k0 32 = key at *
  generalize Cx.padL n0 12 = nonce at *
  have HSE := hid (fun wx hx hy => aseal_any key nonce a P kb kl nb nl ab (by omega) hPb (by omega) wx hx hy)
  have HOP := hid (fun wx hx hy => aopen_any key nonce a (Ax.sealed key nonce a P) kb kl nb nl ab (by omega) (Ax.sealed_lt key nonce a P hPb) (by rw [Ax.sealed_length]; omega) wx hx hy)
  rw [Ax.opened_sealed, show Ax.openedV (some P) = .tuple #[.string (str P), .bool true] from rfl] at HOP
  have hze : (str (Ax.sealed key nonce a P)).size = P.length + 16 := by rw [str_size, Ax.sealed_length]
  have hzp := str_size P
  have szk : (ints .u8 key).size = 32 := by rw [ints_size, kl]
  have szn : (ints .u8 nonce).size = 12 := by rw [ints_size, nl]
  have HST := hid (fun wx => strs_one wx t 9)
  have HOF := hid (fun wx => wof_any (str P) wx)
  have HINW := hid (fun wx => InAt.new wx P)
  clear kb nb kl nl hkb hnb hPb ab
  generalize str (Ax.sealed key nonce a P) = SE at *
  generalize str P = SP at *
  generalize str k0 = SK at *
  generalize str n0 = SN at *
  generalize str a = SA at *
  generalize str t = ST at *
  go_wp2_with fail
  refine (HN.out _ HO1.out (HA.out.below HB2.out)).mono ?_
  rintro e w3 ⟨rfl, ho3, hk3⟩
  have HO3 := hid (ho3.below ((Below.refl _ w3).alloc (Nat.le_refl _) (.cells #[.string ST] 9)))
  have HB3 := hid (HB2.out.trans (hk3.below hs0 HB2.out.size))
  clear ho3 hk3 HO1 HB2 HN
  go_wp2_with fail
  refine (HTX.out _ _ HO3.out (HST.out w3)).mono ?_
  rintro e w4 ⟨rfl, ho4, hk4⟩
  have HB4 := hid (show Below w.heap.size w w4 from (HB3.out.alloc HB3.out.size (.cells #[.string ST] 9)).trans (hk4.below hs0 (HB3.out.alloc HB3.out.size (.cells #[.string ST] 9)).size))
  have HO4 := hid ho4
  clear ho4 hk4 HO3 HB3 HTX HST
  go_wp2_with fail
  refine (HBY.out _ HO4.out).mono ?_
  rintro e w5 ⟨rfl, hb5⟩
  have HB5 := hid (HB4.out.trans (hb5.mono HB4.out.size))
  clear hb5 HB4 HO4 HBY
  go_wp2_with fail
  refine (HDK.out w5 (HT.out.1.below HB5.out (Nat.le_refl _))).mono ?_
  rintro e w6 ⟨rfl, hb6⟩
  have HB6 := hid (HB5.out.next (Nat.le_refl _) hb6)
  clear hb6 HB5 HDK
  go_wp2_with fail
  refine (HKO.out w6).mono ?_
  rintro e w7 ⟨rfl, hb7⟩
  have HB7 := hid (HB6.out.next (Nat.le_refl _) hb7)
  clear hb7 HB6 HKO
  go_upto_region 8 with (refine wpList_store_row rfl _ _ _ rfl w7.heap.size _ rfl rfl _ _ (heap_alloc_new _ _) (by rw [szk]; exact info23) (by rw [szk]; rfl) (ints_one _ _) ?_)
  generalize hw8 : (w7.alloc _).setRow _ _ = w8
  have hb8 : Below w7.heap.size w7 w8 := by rw [← hw8]; exact below_setRow ((Below.refl _ _).alloc (Nat.le_refl _) _) (Nat.le_refl _) _
  have RK8 := hid (show Row w8 w7.heap.size .u8 34 key from by rw [← hw8]; exact setRow_heap _ _ _ _ _ _ (heap_alloc_new _ _))
  have HB8 := hid (HB7.out.next (Nat.le_refl _) hb8)
  clear hw8 hb8 HB7
  generalize w7.heap.size = qk at *
  go_wp2_with fail
  refine (HDN.out w8 (HT.out.1.below HB8.out (Nat.le_refl _))).mono ?_
  rintro e w9 ⟨rfl, hb9⟩
  have HB9 := hid (HB8.out.next (Nat.le_refl _) hb9)
  have RK9 := hid (RK8.out.below hb9 RK8.out.lt)
  clear hb9 HB8 RK8 HDN
  go_wp2_with fail
  refine (HNO.out w9).mono ?_
  rintro e wa ⟨rfl, hba⟩
  have HBA := hid (HB9.out.next (Nat.le_refl _) hba)
  have RKA := hid (RK9.out.below hba RK9.out.lt)
  clear hba HB9 RK9 HNO
  go_upto_region 9 with (refine wpList_store_row rfl _ _ _ rfl wa.heap.size _ rfl rfl _ _ (heap_alloc_new _ _) (by rw [szn]; exact info26) (by rw [szn]; rfl) (ints_one _ _) ?_)
  generalize hwb : (wa.alloc _).setRow _ _ = wb
  have hbb : Below wa.heap.size wa wb := by rw [← hwb]; exact below_setRow ((Below.refl _ _).alloc (Nat.le_refl _) _) (Nat.le_refl _) _
  have RKB := hid (RKA.out.below hbb RKA.out.lt)
  have RNB := hid (show Row wb wa.heap.size .u8 38 nonce from by rw [← hwb]; exact setRow_heap _ _ _ _ _ _ (heap_alloc_new _ _))
  have HBB := hid (HBA.out.next (Nat.le_refl _) hbb)
  clear hwb hbb HBA RKA
  generalize wa.heap.size = qn at *
  go_wp2_with (first
    | (refine wpList_load_row rfl _ _ rfl qk rfl _ _ _ _ RKB.out Tryd.underlying34 rfl (by rw [szk]; exact info23) ?_)
    | (refine wpList_load_row rfl _ _ rfl qn rfl _ _ _ _ RNB.out Tryd.underlying38 rfl (by rw [szn]; exact info26) ?_))
  refine (HSE.out wb (HT.out.2.2.below HBB.out (Nat.le_refl _)) (HT.out.2.1.below HBB.out (Nat.le_refl _))).mono ?_
  rintro e wc ⟨rfl, hbc⟩
  have HBC := hid (HBB.out.next (Nat.le_refl _) hbc)
  have RKC := hid (RKB.out.below hbc RKB.out.lt)
  have RNC := hid (RNB.out.below hbc RNB.out.lt)
  clear hbc HBB RKB RNB HSE
  go_wp2_with (first
    | (refine wpList_load_row rfl _ _ rfl qk rfl _ _ _ _ RKC.out Tryd.underlying34 rfl (by rw [szk]; exact info23) ?_)
    | (refine wpList_load_row rfl _ _ rfl qn rfl _ _ _ _ RNC.out Tryd.underlying38 rfl (by rw [szn]; exact info26) ?_))
  refine (HOP.out wc (HT.out.2.2.below HBC.out (Nat.le_refl _)) (HT.out.2.1.below HBC.out (Nat.le_refl _))).mono ?_
  rintro e wd ⟨rfl, hbd⟩
  have HBD := hid (HBC.out.next (Nat.le_refl _) hbd)
  clear hbd HBC RKC RNC HOP
  go_wp2_with fail
  refine (HOF.out wd).mono ?_
  rintro e we ⟨rfl, hwe⟩
  rw [hwe]
  clear hwe we
  have HI6 := hid (HINW.out wd)
  rw [HP.out] at HI6
  have hs5 := HBD.out.size
  have HB6 := hid (HBD.out.alloc hs5 (.cells #[.string SP, .int .i64 0] 74))
  clear HOF HINW HP hze hzp szk szn HBD
  generalize wd.alloc _ = wf at *
  generalize wd.heap.size = b at *
  go_upto_region 17 with (fail)
  go_loopw [16, 78] (fun _ i wr => ∃ k : Nat, k ≤ m ∧ i = .int .i64 k ∧ InAt wr b (Wx.nums8 (M.drop k) ++ Y, 0) ∧ Below w.heap.size w wr)
    (fun _ i _ => m - (intOf i).toNat)
  case atStart => exact ⟨0, by omega, rfl, HI6.out, HB6.out⟩
  case round =>
    clear HI6 HB6
    obtain ⟨k, hk, rfl, hin, hbel⟩ := hrel
    by_cases hlt : k < m
    · have hlt2 : k < M.length := by rw [HML.out]; exact hlt
      obtain ⟨sb, so, hao, hc⟩ := HA.out.below hbel k hlt2
      subst hao
      have HNU := hid (HNb.out b k hlt2 wr hin)
      rw [HMB2.out k hlt2] at HNU
      have HBL := hid hbel
      generalize M.getD k 0 = n at *
      have hmx : max 0 n = (n.toNat : Int) := by omega
      generalize n.toNat = v at *
      clear hin hbel hlt2
      go_wp2_with (go_at_call 15; refine HNU.out.mono ?_; rintro r w7 ⟨rfl, hi7, hk7⟩)
      go_roundw
      case rel =>
        first
          | exact ⟨k + 1, by omega, by go_num, hi7, HBL.out.trans (hk7.below hs5 HBL.out.size)⟩
          | ((repeat apply Exists.intro); refine ⟨?_, rfl⟩; exact ⟨k + 1, by omega, by go_num, hi7, HBL.out.trans (hk7.below hs5 HBL.out.size)⟩)
      case measure => simp [intOf]; omega
    · obtain rfl : k = m := by omega
      rw [← HML.out, List.drop_length] at hin
      have hin' : InAt wr b (Y, 0) := hin
      have HIN := hid hin'
      have HBL := hid hbel
      clear hin hin' hbel
      go_wp2_with (first
        | (go_at_call 16; refine (HTb.out _ _ HIN.out).mono ?_; rintro r w7 ⟨rfl, hi7, hk7⟩)
        | (go_at_call 17; refine (HEb.out _ _ hi7).mono ?_; rintro r w9 ⟨rfl, rfl⟩))
      go_ret
      exact ⟨rfl, HBL.out.trans (hk7.below hs5 HBL.out.size)⟩


set_option maxRecDepth 100000 in
theorem contract (H : Type) (enc : TypeId × Value → H) (W : World) (base : Nat) (args : Array Value) (ds gs : List (DataW H)) (before : List MemPlace)
    (hval : ∀ (j : Nat) t v, Tryd.f3.params[j]? = some t → args[j]? = some v → Value.okWide Tryd.prog W .any base t v)
    (hW : DataW.Whole enc Tryd.prog Tryd.f3.params.toList Rows.sealwaxLetterSpec.vars false W args.toList ds gs before) (hL : laidMetH Tryd.prog Rows.sealwaxLetterRow.laid W) :
    Calls Tryd.prog 3 args W fun e W' => ∃ v, e = .returned v ∧ Rows.sealwaxLetterSpec.post enc Tryd.prog Tryd.f3 false true false false W args v W' := by
  have hW' := hW
  obtain ⟨p, q, hA0, hV, rfl, hfz, hnd⟩ := hW
  have hA : DataW.TrodAll enc Tryd.prog W 0 (fun _ => true) true Tryd.f3.params.toList args.toList ds p := hA0
  rw [Tryd.params3] at hA hval
  obtain ⟨v0, vs0, d0, ds0, p0, q0, hargs, rfl, rfl, h0, r0⟩ := trodAll_cons hA
  obtain ⟨v1, vs1, d1, ds1, p1, q1, rfl, rfl, rfl, h1, r1⟩ := trodAll_cons r0
  obtain ⟨v2, vs2, d2, ds2, p2, q2, rfl, rfl, rfl, h2, r2⟩ := trodAll_cons r1
  obtain ⟨rfl, rfl, rfl⟩ := trodAll_nil r2
  obtain rfl : args = #[v0, v1, v2] := by cases args; simp_all
  obtain ⟨s0, rfl, rfl, rfl, hs0⟩ := Go.ChangeMaps.open_string Tryd.underlying9 (hval 0 9 v0 rfl rfl) h0
  obtain ⟨s1, rfl, rfl, rfl, hs1⟩ := Go.ChangeMaps.open_string Tryd.underlying9 (hval 1 9 v1 rfl rfl) h1
  obtain ⟨ao2, L2, cap2, rfl, hR2, hL2, hC2, hb2⟩ := open_is2 (hval 2 22 v2 rfl rfl) h2
  refine (walk s0 s1 hs0 hs1 ao2 L2 cap2 W (tabsL_of hL) hR2 hL2 hC2 hb2).mono fun e W' ⟨he, hb⟩ => ?_
  subst he
  exact ⟨_, rfl, law_post rfl rfl (by rw [Tryd.params3]; decide +kernel) hW' rfl hb⟩

theorem laid_met (os : Os) : laidMet Tryd.prog Rows.sealwaxLetterRow.laid ((laidWorld os).forCall (fun _ _ => 0) ⟨#[], #[.string ByteArray.empty, .string ByteArray.empty, .slice none 0 0], []⟩).memory :=
  laidMet_of_run' 8 (by kernel_rfl) (by kernel_rfl)
theorem reads (os : Os) {H : Type} (enc : TypeId × Value → H) : ∃ places, DataW.whole enc Tryd.prog ((laidWorld os).forCall (fun _ _ => 0) ⟨#[], #[.string ByteArray.empty, .string ByteArray.empty, .slice none 0 0], []⟩).memory Tryd.f3.params.toList Rows.sealwaxLetterSpec.vars false (#[.string ByteArray.empty, .string ByteArray.empty, .slice none 0 0] : Array Value).toList 8
    = some ([.lit (.string []), .lit (.string []), .nil], [], places) :=
  ⟨[], by kernel_rfl⟩

set_option maxRecDepth 100000 in
theorem lifted (os : Os) (started : os.Started) (H : Type) (enc : TypeId × Value → H) (F : Stop.Interp) :
    ReturnsInHanded {} Tryd.checked os 3 .any ((OpenSpec.ofChange Rows.sealwaxLetterSpec).preRow enc Tryd.prog Tryd.f3 Rows.sealwaxLetterRow.domain false Rows.sealwaxLetterRow.laid) (((OpenSpec.ofChange Rows.sealwaxLetterSpec).at F).post enc Tryd.prog Tryd.f3 false true false false) := by
  obtain ⟨places, hx⟩ := reads os enc
  refine returnsInHanded_of_row (C := Tryd.checked) (s := OpenSpec.ofChange Rows.sealwaxLetterSpec) own started (by kernel_rfl) Tryd.func3
    (witness_row_at (enc := enc) (C := Tryd.checked) false (laidWorld os) #[.string ByteArray.empty, .string ByteArray.empty, .slice none 0 0] rfl (by kernel_rfl) (by kernel_rfl) (by kernel_rfl)
      (OpenSpec.preRow_of_cond 8 hx (by kernel_rfl) (fun k hk => by cases hk) (by kernel_rfl) (laid_met os))) ?_
  intro W base args ds gs before hval hW _ _ _ hL _ _
  exact contract H enc W base args ds gs before hval hW hL

theorem said : Rows.SealwaxLetterSaid :=
  OpenClaim.holds_of_cond 3 Tryd.f3 rfl rfl rfl rfl rfl rfl rfl ⟨rfl, rfl, rfl, rfl, rfl⟩ rfl rfl rfl rfl rfl (by kernel_rfl) Tryd.func3 (by kernel_rfl)
    (of_decide_eq_true (by kernel_rfl)) (by unfold Func.isWrapper; first | (rw [if_pos (by decide +kernel)]; kernel_rfl) | (rw [if_neg (by decide +kernel)]; exact ⟨rfl, rfl⟩))
    (fun os started H enc _ F => by rw [OpenClaim.pre_eq_preRow]; exact lifted os started H enc F)

theorem plain (f : FuncId) (fn : Func) (hf : Tryd.pinned.checked.prog.funcNamed "sealwax/sealwaxtop.SealwaxLetter" = some f) (hfn : Tryd.pinned.checked.prog.funcs[f]? = some fn) :
    false = Tryd.pinned.checked.prog.looks [] ∧ ∀ (j : Nat) t, fn.params[j]? = some t → Tryd.pinned.checked.prog.wantsStandIn t = false := by
  obtain rfl : f = 3 := Option.some.inj ((show Tryd.prog.funcNamed "sealwax/sealwaxtop.SealwaxLetter" = some 3 by kernel_rfl).symm.trans hf) |>.symm
  obtain rfl : fn = Tryd.f3 := (Option.some.inj (Tryd.func3.symm.trans hfn)).symm
  refine ⟨by kernel_rfl, fun j t ht => ?_⟩
  rw [Tryd.params3] at ht
  have hmem := Array.mem_of_getElem? ht
  exact (show ∀ t ∈ (Tryd.f3.params), Tryd.prog.wantsStandIn t = false from by rw [Tryd.params3]; decide +kernel) t (by rw [Tryd.params3]; exact hmem)

theorem card : Rows.SealwaxLetterCardSaid :=
  Claim7.holds_tied_plain_at .later [] _ _ _ _ said (fun _ h => by cases h) (by kernel_rfl) (fun _ h => by cases h) sealwaxLetter_row_tie rfl ⟨rfl, rfl⟩ (by kernel_rfl) rfl plain (by kernel_rfl)

end SealwaxLetter
theorem sealwaxLetter_card : Rows.SealwaxLetterCardSaid := SealwaxLetter.card
end Go.Proofs.YtlifdngnhbcdiaaDoor
