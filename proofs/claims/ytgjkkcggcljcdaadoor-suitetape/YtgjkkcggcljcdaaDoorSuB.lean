/-
  Su7, Su8 in one text.
-/
import Derived.Test.YtgjkkcggcljcdaaDoorSuA
import Derived.Test.YtgjkkcggcljcdaaDoorSu4
import Derived.Test.YtgjkkcggcljcdaaDoorMacExp
import Derived.Test.YtgjkkcggcljcdaaDoorLAead
/-
  Layer 8: a real suite: its keys, Seal and Open.
-/
namespace Go.Proofs.YtgjkkcggcljcdaaDoor
open Go.ChangeShapes Go.WideShapes Go.ChangeAt Go.RowKit
open Go.Lib (hid)

def salt7 : List Nat := [115, 101, 97, 108, 119, 97, 120]
set_option maxRecDepth 100000 in
theorem realf_any (k f : List Nat) (hk : ∀ x ∈ k, x < 256) (hkl : k.length ≤ 1000) (hf : ∀ x ∈ f, x < 256) (hfl : f.length ≤ 1000) (kb : Nat) (t : TypeId) (fr : Nat × Nat) (w : World) (hT : Tabs w) (h : w.heap[kb]? = some (.cells #[.string (str k)] t fr)) :
    Calls Tryd.prog 33 #[.string (str f), .pointer (some ⟨kb, 0, none⟩)] w fun e w' => e = .returned (.string (str (Sx.expand (Sx.hmac salt7 k) f (Sx.clamp 32)))) ∧ Below w.heap.size w w' := by
  have HD := hid (derive_any salt7 k f 32 (by decide) (by decide) hk (by omega) hf (by omega) w hT)
  rw [show str salt7 = ⟨#[115, 101, 97, 108, 119, 97, 120]⟩ from rfl] at HD
  have c0 : w.cell? ⟨kb, 0, none⟩ = some (.string (str k)) := by rw [cell_of_row _ _ _ _ _ _ h]; rfl
  generalize Sx.expand (Sx.hmac salt7 k) f (Sx.clamp 32) = R at *
  clear h hT
  go_enter Tryd.func33, Tryd.ntmps33
  go_wp2_with (go_at_call 34; refine HD.out.mono ?_; rintro e w1 ⟨rfl, hb1⟩)
  go_ret
  exact ⟨rfl, hb1⟩
/-- The keys in memory. -/
def keysC (page : List Nat) (l m : ByteArray) : Array Value := ints .u8 page ++ #[.string l, .string m]
/-- Block b is a real suite with keys at q. -/
structure IsR (w : World) (b q : Nat) (page : List Nat) : Prop where
  row : w.heap[b]? = some (.cells #[.string ⟨#[]⟩, .int .i64 0, .map none, .map none, .map none, .pointer (some ⟨q, 0, none⟩)] 57 (0, 0))
  keys : ∃ l m, w.heap[q]? = some (.cells (keysC page l m) 62 (0, 0))
theorem IsR.below {w w' : World} {b q : Nat} {page : List Nat} (h : IsR w b q page) (hb : Below w.heap.size w w') : IsR w' b q page := by
  obtain ⟨l, m, hq⟩ := h.keys
  exact ⟨(hb.block b (Array.getElem?_eq_some_iff.1 h.row).1).trans h.row, l, m, (hb.block q (Array.getElem?_eq_some_iff.1 hq).1).trans hq⟩

theorem wpList_fill {P : Program} {w : World} {ops : Array Oper} {rest : List Oper} {o : Oper} {a : Act} {Q : Exit → Act → World → Prop} (hgd : o.guard = none) (ty : TypeId) (parts : Array (Nat × Operand)) (ho : o.op = .build ty parts)
    (vals : Array (Nat × Value)) (hv : (parts.map fun (i, x) => (i, a.eval x)) = vals) (cs : Array Value) (hc : (Instr.build ty vals).run P w = .ok (.agg cs) w)
    (h : wpList P ops Q rest (a.put o.dst (.agg cs)) w) : wpList P ops Q (o :: rest) a w := by
  refine wpList_plain hgd fun K hK => ?_
  unfold Oper.wp execOp
  simp only [ho, hv, Sem.run_bind, Sem.run_pure, Result.andThen_ok, hc]
  exact hK _ _ h
theorem su_list32 (r : List Nat) (h : r.length = 32) : ∃ a0 a1 a2 a3 a4 a5 a6 a7 a8 a9 a10 a11 a12 a13 a14 a15 a16 a17 a18 a19 a20 a21 a22 a23 a24 a25 a26 a27 a28 a29 a30 a31, r = [a0, a1, a2, a3, a4, a5, a6, a7, a8, a9, a10, a11, a12, a13, a14, a15, a16, a17, a18, a19, a20, a21, a22, a23, a24, a25, a26, a27, a28, a29, a30, a31] := by
  match r, h with
  | [a0, a1, a2, a3, a4, a5, a6, a7, a8, a9, a10, a11, a12, a13, a14, a15, a16, a17, a18, a19, a20, a21, a22, a23, a24, a25, a26, a27, a28, a29, a30, a31], _ => exact ⟨_, _, _, _, _, _, _, _, _, _, _, _, _, _, _, _, _, _, _, _, _, _, _, _, _, _, _, _, _, _, _, _, rfl⟩
theorem run_keys (w : World) (page : List Nat) (h : page.length = 32) (l m : ByteArray) : (Instr.build 62 #[(0, .agg (ints .u8 page)), (1, .string l), (2, .string m)]).run Tryd.prog w = .ok (.agg (keysC page l m)) w := by
  obtain ⟨a0, a1, a2, a3, a4, a5, a6, a7, a8, a9, a10, a11, a12, a13, a14, a15, a16, a17, a18, a19, a20, a21, a22, a23, a24, a25, a26, a27, a28, a29, a30, a31, rfl⟩ := su_list32 page h
  exact run_build w _ _ _ (by kernel_rfl)
theorem run_suiteR (w : World) (q : Nat) : (Instr.build 57 #[(1, .pointer (some ⟨q, 0, none⟩))]).run Tryd.prog w = .ok (.agg #[.string ⟨#[]⟩, .int .i64 0, .map none, .map none, .map none, .pointer (some ⟨q, 0, none⟩)]) w := run_build w _ _ _ (by kernel_rfl)

set_option maxHeartbeats 1000000 in
set_option maxRecDepth 100000 in
theorem real_any (k : List Nat) (hk : ∀ x ∈ k, x < 256) (hkl : k.length ≤ 1000) (w : World) (hT : Tabs w) :
    Calls Tryd.prog 17 #[.string (str k)] w fun e w' => ∃ b q page, e = .returned (.pointer (some ⟨b, 0, none⟩)) ∧ IsR w' b q page ∧ page.length = 32 ∧ (∀ x ∈ page, x < 256) ∧ Below w.heap.size w w' := by
  have HT := hid hT
  have HP := hid (fun kb wx hx hy => realf_any k [112, 97, 103, 101] hk hkl (by decide) (by decide) kb 9 (0, 0) wx hx hy)
  have HL := hid (fun kb wx hx hy => realf_any k [108, 97, 98, 101, 108] hk hkl (by decide) (by decide) kb 9 (0, 0) wx hx hy)
  have HM := hid (fun kb wx hx hy => realf_any k [109, 97, 99] hk hkl (by decide) (by decide) kb 9 (0, 0) wx hx hy)
  have hkb := Sx.expand_lt (Sx.hmac salt7 k) [112, 97, 103, 101] (Sx.clamp 32)
  generalize Sx.expand (Sx.hmac salt7 k) [112, 97, 103, 101] (Sx.clamp 32) = k0 at *
  generalize Sx.expand (Sx.hmac salt7 k) [108, 97, 98, 101, 108] (Sx.clamp 32) = k1 at *
  generalize Sx.expand (Sx.hmac salt7 k) [109, 97, 99] (Sx.clamp 32) = k2 at *
  have HKO := hid (fun wx => keyof_any k0 hkb wx)
  have kl := Cx.padL_length k0 32
  have kb := Cx.padL_lt k0 32 hkb
  generalize Cx.padL k0 32 = page at *
  obtain ⟨a0, a1, a2, a3, a4, a5, a6, a7, a8, a9, a10, a11, a12, a13, a14, a15, a16, a17, a18, a19, a20, a21, a22, a23, a24, a25, a26, a27, a28, a29, a30, a31, hpg⟩ := su_list32 page kl
  have HPG := hid (show ints .u8 page = #[.int .u8 (a0 : Nat), .int .u8 (a1 : Nat), .int .u8 (a2 : Nat), .int .u8 (a3 : Nat), .int .u8 (a4 : Nat), .int .u8 (a5 : Nat), .int .u8 (a6 : Nat), .int .u8 (a7 : Nat), .int .u8 (a8 : Nat), .int .u8 (a9 : Nat), .int .u8 (a10 : Nat), .int .u8 (a11 : Nat), .int .u8 (a12 : Nat), .int .u8 (a13 : Nat), .int .u8 (a14 : Nat), .int .u8 (a15 : Nat), .int .u8 (a16 : Nat), .int .u8 (a17 : Nat), .int .u8 (a18 : Nat), .int .u8 (a19 : Nat), .int .u8 (a20 : Nat), .int .u8 (a21 : Nat), .int .u8 (a22 : Nat), .int .u8 (a23 : Nat), .int .u8 (a24 : Nat), .int .u8 (a25 : Nat), .int .u8 (a26 : Nat), .int .u8 (a27 : Nat), .int .u8 (a28 : Nat), .int .u8 (a29 : Nat), .int .u8 (a30 : Nat), .int .u8 (a31 : Nat)] from by rw [hpg]; rfl)
  clear hpg
  rw [HPG.out] at HKO
  generalize str k0 = K0 at *
  generalize str k1 = K1 at *
  generalize str k2 = K2 at *
  clear hk hkl hT hkb
  go_enter Tryd.func17, Tryd.ntmps17
  go_upto_region 2 with (fail)
  have HB0 := hid (show Below w.heap.size w (w.alloc (.cells #[.string (str k)] 9)) from (Below.refl _ _).alloc (Nat.le_refl _) _)
  have HA0 := hid (heap_alloc_new w (.cells #[.string (str k)] 9))
  generalize w.alloc _ = w0 at *
  go_wp2_with fail
  refine (HP.out w.heap.size w0 (HT.out.below HB0.out (Nat.le_refl _)) HA0.out).mono ?_
  rintro e w1 ⟨rfl, hb1⟩
  have HB1 := hid (HB0.out.next (Nat.le_refl _) hb1)
  have HA1 := hid ((hb1.block _ (Array.getElem?_eq_some_iff.1 HA0.out).1).trans HA0.out)
  clear hb1 HB0 HA0 HP
  go_wp2_with fail
  refine (HKO.out w1).mono ?_
  rintro e w2 ⟨rfl, hb2⟩
  have HB2 := hid (HB1.out.next (Nat.le_refl _) hb2)
  have HA2 := hid ((hb2.block _ (Array.getElem?_eq_some_iff.1 HA1.out).1).trans HA1.out)
  clear hb2 HB1 HA1 HKO
  go_wp2_with fail
  refine (HL.out w.heap.size w2 (HT.out.below HB2.out (Nat.le_refl _)) HA2.out).mono ?_
  rintro e w3 ⟨rfl, hb3⟩
  have HB3 := hid (HB2.out.next (Nat.le_refl _) hb3)
  have HA3 := hid ((hb3.block _ (Array.getElem?_eq_some_iff.1 HA2.out).1).trans HA2.out)
  clear hb3 HB2 HA2 HL
  go_wp2_with fail
  refine (HM.out w.heap.size w3 (HT.out.below HB3.out (Nat.le_refl _)) HA3.out).mono ?_
  rintro e w4 ⟨rfl, hb4⟩
  have HB4 := hid (HB3.out.next (Nat.le_refl _) hb4)
  clear hb4 HB3 HA3 HM
  go_wp2
  go_ret
  refine ⟨w4.heap.size + 1, w4.heap.size, page, rfl, ⟨World.size_alloc w4 _ ▸ heap_alloc_new _ _, K1, K2, (Below.heap_alloc (w4.alloc _) _ _ (by rw [World.size_alloc]; omega)).trans ?_⟩, kl, kb, ?_⟩
  · unfold keysC
    rw [HPG.out]
    exact heap_alloc_new _ _
  · exact (HB4.out.alloc HB4.out.size _).alloc (HB4.out.alloc HB4.out.size _).size _
/-- A place as a nonce. -/
def nonceL (p : Nat × Nat) : List Nat := Cx.padL ((Wx.num8 p.1).drop 2 ++ (Wx.num8 p.2).drop 2) 12
theorem extract_num8 (n : Nat) : (str (Wx.num8 n)).extract 2 8 = str ((Wx.num8 n).drop 2) := by
  have h := extract_mid (Wx.num8 n) (Wx.num8_lt n) 2 6
  rw [List.take_of_length_le (by rw [List.length_drop, Wx.num8_length]; omega)] at h
  exact h

set_option maxHeartbeats 1000000 in
set_option maxRecDepth 100000 in
theorem nonce_any (p : Nat × Nat) (hp1 : p.1 ≤ 1099511627776) (hp2 : p.2 ≤ 1099511627776) (w : World) :
    Calls Tryd.prog 22 #[atV p] w fun e w' => e = .returned (.agg (ints .u8 (nonceL p))) ∧ Below w.heap.size w w' := by
  have HN1 := hid (fun wx => snumber_any p.1 (by omega) wx)
  have HN2 := hid (fun wx => snumber_any p.2 (by omega) wx)
  have hz1 : (str (Wx.num8 p.1)).size = 8 := by rw [str_size, Wx.num8_length]
  have hz2 : (str (Wx.num8 p.2)).size = 8 := by rw [str_size, Wx.num8_length]
  have hx1 := extract_num8 p.1
  have hx2 := extract_num8 p.2
  have hy1 : (str ((Wx.num8 p.1).drop 2)).size = 6 := by rw [str_size, List.length_drop, Wx.num8_length]
  have hy2 : (str ((Wx.num8 p.2).drop 2)).size = 6 := by rw [str_size, List.length_drop, Wx.num8_length]
  have HNO := hid (fun wx => nonceof_any ((Wx.num8 p.1).drop 2 ++ (Wx.num8 p.2).drop 2) (by
    intro c hc
    rcases List.mem_append.1 hc with h | h
    · exact Wx.num8_lt _ c (List.mem_of_mem_drop h)
    · exact Wx.num8_lt _ c (List.mem_of_mem_drop h)) wx)
  rw [← str_append] at HNO
  have hnl : (nonceL p).length = 12 := Cx.padL_length _ _
  rw [show Cx.padL ((Wx.num8 p.1).drop 2 ++ (Wx.num8 p.2).drop 2) 12 = nonceL p from rfl] at HNO
  generalize nonceL p = NL at *
  generalize str ((Wx.num8 p.1).drop 2) = D1 at *
  generalize str ((Wx.num8 p.2).drop 2) = D2 at *
  generalize str (Wx.num8 p.1) = S1 at *
  generalize str (Wx.num8 p.2) = S2 at *
  unfold atV
  go_enter Tryd.func22, Tryd.ntmps22
  go_upto_region 1 with (fail)
  have HA0 := hid (heap_alloc_new w (.cells #[.int .i64 (p.1 : Int), .int .i64 (p.2 : Int)] 33))
  have HB0 := hid (show Below w.heap.size w (w.alloc (.cells #[.int .i64 (p.1 : Int), .int .i64 (p.2 : Int)] 33)) from (Below.refl _ _).alloc (Nat.le_refl _) _)
  have hz0 : (w.alloc (.cells #[.int .i64 (p.1 : Int), .int .i64 (p.2 : Int)] 33)).heap.size = w.heap.size + 1 := World.size_alloc _ _
  generalize w.alloc _ = w0 at *
  have HA1 := hid ((Below.heap_alloc w0 (.cells #[.int .u8 0, .int .u8 0, .int .u8 0, .int .u8 0, .int .u8 0, .int .u8 0, .int .u8 0, .int .u8 0, .int .u8 0, .int .u8 0, .int .u8 0, .int .u8 0] 64) _ (by omega)).trans HA0.out)
  have HC1 := hid (show (w0.alloc (.cells #[.int .u8 0, .int .u8 0, .int .u8 0, .int .u8 0, .int .u8 0, .int .u8 0, .int .u8 0, .int .u8 0, .int .u8 0, .int .u8 0, .int .u8 0, .int .u8 0] 64)).heap[w.heap.size + 1]? = some (.cells #[.int .u8 0, .int .u8 0, .int .u8 0, .int .u8 0, .int .u8 0, .int .u8 0, .int .u8 0, .int .u8 0, .int .u8 0, .int .u8 0, .int .u8 0, .int .u8 0] 64 (0, 0)) from hz0 ▸ heap_alloc_new _ _)
  have HB1 := hid (HB0.out.alloc HB0.out.size (.cells #[.int .u8 0, .int .u8 0, .int .u8 0, .int .u8 0, .int .u8 0, .int .u8 0, .int .u8 0, .int .u8 0, .int .u8 0, .int .u8 0, .int .u8 0, .int .u8 0] 64))
  have hs1 : (w0.alloc (.cells #[.int .u8 0, .int .u8 0, .int .u8 0, .int .u8 0, .int .u8 0, .int .u8 0, .int .u8 0, .int .u8 0, .int .u8 0, .int .u8 0, .int .u8 0, .int .u8 0] 64)).heap.size = w.heap.size + 2 := by rw [World.size_alloc, hz0]
  clear HA0 HB0 hz0
  generalize w0.alloc _ = w1 at *
  refine wp_region_noPanic ?_
  refine wp_region_class (fun u => Below w1.heap.size w1 u) (by kernel_rfl) (by kernel_rfl) (Below.refl _ _).drew ?_
  intro Z φ hne hSφ hφ
  have HSZ := hid hSφ
  have C1 := hid (fun z => calls_class hφ ((HN1.out (φ z)).mono fun e w' h => ⟨h.1, (hSφ z).trans (h.2.mono (hSφ z).size)⟩))
  have C2 := hid (fun z => calls_class hφ ((HN2.out (φ z)).mono fun e w' h => ⟨h.1, (hSφ z).trans (h.2.mono (hSφ z).size)⟩))
  have cz0 : ∀ z, (φ z).cell? ⟨w.heap.size, 0, none⟩ = some (.int .i64 (p.1 : Int)) := fun z => by rw [cell_of_row _ _ _ _ _ _ (((hSφ z).block _ (by omega)).trans HA1.out)]; rfl
  have cz1 : ∀ z, (φ z).cell? ⟨w.heap.size, 1, none⟩ = some (.int .i64 (p.2 : Int)) := fun z => by rw [cell_of_row _ _ _ _ _ _ (((hSφ z).block _ (by omega)).trans HA1.out)]; rfl
  clear hSφ hφ
  repeat (go_big_quiet_step (first | (go_at_call 40; first | with_reducible exact C1.out _ | with_reducible exact C2.out _)))
  refine wpQuiet_nil ?_
  intro z
  have HB2 := hid (HSZ.out z)
  clear cz0 cz1 C1 C2 HSZ hne
  generalize φ z = w2 at *
  refine NoPanic.normal ?_
  go_upto_region 2 with (fail)
  refine wp_region_noPanic ?_
  refine wp_region_hd (fun u => Below w2.heap.size w2 u) 6 1 rfl (by kernel_rfl) (by kernel_rfl) ((Below.refl _ _).drew) (fun _ _ _ _ _ h => h) ?_
  intro Z φ hne hSφ hφ
  have HSZ := hid hSφ
  have C1 := hid (fun z => calls_class hφ ((HNO.out (φ z)).mono fun e w' h => ⟨h.1, (hSφ z).trans (h.2.mono (hSφ z).size)⟩))
  clear hSφ hφ
  simp only [List.take_succ_cons, List.take_zero, List.drop_succ_cons, List.drop_zero]
  repeat (go_big_quiet_step (first | (go_at_call 41; exact C1.out _)))
  refine wpQuiet_nil ?_
  intro z
  have HB3 := hid (HSZ.out z)
  clear C1 HSZ hne
  generalize φ z = w3 at *
  have hsz2 := HB2.out.size
  have hsz3 := HB3.out.size
  go_wp2_with (refine wpList_store_ints rfl _ _ _ rfl NL (by rw [hnl]; kernel_rfl) (w.heap.size + 1) rfl rfl _ _ ((HB3.out.block _ (by omega)).trans ((HB2.out.block _ (by omega)).trans HC1.out)) (by rw [hnl]; rfl) ?_; intro w4 hr4 hk4)
  refine NoPanic.normal ?_
  go_wp2
  have hszN : (ints .u8 NL).size = 12 := by rw [ints_size, hnl]
  refine bodyPost_ret (v := .agg _) (results_cell_row Tryd.results22 _ _ (w.heap.size + 1) _ _ _ _ rfl hr4 Tryd.underlying64 rfl (by rw [hszN]; kernel_rfl)) rfl ?_
  have hb3 : Below w.heap.size w w3 := (HB1.out.trans (HB2.out.mono (by omega))).trans (HB3.out.mono (by omega))
  exact ⟨rfl, hb3.trans (hk4.below (by omega) hb3.size)⟩
end Go.Proofs.YtgjkkcggcljcdaaDoor

/-
  Layer 8: Seal and Open of a real suite.
-/
namespace Go.Proofs.YtgjkkcggcljcdaaDoor
open Go.ChangeShapes Go.WideShapes Go.ChangeAt Go.RowKit
open Go.Lib (hid)

theorem nonceL_lt (p : Nat × Nat) : ∀ x ∈ nonceL p, x < 256 := Cx.padL_lt _ _ (by
  intro c hc
  rcases List.mem_append.1 hc with h | h
  · exact Wx.num8_lt _ c (List.mem_of_mem_drop h)
  · exact Wx.num8_lt _ c (List.mem_of_mem_drop h))
theorem keys_range {w : World} {q : Nat} {page : List Nat} {l m : ByteArray} {t : TypeId} {fr : Nat × Nat} (h : w.heap[q]? = some (.cells (keysC page l m) t fr)) : w.rangeAt q 0 (ints .u8 page).toList := by
  intro j v hj
  rw [cell_of_row w q (0 + j) _ _ _ h, Nat.zero_add]
  unfold keysC
  have hlt : j < (ints .u8 page).size := by
    have := (List.getElem?_eq_some_iff.1 hj).1
    simpa using this
  rw [Array.getElem?_append_left hlt]
  rw [← Array.getElem?_toList]
  exact hj
theorem info_key : (Tryd.prog.info? 60).map (·.size) = some 32 := by kernel_rfl
set_option maxHeartbeats 1000000 in
set_option maxRecDepth 100000 in
theorem rseal_any (b q : Nat) (page : List Nat) (hpl : page.length = 32) (hpb : ∀ x ∈ page, x < 256) (x y : Int) (ad pl : List Nat) (ha : ∀ x ∈ ad, x < 256) (hal : ad.length ≤ 10000) (hb : ∀ x ∈ pl, x < 256) (hbl' : pl.length ≤ 10000) (w : World) (hT : TabQ w) (hK : TabK w) (h : IsR w b q page) :
    Calls Tryd.prog 10 #[.pointer (some ⟨b, 0, none⟩), .agg #[.int .i64 x, .int .i64 y], .string (str ad), .string (str pl)] w fun e w' => e = .returned (.string (str (Ax.sealed page (nonceL (Iv.lim x, Iv.lim y)) ad pl))) ∧ Below w.heap.size w w' := by
  have HH := hid h
  have hbl := (Array.getElem?_eq_some_iff.1 h.row).1
  have HTQ := hid hT
  have HTK := hid hK
  have HL := hid (fun wx => atLimited_any x y wx)
  have hl1 := Iv.lim_le x
  have hl2 := Iv.lim_le y
  obtain ⟨p, hp⟩ : ∃ p, p = (Iv.lim x, Iv.lim y) := ⟨_, rfl⟩
  rw [← hp] at HL ⊢
  have HN := hid (fun wx => nonce_any p (by rw [hp]; exact hl1) (by rw [hp]; exact hl2) wx)
  have hnl : (nonceL p).length = 12 := Cx.padL_length _ _
  have hnb := nonceL_lt p
  generalize nonceL p = NL at *
  have szp : (ints .u8 page).toList.length = 32 := by rw [ints_llen, hpl]
  have HS := hid (fun wx hx hy => aseal_any page NL ad pl hpb hpl hnb hnl ha hal hb hbl' wx hx hy)
  generalize str (Ax.sealed page NL ad pl) = R at *
  generalize str ad = AD at *
  generalize str pl = PL at *
  clear hp h hl1 hl2 hT hK hpb ha hal hb hbl'
  go_enter Tryd.func10, Tryd.ntmps10
  go_upto_region 1 with (fail)
  have HB0 := hid (show Below w.heap.size w (w.alloc (.cells #[.int .i64 x, .int .i64 y] 33)) from (Below.refl _ _).alloc (Nat.le_refl _) _)
  have HA0 := hid (heap_alloc_new w (.cells #[.int .i64 x, .int .i64 y] 33))
  generalize w.alloc _ = w0 at *
  have e0 : w0.cell? ⟨w.heap.size, 0, none⟩ = some (.int .i64 x) := by rw [cell_of_row _ _ _ _ _ _ HA0.out]; rfl
  have e1 : w0.cell? ⟨w.heap.size, 1, none⟩ = some (.int .i64 y) := by rw [cell_of_row _ _ _ _ _ _ HA0.out]; rfl
  go_wp2_with fail
  refine (HL.out _).mono ?_
  rintro e w1 ⟨rfl, hb1⟩
  unfold atV
  have hlt := (Array.getElem?_eq_some_iff.1 HA0.out).1
  have HA1 := hid ((hb1.block _ hlt).trans HA0.out)
  have HB1 := hid (HB0.out.next (Nat.le_refl _) hb1)
  have f0 := frozen_of_row w1 w.heap.size 0 _ _ HA1.out
  have f1 := frozen_of_row w1 w.heap.size 1 _ _ HA1.out
  have g0 : w1.cell? ⟨w.heap.size, 0, none⟩ = some (.int .i64 x) := by rw [cell_of_row _ _ _ _ _ _ HA1.out]; rfl
  have g1 : w1.cell? ⟨w.heap.size, 1, none⟩ = some (.int .i64 y) := by rw [cell_of_row _ _ _ _ _ _ HA1.out]; rfl
  clear hb1 HA0 HB0 e0 e1 HL hlt
  go_upto_region 2 with (fail)
  generalize hW : World.setCell _ _ _ = w2
  have HA2 := hid (show w2.heap[w.heap.size]? = some (.cells #[.int .i64 (p.1 : Int), .int .i64 (p.2 : Int)] 33 (0, 0)) from by
    rw [← hW, heap_setCell_same _ _ _ _ _ _ (heap_setCell_same w1 w.heap.size 0 _ _ _ HA1.out)]; rfl)
  have HB2 := hid (show Below w.heap.size w w2 from by
    rw [← hW]; exact (HB1.out.setCell (p := ⟨w.heap.size, 0, none⟩) (Nat.le_refl _) _).setCell (p := ⟨w.heap.size, 1, none⟩) (Nat.le_refl _) _)
  clear hW f0 f1 g0 g1 HA1 HB1
  have H2 := hid (HH.out.below HB2.out)
  have c5 : w2.cell? ⟨b, 5, none⟩ = some (.pointer (some ⟨q, 0, none⟩)) := by rw [cell_of_row _ _ _ _ _ _ H2.out.row]; rfl
  have hsw2 := HB2.out.size
  have hx2 := (Array.getElem?_eq_some_iff.1 HA2.out).1
  go_wp2
  refine wp_region_class (fun u => Below w2.heap.size w2 u) (by kernel_rfl) (by kernel_rfl) (Below.refl _ _).drew ?_
  intro Z φ hne hSφ hφ
  have HSZ := hid hSφ
  have C1 := hid (fun z => calls_class hφ ((HN.out (φ z)).mono fun e w' h => ⟨h.1, (hSφ z).trans (h.2.mono (hSφ z).size)⟩))
  have HTQ2 := hid (HTQ.out.below HB2.out (Nat.le_refl _))
  have HTK2 := hid (HTK.out.below HB2.out (Nat.le_refl _))
  have C2 := hid (fun z => calls_class hφ ((HS.out (φ z) (HTQ2.out.below (hSφ z) (Nat.le_refl _)) (HTK2.out.below (hSφ z) (Nat.le_refl _))).mono fun e w' h => ⟨h.1, (hSφ z).trans (h.2.mono (hSφ z).size)⟩))
  have RK := hid (show ∀ u : World, (∃ z, u = φ z) → u.rangeAt q 0 (ints .u8 page).toList from fun u ⟨z, hz⟩ => by
    obtain ⟨l, m, hq⟩ := (H2.out.below (hSφ z)).keys
    rw [hz]
    exact keys_range hq)
  have cz0 : ∀ z, (φ z).cell? ⟨w.heap.size, 0, none⟩ = some (.int .i64 (p.1 : Int)) := fun z => by rw [cell_of_row _ _ _ _ _ _ (((hSφ z).block _ hx2).trans HA2.out)]; rfl
  have cz1 : ∀ z, (φ z).cell? ⟨w.heap.size, 1, none⟩ = some (.int .i64 (p.2 : Int)) := fun z => by rw [cell_of_row _ _ _ _ _ _ (((hSφ z).block _ hx2).trans HA2.out)]; rfl
  have cz5 : ∀ z, (φ z).cell? ⟨b, 5, none⟩ = some (.pointer (some ⟨q, 0, none⟩)) := fun z => by rw [cell_of_row _ _ _ _ _ _ (H2.out.below (hSφ z)).row]; rfl
  clear hSφ hφ c5
  unfold atV at C1
  repeat (go_big_quiet_step (fail))
  refine wpQuiet_load_arr rfl _ _ rfl q 0 rfl _ _ RK.out Tryd.underlying60 rfl (by rw [szp]; exact info_key) ?_
  simp only [Act.put, List.setIfInBounds_toArray, List.set_cons_zero, List.set_cons_succ]
  repeat (go_big_quiet_step (first | (go_at_call 22; exact C1.out _) | (go_at_call 21; exact C2.out _)))
  refine wpQuiet_nil ?_
  intro z
  have HB3 := hid (HSZ.out z)
  clear cz0 cz1 cz5 C1 C2 RK HSZ
  generalize φ z = w3 at *
  go_wp2
  go_ret
  exact ⟨rfl, HB2.out.trans (HB3.out.mono hsw2)⟩

set_option maxHeartbeats 1000000 in
set_option maxRecDepth 100000 in
theorem ropen_any (b q : Nat) (page : List Nat) (hpl : page.length = 32) (hpb : ∀ x ∈ page, x < 256) (x y : Int) (ad pl : List Nat) (ha : ∀ x ∈ ad, x < 256) (hal : ad.length ≤ 1000) (hb : ∀ x ∈ pl, x < 256) (hbl' : pl.length ≤ 1000) (w : World) (hT : TabQ w) (hK : TabK w) (h : IsR w b q page) :
    Calls Tryd.prog 11 #[.pointer (some ⟨b, 0, none⟩), .agg #[.int .i64 x, .int .i64 y], .string (str ad), .string (str (Ax.sealed page (nonceL (Iv.lim x, Iv.lim y)) ad pl))] w fun e w' => e = .returned (.tuple #[.string (str pl), .bool true]) ∧ Below w.heap.size w w' := by
  have HH := hid h
  have hbl := (Array.getElem?_eq_some_iff.1 h.row).1
  have HTQ := hid hT
  have HTK := hid hK
  have HL := hid (fun wx => atLimited_any x y wx)
  have hl1 := Iv.lim_le x
  have hl2 := Iv.lim_le y
  obtain ⟨p, hp⟩ : ∃ p, p = (Iv.lim x, Iv.lim y) := ⟨_, rfl⟩
  rw [← hp] at HL ⊢
  have HN := hid (fun wx => nonce_any p (by rw [hp]; exact hl1) (by rw [hp]; exact hl2) wx)
  have hnl : (nonceL p).length = 12 := Cx.padL_length _ _
  have hnb := nonceL_lt p
  generalize nonceL p = NL at *
  have szp : (ints .u8 page).toList.length = 32 := by rw [ints_llen, hpl]
  have HS := hid (fun wx hx hy => aopen_any page NL ad (Ax.sealed page NL ad pl) hpb hpl hnb hnl ha (by omega) (Ax.sealed_lt page NL ad pl hb) (by rw [Ax.sealed_length]; omega) wx hx hy)
  rw [Ax.opened_sealed, show Ax.openedV (some pl) = .tuple #[.string (str pl), .bool true] from rfl] at HS
  generalize str (Ax.sealed page NL ad pl) = R at *
  generalize str ad = AD at *
  generalize str pl = PL at *
  clear hp h hl1 hl2 hT hK hpb ha hal hb hbl'
  go_enter Tryd.func11, Tryd.ntmps11
  go_upto_region 1 with (fail)
  have HB0 := hid (show Below w.heap.size w (w.alloc (.cells #[.int .i64 x, .int .i64 y] 33)) from (Below.refl _ _).alloc (Nat.le_refl _) _)
  have HA0 := hid (heap_alloc_new w (.cells #[.int .i64 x, .int .i64 y] 33))
  generalize w.alloc _ = w0 at *
  have e0 : w0.cell? ⟨w.heap.size, 0, none⟩ = some (.int .i64 x) := by rw [cell_of_row _ _ _ _ _ _ HA0.out]; rfl
  have e1 : w0.cell? ⟨w.heap.size, 1, none⟩ = some (.int .i64 y) := by rw [cell_of_row _ _ _ _ _ _ HA0.out]; rfl
  go_wp2_with fail
  refine (HL.out _).mono ?_
  rintro e w1 ⟨rfl, hb1⟩
  unfold atV
  have hlt := (Array.getElem?_eq_some_iff.1 HA0.out).1
  have HA1 := hid ((hb1.block _ hlt).trans HA0.out)
  have HB1 := hid (HB0.out.next (Nat.le_refl _) hb1)
  have f0 := frozen_of_row w1 w.heap.size 0 _ _ HA1.out
  have f1 := frozen_of_row w1 w.heap.size 1 _ _ HA1.out
  have g0 : w1.cell? ⟨w.heap.size, 0, none⟩ = some (.int .i64 x) := by rw [cell_of_row _ _ _ _ _ _ HA1.out]; rfl
  have g1 : w1.cell? ⟨w.heap.size, 1, none⟩ = some (.int .i64 y) := by rw [cell_of_row _ _ _ _ _ _ HA1.out]; rfl
  clear hb1 HA0 HB0 e0 e1 HL hlt
  go_upto_region 2 with (fail)
  generalize hW : World.setCell _ _ _ = w2
  have HA2 := hid (show w2.heap[w.heap.size]? = some (.cells #[.int .i64 (p.1 : Int), .int .i64 (p.2 : Int)] 33 (0, 0)) from by
    rw [← hW, heap_setCell_same _ _ _ _ _ _ (heap_setCell_same w1 w.heap.size 0 _ _ _ HA1.out)]; rfl)
  have HB2 := hid (show Below w.heap.size w w2 from by
    rw [← hW]; exact (HB1.out.setCell (p := ⟨w.heap.size, 0, none⟩) (Nat.le_refl _) _).setCell (p := ⟨w.heap.size, 1, none⟩) (Nat.le_refl _) _)
  clear hW f0 f1 g0 g1 HA1 HB1
  have H2 := hid (HH.out.below HB2.out)
  have c5 : w2.cell? ⟨b, 5, none⟩ = some (.pointer (some ⟨q, 0, none⟩)) := by rw [cell_of_row _ _ _ _ _ _ H2.out.row]; rfl
  have hsw2 := HB2.out.size
  have hx2 := (Array.getElem?_eq_some_iff.1 HA2.out).1
  go_wp2
  refine wp_region_class (fun u => Below w2.heap.size w2 u) (by kernel_rfl) (by kernel_rfl) (Below.refl _ _).drew ?_
  intro Z φ hne hSφ hφ
  have HSZ := hid hSφ
  have C1 := hid (fun z => calls_class hφ ((HN.out (φ z)).mono fun e w' h => ⟨h.1, (hSφ z).trans (h.2.mono (hSφ z).size)⟩))
  have HTQ2 := hid (HTQ.out.below HB2.out (Nat.le_refl _))
  have HTK2 := hid (HTK.out.below HB2.out (Nat.le_refl _))
  have C2 := hid (fun z => calls_class hφ ((HS.out (φ z) (HTQ2.out.below (hSφ z) (Nat.le_refl _)) (HTK2.out.below (hSφ z) (Nat.le_refl _))).mono fun e w' h => ⟨h.1, (hSφ z).trans (h.2.mono (hSφ z).size)⟩))
  have RK := hid (show ∀ u : World, (∃ z, u = φ z) → u.rangeAt q 0 (ints .u8 page).toList from fun u ⟨z, hz⟩ => by
    obtain ⟨l, m, hq⟩ := (H2.out.below (hSφ z)).keys
    rw [hz]
    exact keys_range hq)
  have cz0 : ∀ z, (φ z).cell? ⟨w.heap.size, 0, none⟩ = some (.int .i64 (p.1 : Int)) := fun z => by rw [cell_of_row _ _ _ _ _ _ (((hSφ z).block _ hx2).trans HA2.out)]; rfl
  have cz1 : ∀ z, (φ z).cell? ⟨w.heap.size, 1, none⟩ = some (.int .i64 (p.2 : Int)) := fun z => by rw [cell_of_row _ _ _ _ _ _ (((hSφ z).block _ hx2).trans HA2.out)]; rfl
  have cz5 : ∀ z, (φ z).cell? ⟨b, 5, none⟩ = some (.pointer (some ⟨q, 0, none⟩)) := fun z => by rw [cell_of_row _ _ _ _ _ _ (H2.out.below (hSφ z)).row]; rfl
  clear hSφ hφ c5
  unfold atV at C1
  repeat (go_big_quiet_step (fail))
  refine wpQuiet_load_arr rfl _ _ rfl q 0 rfl _ _ RK.out Tryd.underlying60 rfl (by rw [szp]; exact info_key) ?_
  simp only [Act.put, List.setIfInBounds_toArray, List.set_cons_zero, List.set_cons_succ]
  repeat (go_big_quiet_step (first | (go_at_call 22; exact C1.out _) | (go_at_call 24; exact C2.out _)))
  refine wpQuiet_nil ?_
  intro z
  have HB3 := hid (HSZ.out z)
  clear cz0 cz1 cz5 C1 C2 RK HSZ
  generalize φ z = w3 at *
  go_wp2
  refine bodyPost_ret (results_tmp2 Tryd.results11 _ _ _) rfl ?_
  exact ⟨rfl, HB2.out.trans (HB3.out.mono hsw2)⟩

set_option maxRecDepth 100000 in
theorem rdrawn_any (b q : Nat) (page : List Nat) (w : World) (h : IsR w b q page) :
    Calls Tryd.prog 16 #[.pointer (some ⟨b, 0, none⟩)] w fun e w' => e = .returned (.int .i64 0) ∧ w' = w := by
  have c1 : w.cell? ⟨b, 1, none⟩ = some (.int .i64 0) := by rw [cell_of_row _ _ _ _ _ _ h.row]; rfl
  clear h
  go_enter Tryd.func16, Tryd.ntmps16
  go_wp2
  go_ret
  exact ⟨rfl, rfl⟩
end Go.Proofs.YtgjkkcggcljcdaaDoor
