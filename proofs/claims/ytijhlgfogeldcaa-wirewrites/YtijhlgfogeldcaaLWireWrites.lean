/-
  What is written is just the document's bytes (law WireWrites); for every input.
-/
import Derived.Test.YtijhlgfogeldcaaLActs
import Derived.Test.YtijhlgfogeldcaaRef6
namespace Go.Proofs.Ytijhlgfogeldcaa
open Go.ChangeShapes Go.WideShapes Go.ChangeAt Go.RowKit
open Go.Lib (hid)

theorem ints_two_at (w : World) (n m : Int) (t : TypeId) : IntsB (w.alloc (.cells #[.int .i64 n, .int .i64 m] t)) (some ⟨w.heap.size, 0, none⟩) [n, m] := by
  intro i hi
  obtain rfl | rfl : i = 0 ∨ i = 1 := by simp at hi; omega
  · exact ⟨_, _, rfl, cell_of_row _ _ _ _ _ _ (heap_alloc_new _ _)⟩
  · exact ⟨_, _, rfl, cell_of_row _ _ _ _ _ _ (heap_alloc_new _ _)⟩

theorem ptr_same (o : Nat) (wx : World) : (binOp .neq 30 (.pointer (some ⟨o, 0, none⟩)) (.pointer (some ⟨o, 0, none⟩))).run Try.prog wx = .ok (.bool false) wx := by
  obtain ⟨j, hj, _⟩ := Option.map_eq_some_iff.1 (show (Try.prog.info? 26).map (·.size) = some 2 from by kernel_rfl)
  exact Lib.run_neq_ptr_same wx _ Try.underlying30 hj

namespace WireWrites
set_option maxHeartbeats 2000000 in
set_option maxRecDepth 100000 in
theorem walk (ao : Option Addr) (L : List (Int × Int × ByteArray)) (cap : Nat) (w : World) (hA : ActsB w ao L) (hL : L.length ≤ maxLen) (hB : ∀ i, i < L.length → (L.getD i (0, 0, ByteArray.empty)).2.1 ≤ 9223372036854775807 ∧ (L.getD i (0, 0, ByteArray.empty)).2.2.size ≤ maxLen) :
    Calls Try.prog 3 #[.slice ao L.length cap] w fun e w' => e = .returned (.bool true) ∧ Below w.heap.size w w' := by
  have HA := hid hA
  have HB := hid hB
  have hLm : L.length ≤ 9223372036854775807 := hL
  clear hA hB hL
  have h0 : str [] = ⟨#[]⟩ := rfl
  go_enter Try.func3, Try.ntmps3
  go_upto_region 3 with (go_at_call 9; refine (awake6_any _).mono ?_; rintro e w0 ⟨rfl, hb0⟩)
  go_upto_region 6 with (fail)
  have HO1 := hid (OutAt.zero w0)
  have HB1 := hid (hb0.alloc hb0.size (.cells #[.pointer none, .int .i64 0] 26))
  have hs0 := hb0.size
  clear hb0
  generalize w0.alloc _ = w1 at *
  generalize w0.heap.size = o at *
  go_loopw [4, 5, 6, 7, 8] (fun v i _ _ _ wr => ∃ (k : Nat) (X : List Nat), k ≤ L.length ∧ i = .int .i64 k ∧ v = .string (str X) ∧ OutAt wr o X ∧ X.length ≤ 200 * k ∧ k ≤ 20 ∧ (∀ c ∈ X, c < 256) ∧ Below w.heap.size w wr)
    (fun _ i _ _ _ _ => L.length - (intOf i).toNat)
  case atStart => exact ⟨0, [], by omega, rfl, rfl, HO1.out, by simp, by omega, by simp, HB1.out⟩
  case round =>
    clear HO1 HB1
    obtain ⟨k, X, hk, rfl, rfl, hout, hXl, hk20, hXb, hbel⟩ := hrel
    by_cases hlt : k < L.length
    · by_cases hten : k < 20
      · obtain ⟨sb, so, hao, c0, c1, c2⟩ := HA.out.below hbel k hlt
        obtain ⟨hN, hT⟩ := HB.out k hlt
        subst hao
        have HO := hid hout
        have HBL := hid hbel
        have HXB := hid hXb
        clear hout hbel hXb
        generalize L.getD k (0, 0, ByteArray.empty) = q at *
        obtain ⟨K, N, T⟩ := q
        simp only at c0 c1 c2 hN hT
        go_upto_region 9 with (fail)
        have HCUT := hid (fun wx => cut_any T 60 wx hT (by omega))
        obtain ⟨t, ht⟩ : ∃ t, t = (nums T).take 60 := ⟨_, rfl⟩
        have tb : ∀ x ∈ t, x < 256 := by rw [ht]; exact fun x hx => nums_lt T x (List.mem_of_mem_take hx)
        have tl : t.length ≤ 60 := by rw [ht, List.length_take]; omega
        rw [← ht] at HCUT
        have HO2 := hid (HO.out.below ((Below.refl _ wr).alloc (Nat.le_refl _) (.cells #[.int .i64 K, .int .i64 N, .string T] 28)))
        have HA2 := hid (show (wr.alloc (.cells #[.int .i64 K, .int .i64 N, .string T] 28)).heap[wr.heap.size]? = some (.cells #[.int .i64 K, .int .i64 N, .string T] 28 (0, 0)) from heap_alloc_new _ _)
        have HB2 := hid (HBL.out.alloc HBL.out.size (.cells #[.int .i64 K, .int .i64 N, .string T] 28))
        have hao : wr.heap.size ≠ o := by have := HO.out.lt; omega
        clear c0 c1 c2 ht HO HBL hT
        go_upto_region 11 with (go_at_call 10; refine (HCUT.out _).mono ?_; rintro e w2 ⟨rfl, hw2⟩; subst hw2)
        generalize wr.alloc (.cells #[.int .i64 K, .int .i64 N, .string T] 28) = w2 at *
        generalize wr.heap.size = a at *
        have e0 : w2.cell? ⟨a, 0, none⟩ = some (.int .i64 K) := by rw [Lib.cell_of_heap HA2.out]; rfl
        have e1 : w2.cell? ⟨a, 1, none⟩ = some (.int .i64 N) := by rw [Lib.cell_of_heap HA2.out]; rfl
        have hzX := str_size X
        have hzt := str_size t
        by_cases h0 : K = 0
        · subst h0
          have HN := hid (fun wb wx hx hy => onum_any o X (some ⟨wb, 0, none⟩) 2 [N, 7] wx hx hy (by simp) (by intro n hn; simp at hn; omega) (by omega))
          rw [show [N, 7].length = 2 from rfl, show Wx.nums8 [N, 7] = Wx.num8 N.toNat ++ Wx.num8 7 from by simp [Wx.nums8]] at HN
          have HR1 := hid (fun wx => rnum_any N hN wx)
          have HR2 := hid (fun wx => rnum_any 7 (by omega) wx)
          rw [show (7 : Int).toNat = 7 from rfl] at HR2
          have z1 : (str (Wx.num8 N.toNat)).size = 8 := by rw [str_size, Wx.num8_length]
          have z2 : (str (Wx.num8 7)).size = 8 := by rw [str_size, Wx.num8_length]
          have z3 : (str (Wx.num8 N.toNat ++ Wx.num8 7)).size = 16 := by rw [str_size, List.length_append, Wx.num8_length, Wx.num8_length]
          have p1 := str_append (Wx.num8 N.toNat) (Wx.num8 7)
          have p2 := str_append X (Wx.num8 N.toNat ++ Wx.num8 7)
          obtain ⟨X', hX'⟩ : ∃ X', X' = X ++ (Wx.num8 N.toNat ++ Wx.num8 7) := ⟨_, rfl⟩
          have hXl' : X'.length ≤ 200 * (k + 1) := by rw [hX', List.length_append, List.length_append, Wx.num8_length, Wx.num8_length]; omega
          have hXb' : ∀ c ∈ X', c < 256 := by
            rw [hX']; intro c hc
            simp only [List.mem_append] at hc
            rcases hc with h | h | h
            · exact HXB.out c h
            · exact Wx.num8_lt _ c h
            · exact Wx.num8_lt _ c h
          rw [← hX'] at p2 HN
          clear hX'
          have HXP := hid hXb'
          clear hXb'
          generalize str (Wx.num8 N.toNat ++ Wx.num8 7) = S3 at *
          generalize str (Wx.num8 N.toNat) = S1 at *
          generalize str (Wx.num8 7) = S2 at *
          go_upto_region 15 with (fail)
          go_wp2_with fail
          refine (HN.out _ _ (HO2.out.below ((Below.refl _ _).alloc (Nat.le_refl _) _)) (ints_two_at w2 _ _ _)).mono ?_
          rintro e w3 ⟨rfl, ho3, hk3⟩
          have b3 := HB2.out.alloc HB2.out.size (.cells #[.int .i64 N, .int .i64 7] 3)
          have HB3 := hid (b3.trans (hk3.below hs0 b3.size))
          have HA3 := hid (show w3.heap[a]? = some (.cells #[.int .i64 0, .int .i64 N, .string T] 28 (0, 0)) from by
            have hlt2 := (Array.getElem?_eq_some_iff.1 HA2.out).1
            rw [hk3.block a (by simp; omega) hao, Below.heap_alloc _ _ _ hlt2]; exact HA2.out)
          have f1 : w3.cell? ⟨a, 1, none⟩ = some (.int .i64 N) := by rw [Lib.cell_of_heap HA3.out]; rfl
          have HO3 := hid ho3
          clear ho3 hk3 b3
          go_wp2_with fail
          refine (HR1.out _).mono ?_
          rintro e w4 ⟨rfl, k4⟩
          go_wp2_with fail
          refine (HR2.out _).mono ?_
          rintro e w5 ⟨rfl, k5⟩
          have hoF := (HO3.out.below k4).below k5
          have b4 := HB3.out.trans (k4.mono HB3.out.size)
          have hbF := b4.trans (k5.mono b4.size)
          have hXb' := HXP.out
          clear k4 k5 b4
          have hpn := fun wx => ptr_same o wx
          have HBY := hid (fun wx hx => obytes_any o X' wx hx hXb' (by omega))
          have HBF := hid hbF
          have HOF := hid hoF
          have HXB' := hid hXb'
          generalize hSX : str X' = SX' at *
          have HSX := hid hSX
          clear hbF hoF hXb' hSX
          go_wp2_with (go_at_call 18; refine (HBY.out _ HOF.out).mono ?_; rintro e w9 ⟨rfl, k9⟩)
          exact ⟨⟨k + 1, X', by omega, by go_num, by rw [HSX.out], HOF.out.below k9, hXl', by omega, HXB'.out, HBF.out.trans (k9.mono HBF.out.size)⟩, by simp [intOf]; omega⟩
        have h0b : (K == 0) = false := by simp [h0]
        by_cases h1 : K = 1
        · subst h1
          have HN := hid (fun wb wx hx hy => otext_any o X (some ⟨wb, 0, none⟩) 2 [t, []] wx hx hy (by simp) (by simp; omega) (by omega))
          rw [show [t, []].length = 2 from rfl, show Wx.texts [t, []] = (Wx.num8 t.length ++ t) ++ Wx.num8 0 from by simp [Wx.texts]] at HN
          have HR1 := hid (fun wx => rtext_any t (by omega) wx)
          have HR2 := hid (fun wx => rtext_any [] (by simp) wx)
          rw [show str [] = ⟨#[]⟩ from rfl, List.length_nil, List.append_nil] at HR2
          have z1 : (str (Wx.num8 t.length ++ t)).size = 8 + t.length := by rw [str_size, List.length_append, Wx.num8_length]
          have z2 : (str (Wx.num8 0)).size = 8 := by rw [str_size, Wx.num8_length]
          have z3 : (str ((Wx.num8 t.length ++ t) ++ Wx.num8 0)).size = 16 + t.length := by rw [str_size]; simp only [List.length_append, Wx.num8_length]; omega
          have p1 := str_append (Wx.num8 t.length ++ t) (Wx.num8 0)
          have p2 := str_append X ((Wx.num8 t.length ++ t) ++ Wx.num8 0)
          obtain ⟨X', hX'⟩ : ∃ X', X' = X ++ ((Wx.num8 t.length ++ t) ++ Wx.num8 0) := ⟨_, rfl⟩
          have hXl' : X'.length ≤ 200 * (k + 1) := by rw [hX']; simp only [List.length_append, Wx.num8_length, Wx.fix_length]; omega
          have hXb' : ∀ c ∈ X', c < 256 := by
            rw [hX']; intro c hc
            simp only [List.mem_append] at hc
            rcases hc with h | (h | h) | h
            · exact HXB.out c h
            · exact Wx.num8_lt _ c h
            · exact tb c h
            · exact Wx.num8_lt _ c h
          rw [← hX'] at p2 HN
          clear hX'
          have HXP := hid hXb'
          clear hXb'
          have HSS := hid (fun wx => strs_two wx t [] 9)
          rw [show str [] = ⟨#[]⟩ from rfl] at HSS
          generalize str ((Wx.num8 t.length ++ t) ++ Wx.num8 0) = S3 at *
          generalize str (Wx.num8 t.length ++ t) = S1 at *
          generalize str (Wx.num8 0) = S2 at *
          generalize str t = ST at *
          go_upto_region 18 with (fail)
          go_wp2_with fail
          refine (HN.out _ _ (HO2.out.below ((Below.refl _ _).alloc (Nat.le_refl _) _)) (HSS.out w2)).mono ?_
          rintro e w3 ⟨rfl, ho3, hk3⟩
          have b3 := HB2.out.alloc HB2.out.size (.cells #[.string ST, .string ⟨#[]⟩] 9)
          have HB3 := hid (b3.trans (hk3.below hs0 b3.size))
          have HO3 := hid ho3
          clear ho3 hk3 b3
          go_wp2_with fail
          refine (HR1.out _).mono ?_
          rintro e w4 ⟨rfl, k4⟩
          go_wp2_with fail
          refine (HR2.out _).mono ?_
          rintro e w5 ⟨rfl, k5⟩
          have hoF := (HO3.out.below k4).below k5
          have b4 := HB3.out.trans (k4.mono HB3.out.size)
          have hbF := b4.trans (k5.mono b4.size)
          have hXb' := HXP.out
          clear k4 k5 b4
          have hpn := fun wx => ptr_same o wx
          have HBY := hid (fun wx hx => obytes_any o X' wx hx hXb' (by omega))
          have HBF := hid hbF
          have HOF := hid hoF
          have HXB' := hid hXb'
          generalize hSX : str X' = SX' at *
          have HSX := hid hSX
          clear hbF hoF hXb' hSX
          go_wp2_with (go_at_call 18; refine (HBY.out _ HOF.out).mono ?_; rintro e w9 ⟨rfl, k9⟩)
          exact ⟨⟨k + 1, X', by omega, by go_num, by rw [HSX.out], HOF.out.below k9, hXl', by omega, HXB'.out, HBF.out.trans (k9.mono HBF.out.size)⟩, by simp [intOf]; omega⟩
        have h1b : (K == 1) = false := by simp [h1]
        by_cases h2 : K = 2
        · subst h2
          have HN := hid (fun wb wx hx hy => oraw_any o X wb 0 2 [t, t] wx hx hy (by simp) (by simp) (by simp) (by simp; omega) (by omega))
          rw [show [t, t].length = 2 from rfl, show [t, t].flatten = t ++ t from by simp] at HN
          have z3 : (str (t ++ t)).size = t.length + t.length := by rw [str_size, List.length_append]
          have p1 := str_append t t
          have p2 := str_append X (t ++ t)
          obtain ⟨X', hX'⟩ : ∃ X', X' = X ++ (t ++ t) := ⟨_, rfl⟩
          have hXl' : X'.length ≤ 200 * (k + 1) := by rw [hX']; simp only [List.length_append, Wx.num8_length, Wx.fix_length]; omega
          have hXb' : ∀ c ∈ X', c < 256 := by
            rw [hX']; intro c hc
            simp only [List.mem_append] at hc
            rcases hc with h | h | h
            · exact HXB.out c h
            · exact tb c h
            · exact tb c h
          rw [← hX'] at p2 HN
          clear hX'
          have HXP := hid hXb'
          clear hXb'
          have HSS := hid (fun wx => strs_two wx t t 9)
          generalize str (t ++ t) = S3 at *
          generalize str t = ST at *
          go_upto_region 21 with (fail)
          go_wp2_with fail
          refine (HN.out _ _ (HO2.out.below ((Below.refl _ _).alloc (Nat.le_refl _) _)) (HSS.out w2)).mono ?_
          rintro e w5 ⟨rfl, ho3, hk3⟩
          have b3 := HB2.out.alloc HB2.out.size (.cells #[.string ST, .string ST] 9)
          have hbF := b3.trans (hk3.below hs0 b3.size)
          have hoF := ho3
          have hXb' := HXP.out
          clear ho3 hk3 b3
          have hpn := fun wx => ptr_same o wx
          have HBY := hid (fun wx hx => obytes_any o X' wx hx hXb' (by omega))
          have HBF := hid hbF
          have HOF := hid hoF
          have HXB' := hid hXb'
          generalize hSX : str X' = SX' at *
          have HSX := hid hSX
          clear hbF hoF hXb' hSX
          go_wp2_with (go_at_call 18; refine (HBY.out _ HOF.out).mono ?_; rintro e w9 ⟨rfl, k9⟩)
          exact ⟨⟨k + 1, X', by omega, by go_num, by rw [HSX.out], HOF.out.below k9, hXl', by omega, HXB'.out, HBF.out.trans (k9.mono HBF.out.size)⟩, by simp [intOf]; omega⟩
        have h2b : (K == 2) = false := by simp [h2]
        · clear h0 h1 h2
          obtain ⟨m, hm⟩ : ∃ m : Int, min N 100 = m := ⟨_, rfl⟩
          obtain ⟨y, hy⟩ : ∃ y : Nat, max 0 (min m 4096) = (y : Int) := ⟨(max 0 (min m 4096)).toNat, by omega⟩
          have hy100 : y ≤ 100 := by omega
          have HN := hid (fun wx hx => ofixed_any o X t m y wx hx tb (by omega) hy (by omega))
          have HR1 := hid (fun wx => rfixed_any t tb (by omega) m y hy wx)
          have z3 : (str (Wx.fix t y)).size = y := by rw [str_size, Wx.fix_length]
          have p2 := str_append X (Wx.fix t y)
          obtain ⟨X', hX'⟩ : ∃ X', X' = X ++ (Wx.fix t y) := ⟨_, rfl⟩
          have hXl' : X'.length ≤ 200 * (k + 1) := by rw [hX']; simp only [List.length_append, Wx.num8_length, Wx.fix_length]; omega
          have hXb' : ∀ c ∈ X', c < 256 := by
            rw [hX']; intro c hc
            simp only [List.mem_append] at hc
            rcases hc with h | h
            · exact HXB.out c h
            · exact Wx.fix_lt t y tb c h
          rw [← hX'] at p2 HN
          clear hX'
          have HXP := hid hXb'
          clear hXb'
          clear hy
          generalize str (Wx.fix t y) = S3 at *
          generalize str t = ST at *
          go_upto_region 12 with (fail)
          go_wp2_with fail
          refine (HN.out _ HO2.out).mono ?_
          rintro e w3 ⟨rfl, ho3, hk3⟩
          have hbF := HB2.out.trans (hk3.below hs0 HB2.out.size)
          have HA3 := hid (show w3.heap[a]? = some (.cells #[.int .i64 K, .int .i64 N, .string T] 28 (0, 0)) from by
            rw [hk3.block a (Array.getElem?_eq_some_iff.1 HA2.out).1 hao]; exact HA2.out)
          have f1 : w3.cell? ⟨a, 1, none⟩ = some (.int .i64 N) := by rw [Lib.cell_of_heap HA3.out]; rfl
          have HO3 := hid ho3
          have HB3 := hid hbF
          clear ho3 hk3 hbF
          go_wp2_with fail
          refine (HR1.out _).mono ?_
          rintro e w5 ⟨rfl, hw5⟩
          subst hw5
          have hoF := HO3.out
          have hbF := HB3.out
          have hXb' := HXP.out
          have hpn := fun wx => ptr_same o wx
          have HBY := hid (fun wx hx => obytes_any o X' wx hx hXb' (by omega))
          have HBF := hid hbF
          have HOF := hid hoF
          have HXB' := hid hXb'
          generalize hSX : str X' = SX' at *
          have HSX := hid hSX
          clear hbF hoF hXb' hSX
          go_wp2_with (go_at_call 18; refine (HBY.out _ HOF.out).mono ?_; rintro e w9 ⟨rfl, k9⟩)
          exact ⟨⟨k + 1, X', by omega, by go_num, by rw [HSX.out], HOF.out.below k9, hXl', by omega, HXB'.out, HBF.out.trans (k9.mono HBF.out.size)⟩, by simp [intOf]; omega⟩
      · have HBL := hid hbel
        clear hout hbel
        go_wp2
        go_ret
        exact ⟨rfl, HBL.out⟩
    · have HBL := hid hbel
      clear hout hbel
      go_wp2
      go_ret
      exact ⟨rfl, HBL.out⟩

set_option maxRecDepth 100000 in
theorem contract (H : Type) (enc : TypeId × Value → H) (W : World) (base : Nat) (args : Array Value) (ds gs : List (DataW H)) (before : List MemPlace)
    (hval : ∀ (j : Nat) t v, Try.f3.params[j]? = some t → args[j]? = some v → Value.okWide Try.prog W .any base t v)
    (hW : DataW.Whole enc Try.prog Try.f3.params.toList Rows.wireWritesSpec.vars false W args.toList ds gs before) (hL : laidMetH Try.prog Rows.wireWritesRow.laid W) :
    Calls Try.prog 3 args W fun e W' => ∃ v, e = .returned v ∧ Rows.wireWritesSpec.post enc Try.prog Try.f3 false true false false W args v W' := by
  have hW' := hW
  obtain ⟨p, q, hA0, hV, rfl, hfz, hnd⟩ := hW
  have hA : DataW.TrodAll enc Try.prog W 0 (fun _ => true) true Try.f3.params.toList args.toList ds p := hA0
  rw [Try.params3] at hA hval
  obtain ⟨v0, vs0, d0, ds0, p0, q0, hargs, rfl, rfl, h0, r0⟩ := trodAll_cons hA
  obtain ⟨rfl, rfl, rfl⟩ := trodAll_nil r0
  obtain rfl : args = #[v0] := by cases args; simp_all
  obtain ⟨ao0, L0, cap0, rfl, hR0, hL0, hb0⟩ := open_acts (hval 0 22 v0 rfl rfl) h0
  refine (walk ao0 L0 cap0 W hR0 hL0 hb0).mono fun e W' ⟨he, hb⟩ => ?_
  subst he
  exact ⟨_, rfl, law_post rfl rfl (by rw [Try.params3]; decide +kernel) hW' rfl hb⟩

theorem laid_met (os : Os) : laidMet Try.prog Rows.wireWritesRow.laid ((laidWorld os).forCall (fun _ _ => 0) ⟨#[], #[.slice none 0 0], []⟩).memory :=
  laidMet_of_run' 8 (by kernel_rfl) (by kernel_rfl)
theorem reads (os : Os) {H : Type} (enc : TypeId × Value → H) : ∃ places, DataW.whole enc Try.prog ((laidWorld os).forCall (fun _ _ => 0) ⟨#[], #[.slice none 0 0], []⟩).memory Try.f3.params.toList Rows.wireWritesSpec.vars false (#[.slice none 0 0] : Array Value).toList 8
    = some ([.nil], [], places) :=
  ⟨[], by kernel_rfl⟩

set_option maxRecDepth 100000 in
theorem lifted (os : Os) (started : os.Started) (H : Type) (enc : TypeId × Value → H) (F : Stop.Interp) :
    ReturnsInHanded {} Try.checked os 3 .any ((OpenSpec.ofChange Rows.wireWritesSpec).preRow enc Try.prog Try.f3 Rows.wireWritesRow.domain false Rows.wireWritesRow.laid) (((OpenSpec.ofChange Rows.wireWritesSpec).at F).post enc Try.prog Try.f3 false true false false) := by
  obtain ⟨places, hx⟩ := reads os enc
  refine returnsInHanded_of_row (C := Try.checked) (s := OpenSpec.ofChange Rows.wireWritesSpec) own started (by kernel_rfl) Try.func3
    (witness_row_at (enc := enc) (C := Try.checked) false (laidWorld os) #[.slice none 0 0] rfl (by kernel_rfl) (by kernel_rfl) (by kernel_rfl)
      (OpenSpec.preRow_of_cond 8 hx (by kernel_rfl) (fun k hk => by cases hk) (by kernel_rfl) (laid_met os))) ?_
  intro W base args ds gs before hval hW _ _ _ hL _ _
  exact contract H enc W base args ds gs before hval hW hL

theorem said : Rows.WireWritesSaid :=
  OpenClaim.holds_of_cond 3 Try.f3 rfl rfl rfl rfl rfl rfl rfl ⟨rfl, rfl, rfl, rfl, rfl⟩ rfl rfl rfl rfl rfl (by kernel_rfl) Try.func3 (by kernel_rfl)
    (of_decide_eq_true (by kernel_rfl)) (by unfold Func.isWrapper; first | (rw [if_pos (by decide +kernel)]; kernel_rfl) | (rw [if_neg (by decide +kernel)]; exact ⟨rfl, rfl⟩))
    (fun os started H enc _ F => by rw [OpenClaim.pre_eq_preRow]; exact lifted os started H enc F)


end WireWrites
theorem wireWrites_said : Rows.WireWritesSaid := WireWrites.said
end Go.Proofs.Ytijhlgfogeldcaa
