/-
  The reference of layer 4: what sealwaxref04.Of returns is the tag that poly.Of returns.
-/
import Derived.Test.YtiolflofkoeffaaDoorRef4e
namespace Go.Proofs.YtiolflofkoeffaaDoor
open Go.RowKit
open Go.Lib (hid)

namespace Pv
def m16 (l : List Nat) : Nat → List Nat
  | 0 => l
  | k + 1 => (m16 l k).set (4 * k + 3) ((m16 l k).getD (4 * k + 3) 0 % 16)
def m4 (l : List Nat) : Nat → List Nat
  | 0 => l
  | k + 1 => (m4 l k).set (4 * k + 4) ((m4 l k).getD (4 * k + 4) 0 / 4 * 4)
theorem m16_length (l : List Nat) (k : Nat) : (m16 l k).length = l.length := by
  induction k with
  | zero => rfl
  | succ k ih => rw [m16, List.length_set, ih]
theorem m4_length (l : List Nat) (k : Nat) : (m4 l k).length = l.length := by
  induction k with
  | zero => rfl
  | succ k ih => rw [m4, List.length_set, ih]
theorem m16_lt (l : List Nat) (h : ∀ x ∈ l, x < 256) (k : Nat) : ∀ x ∈ m16 l k, x < 256 := by
  induction k with
  | zero => exact h
  | succ k ih =>
    intro x hx
    rcases List.mem_or_eq_of_mem_set hx with h' | rfl
    · exact ih x h'
    · omega
theorem m4_lt (l : List Nat) (h : ∀ x ∈ l, x < 256) (k : Nat) : ∀ x ∈ m4 l k, x < 256 := by
  induction k with
  | zero => exact h
  | succ k ih =>
    have := getD_lt (by omega) ih (4 * k + 4)
    intro x hx
    rcases List.mem_or_eq_of_mem_set hx with h' | rfl
    · exact ih x h'
    · omega
theorem m_clamp (l : List Nat) (h : l.length = 16) : m4 (m16 l 4) 3 = clamp l := by
  obtain ⟨a, b, c, d, e, f, g, h, i, j, k, m, n, o, p, q, rfl⟩ := sixteen l h
  rfl
theorem take_bytes (l : List Nat) (h : ∀ x ∈ l, x < 256) (hl : 16 ≤ l.length) : l.take 16 = bytesN 16 (num l) := by
  have h1 := bytesN_num (l.take 16) (fun x hx => h x (List.mem_of_mem_take hx)) (num (l.drop 16))
  rw [show (l.take 16).length = 16 from by simp; omega, ← num_split l] at h1
  exact h1.symm
theorem ones_get (k : Nat) (h : k < 4) : ([3, 7, 11, 15] : List Nat).getD k 0 = 4 * k + 3 := by
  match k, h with
  | 0, _ => rfl
  | 1, _ => rfl
  | 2, _ => rfl
  | 3, _ => rfl
theorem fours_get (k : Nat) (h : k < 3) : ([4, 8, 12] : List Nat).getD k 0 = 4 * k + 4 := by
  match k, h with
  | 0, _ => rfl
  | 1, _ => rfl
  | 2, _ => rfl
end Pv


set_option maxHeartbeats 4000000 in
set_option maxRecDepth 100000 in
theorem rof_any (key x : List Nat) (hkl : key.length = 32) (hk : ∀ c ∈ key, c < 256) (hl : x.length ≤ 1000) (hx : ∀ c ∈ x, c < 256) (w : World) :
    Calls Tryd.prog 17 #[.string (str key), .string (str x)] w fun e w' => e = .returned (.string (str (Px.of key x))) ∧ Below w.heap.size w w' := by
  have HE : Hid (∀ _ : Nat, Px.of key x = Pv.bytesN 16 (Pv.acc (Pv.num (Pv.clamp (key.take 16))) x ((x.length + 15) / 16) + Pv.num (key.drop 16))) := fun _ => by
    rw [Pv.of_spec key x hkl hk hx, Pv.rN_clamp key hkl hk]
  generalize Px.of key x = T at *
  have hex1 : (str key).extract 0 16 = str (key.take 16) := by
    have := extract_mid key hk 0 16
    rwa [List.drop_zero, Nat.zero_add] at this
  have hex2 : (str key).extract 16 32 = str (key.drop 16) := by
    have := extract_mid key hk 16 16
    rwa [List.take_of_length_le (show (key.drop 16).length ≤ 16 by simp [hkl])] at this
  have HEX := hid (extract_mid x hx)
  have hsk : (str key).size = 32 := by rw [str_size, hkl]
  have hsx : (str x).size = x.length := str_size x
  have HK1 := hid (fun wx => rbytes_any (key.take 16) (fun c h => hk c (List.mem_of_mem_take h)) (by simp; omega) wx)
  have HK2 := hid (fun wx => rbytes_any (key.drop 16) (fun c h => hk c (List.mem_of_mem_drop h)) (by simp; omega) wx)
  have HKD := hid (show ∀ c ∈ key.drop 16, c < 256 from fun c h => hk c (List.mem_of_mem_drop h))
  have hdl : (key.drop 16).length = 16 := by simp [hkl]
  have hl16 : (key.take 16).length = 16 := by simp; omega
  have HL16 := hid (show ∀ c ∈ key.take 16, c < 256 from fun c h => hk c (List.mem_of_mem_take h))
  have HX := hid hx
  clear hk hx
  generalize hkt : key.take 16 = K at *
  generalize hkd : key.drop 16 = D at *
  clear hkt hkd
  generalize str K = SK1 at *
  generalize str D = SD1 at *
  generalize str key = SK at *
  generalize hSX : str x = SX at *
  clear hSX
  go_enter Tryd.func17, Tryd.ntmps17
  go_wp2_with fail
  refine (HK1.out _).mono ?_
  rintro e w1 ⟨v1, rfl, ho1, hb1⟩
  obtain ⟨g, cap, rfl, hg, hpre⟩ := ho1.pre (by omega)
  rw [hl16]
  have HP1 := hid (show Pre w1 g .i64 3 (Pv.m16 K 0) from hpre)
  have HB1 := hid hb1
  have hg1 := hpre.lt
  clear ho1 hb1 hpre HK1 hex1
  go_upto_region 3 with (fail)
  have HRT := hid (show Row (w1.alloc (.cells #[.int .i64 3, .int .i64 7, .int .i64 11, .int .i64 15] 3)) w1.heap.size .i64 3 [3, 7, 11, 15] from heap_alloc_new _ _)
  have HP2 := hid (HP1.out.alloc (.cells #[.int .i64 3, .int .i64 7, .int .i64 11, .int .i64 15] 3))
  have HB2 := hid (HB1.out.alloc HB1.out.size (.cells #[.int .i64 3, .int .i64 7, .int .i64 11, .int .i64 15] 3))
  clear HP1 HB1
  generalize w1.alloc _ = w2 at *
  generalize w1.heap.size = b1 at *
  go_loopw [7, 19] (fun _ i wr => ∃ k : Nat, k ≤ 4 ∧ i = .int .i64 k ∧ Pre wr g .i64 3 (Pv.m16 K k) ∧ Row wr b1 .i64 3 [3, 7, 11, 15] ∧ Below w.heap.size w wr)
    (fun _ i _ => 4 - (intOf i).toNat)
  case atStart => exact ⟨0, by omega, rfl, HP2.out, HRT.out, HB2.out⟩
  case round =>
    clear HP2 HRT HB2
    obtain ⟨k, hk, rfl, hp, hr, hbel⟩ := hrel
    by_cases hlt : k < 4
    · have hci := hr.cell k (by simp; omega)
      rw [Pv.ones_get k hlt] at hci
      have hml := Pv.m16_length K k
      have hcl := hp.cell (4 * k + 3) (by omega)
      have hfr := hp.free (4 * k + 3)
      have hv := getD_lt (by omega) (Pv.m16_lt K HL16.out k) (4 * k + 3)
      have HP3 := hid (hp.set (4 * k + 3) ((Pv.m16 K k).getD (4 * k + 3) 0 % 16) (by omega))
      rw [show (Pv.m16 K k).set (4 * k + 3) ((Pv.m16 K k).getD (4 * k + 3) 0 % 16) = Pv.m16 K (k + 1) from rfl] at HP3
      have HR3 := hid (hr.set_other ⟨g, 4 * k + 3, none⟩ (.int .i64 ((Pv.m16 K k).getD (4 * k + 3) 0 % 16 : Nat)) (show b1 ≠ g by omega))
      have HB3 := hid (hbel.setCell (p := ⟨g, 4 * k + 3, none⟩) hg (.int .i64 ((Pv.m16 K k).getD (4 * k + 3) 0 % 16 : Nat)))
      have g1 : (k : Int) < 4 := by omega
      clear hp hr hbel hml
      generalize (Pv.m16 K k).getD (4 * k + 3) 0 = y at *
      obtain ⟨i, hi⟩ : ∃ i, i = 4 * k + 3 := ⟨_, rfl⟩
      rw [← hi] at hci hcl hfr HP3 HR3 HB3
      have hi16 : i < 16 := by omega
      clear hi
      go_wp2
      exact ⟨⟨k + 1, by omega, congrArg (Value.int .i64) (by omega), HP3.out, HR3.out, HB3.out⟩, by simp only [intOf]; omega⟩
    · obtain rfl : k = 4 := by omega
      rw [show ((4 : Nat) : Int) = 4 from rfl]
      have HP3 := hid (show Pre wr g .i64 3 (Pv.m4 (Pv.m16 K 4) 0) from hp)
      have HB3 := hid hbel
      have hg2 := hp.lt
      have HLM := hid (Pv.m16_lt K HL16.out 4)
      have hlm := Pv.m16_length K 4
      rw [hl16] at hlm
      have HCL := hid (Pv.m_clamp K hl16)
      generalize Pv.m16 K 4 = K2 at *
      clear hp hr hbel
      go_upto_region 8 with (fail)
      have HRT := hid (show Row (wr.alloc (.cells #[.int .i64 4, .int .i64 8, .int .i64 12] 3)) wr.heap.size .i64 3 [4, 8, 12] from heap_alloc_new _ _)
      have HP2 := hid (HP3.out.alloc (.cells #[.int .i64 4, .int .i64 8, .int .i64 12] 3))
      have HB2 := hid (HB3.out.alloc HB3.out.size (.cells #[.int .i64 4, .int .i64 8, .int .i64 12] 3))
      clear HP3 HB3
      generalize wr.alloc _ = w3 at *
      generalize wr.heap.size = b2 at *
      go_loopw [9, 34] (fun _ i wr => ∃ k : Nat, k ≤ 3 ∧ i = .int .i64 k ∧ Pre wr g .i64 3 (Pv.m4 K2 k) ∧ Row wr b2 .i64 3 [4, 8, 12] ∧ Below w.heap.size w wr)
        (fun _ i _ => 3 - (intOf i).toNat)
      case atStart => exact ⟨0, by omega, rfl, HP2.out, HRT.out, HB2.out⟩
      case round =>
        clear HP2 HRT HB2
        obtain ⟨k, hk, rfl, hp, hr, hbel⟩ := hrel
        by_cases hlt : k < 3
        · have hci := hr.cell k (by simp; omega)
          rw [Pv.fours_get k hlt] at hci
          have hml := Pv.m4_length K2 k
          have hcl := hp.cell (4 * k + 4) (by omega)
          have hfr := hp.free (4 * k + 4)
          have hv := getD_lt (by omega) (Pv.m4_lt K2 HLM.out k) (4 * k + 4)
          have HP3 := hid (hp.set (4 * k + 4) ((Pv.m4 K2 k).getD (4 * k + 4) 0 / 4 * 4) (by omega))
          rw [show (Pv.m4 K2 k).set (4 * k + 4) ((Pv.m4 K2 k).getD (4 * k + 4) 0 / 4 * 4) = Pv.m4 K2 (k + 1) from rfl] at HP3
          have HR3 := hid (hr.set_other ⟨g, 4 * k + 4, none⟩ (.int .i64 ((Pv.m4 K2 k).getD (4 * k + 4) 0 / 4 * 4 : Nat)) (show b2 ≠ g by omega))
          have HB3 := hid (hbel.setCell (p := ⟨g, 4 * k + 4, none⟩) hg (.int .i64 ((Pv.m4 K2 k).getD (4 * k + 4) 0 / 4 * 4 : Nat)))
          have g1 : (k : Int) < 3 := by omega
          clear hp hr hbel hml
          generalize (Pv.m4 K2 k).getD (4 * k + 4) 0 = y at *
          obtain ⟨i, hi⟩ : ∃ i, i = 4 * k + 4 := ⟨_, rfl⟩
          rw [← hi] at hci hcl hfr HP3 HR3 HB3
          have hi16 : i < 16 := by omega
          clear hi
          go_wp2
          exact ⟨⟨k + 1, by omega, congrArg (Value.int .i64) (by omega), HP3.out, HR3.out, HB3.out⟩, by simp only [intOf]; omega⟩
        · obtain rfl : k = 3 := by omega
          rw [show ((3 : Nat) : Int) = 3 from rfl]
          have HP3 := hid hp
          have HB3 := hid hbel
          have hg3 := hp.lt
          have HRLT := hid (Pv.m4_lt K2 HLM.out 3)
          have hrl := Pv.m4_length K2 3
          rw [hlm] at hrl
          rw [← HCL.out] at HE
          generalize Pv.m4 K2 3 = R at *
          clear hp hr hbel HCL HLM hlm HL16
          have hmk := run_mkI wr 17 (by omega)
          rw [show ((17 : Nat) : Int) = 17 from rfl] at hmk
          obtain ⟨Z, hZ⟩ : ∃ Z, Z = List.replicate 17 0 := ⟨_, rfl⟩
          rw [← hZ] at hmk
          have HZ := hid hZ
          clear hZ
          go_upto_region 14 with (fail)
          clear hmk
          have hal0 : wr.heap.size ≤ (wr.alloc (.cells (ints .i64 Z) 3)).heap.size := by simp
          have HRZ := hid (show Rd (wr.alloc (.cells (ints .i64 Z) 3)) (.slice (some ⟨wr.heap.size, 0, none⟩) 17 17) Z from by
            have := Row.rd (show Row (wr.alloc (.cells (ints .i64 Z) 3)) wr.heap.size .i64 3 Z from heap_alloc_new _ _) 17
            rwa [show Z.length = 17 from by rw [HZ.out]; simp] at this)
          have HZB := hid (show (∀ c ∈ Z, c < 256) ∧ Z.length = 17 ∧ Pv.num Z = Pv.acc (Pv.num R) x 0 from by
            rw [HZ.out]; exact ⟨fun c h => by rw [List.eq_of_mem_replicate h]; decide, by simp, by rw [Pv.num_zeros]; rfl⟩)
          have HP4 := hid (HP3.out.alloc (.cells (ints .i64 Z) 3))
          have HB4 := hid (HB3.out.alloc HB3.out.size (.cells (ints .i64 Z) 3))
          clear HP3 HB3 hal0
          generalize wr.alloc _ = w4 at *
          generalize wr.heap.size = b4 at *
          go_loopw [10, 11] (fun v i wq => ∃ k : Nat, k ≤ (x.length + 15) / 16 ∧ i = .int .i64 (16 * (k : Int)) ∧ (∃ sm, Rd wq v sm ∧ (∀ c ∈ sm, c < 256) ∧ sm.length = 17 ∧ Pv.num sm = Pv.acc (Pv.num R) x k) ∧ Pre wq g .i64 3 R ∧ Below w.heap.size w wq)
            (fun _ i _ => x.length + 16 - (intOf i).toNat)
          case atStart => exact ⟨0, by omega, rfl, ⟨Z, HRZ.out, HZB.out.1, HZB.out.2.1, HZB.out.2.2⟩, HP4.out, HB4.out⟩
          case round =>
            clear HRZ HZB HP4 HB4
            obtain ⟨k, hk, rfl, ⟨sm, hrd, hsb, hsl, hsn⟩, hp, hbel⟩ := hrel
            have HRD := hid hrd
            have HSB := hid hsb
            have HSN := hid hsn
            have HP := hid hp
            have HBL := hid hbel
            clear hrd hsb hsn hp hbel
            by_cases hlt : 16 * k < x.length
            · have hex3 : 16 * (k : Int) + 16 ≤ x.length → SX.extract (16 * k) (16 * k + 16) = str (Pv.chunk x k) := fun h => HEX.out (16 * k) 16
              have hex4 : (x.length : Int) ≤ 16 * (k : Int) + 16 → SX.extract (16 * k) x.length = str (Pv.chunk x k) := fun h => by
                have := HEX.out (16 * k) (x.length - 16 * k)
                rw [show 16 * k + (x.length - 16 * k) = x.length from by omega] at this
                rw [this]
                congr 1
                unfold Pv.chunk
                rw [List.take_of_length_le (by simp), List.take_of_length_le (by simp; omega)]
              have HX3 := hid hex3
              have HX4 := hid hex4
              clear hex3 hex4
              have hcl := Pv.chunk_length x k
              have HCB := hid (Pv.chunk_lt HX.out k)
              have HRB := hid (fun wx => rbytes_any (Pv.chunk x k) HCB.out (by rw [hcl]; omega) wx)
              have HAC := hid (show Pv.acc (Pv.num R) x (k + 1) = ((Pv.acc (Pv.num R) x k + Pv.num (Pv.chunk x k ++ [1])) * Pv.num R) % Pv.P from rfl)
              have hcl' : (Pv.chunk x k).length ≤ 16 := by omega
              clear hcl
              generalize hC : Pv.chunk x k = C at *
              clear hC
              generalize str C = SC at *
              have g1 : 16 * (k : Int) < x.length := by omega
              go_wp2_with fail
              case inl h =>
                rw [show ((16 * (k : Int) + 16).toNat) = 16 * k + 16 from by omega, HX3.out (by omega)]
                refine (HRB.out _).mono ?_
                rintro e w5 ⟨v5, rfl, ho5, hb5⟩
                have HO5 := hid ho5
                have HB5 := hid hb5
                clear ho5 hb5 HRB HX3 HX4
                go_wp2_with (refine wpList_appI rfl _ _ rfl wr.heap.size _ C rfl (HO5.out.below ((Below.refl _ _).alloc (Nat.le_refl _) _)) _ 1 1 [1] rfl rfl (cells_oneI _ 1 _) (by omega) (Nat.le_trans HB5.out.size (by simp)) ?_; intro v6 w6 ho6 hb6)
                have HR6 := hid ho6.rd
                have HB6 := hid ((HB5.out.alloc HB5.out.size (.cells #[.int .i64 1] 3)).trans hb6)
                clear ho6 hb6 HO5 HB5
                refine (rplus_any _ _ sm (C ++ [1]) (by omega) (by simp; omega) HSB.out (by
                  intro c hc
                  rcases List.mem_append.1 hc with h | h
                  · exact HCB.out c h
                  · simp at h; omega) _ (HRD.out.below HB6.out) HR6.out).mono ?_
                rintro e w7 ⟨v7, l7, rfl, o7, b7, n7, p7, q7, k7⟩
                have HR7 := hid o7.rd
                have HB7 := hid b7
                have HN7 := hid n7
                have HK7 := hid (HB6.out.next (Nat.le_refl _) k7)
                rw [List.length_append, show ([1] : List Nat).length = 1 from rfl] at p7 q7
                clear o7 b7 n7 k7
                go_wp2_with fail
                refine (rtimes_any _ _ l7 R (by omega) (by omega) HB7.out HRLT.out _ HR7.out (by
                  have := (HP.out.below HK7.out HP.out.lt)
                  exact ⟨_, cap, by rw [hrl], fun i hi => ⟨g, 0, rfl, this.lt, by rw [Nat.zero_add]; exact this.cell i hi⟩⟩)).mono ?_
                rintro e w8 ⟨v8, l8, rfl, o8, b8, n8, p8, q8, k8⟩
                have HR8 := hid o8.rd
                have HB8 := hid b8
                have HN8 := hid n8
                have HK8 := hid (HK7.out.next (Nat.le_refl _) k8)
                clear o8 b8 n8 k8
                go_wp2_with fail
                refine (mod_any _ l8 (by omega) HB8.out _ HR8.out).mono ?_
                rintro e w9 ⟨v9, o9, rfl, ow9, b9, n9, l9, k9⟩
                have HK9 := hid (HK8.out.next (Nat.le_refl _) k9)
                have HF := hid (show (∃ sm, Rd w9 v9 sm ∧ (∀ c ∈ sm, c < 256) ∧ sm.length = 17 ∧ Pv.num sm = Pv.acc (Pv.num R) x (k + 1)) ∧ Pre w9 g .i64 3 R ∧ Below w.heap.size w w9 from
                  ⟨⟨o9, ow9.rd, b9, l9, by rw [n9, HN8.out, HN7.out, HSN.out, HAC.out]⟩, HP.out.below HK9.out HP.out.lt, HBL.out.next (Nat.le_refl _) HK9.out⟩)
                clear ow9 b9 n9 l9 k9
                go_wp2_with fail
                exact ⟨⟨k + 1, by omega, congrArg (Value.int .i64) (by omega), HF.out.1, HF.out.2.1, HF.out.2.2⟩, by simp only [intOf]; omega⟩
              case inr h =>
                rw [HX4.out h]
                refine (HRB.out _).mono ?_
                rintro e w5 ⟨v5, rfl, ho5, hb5⟩
                have HO5 := hid ho5
                have HB5 := hid hb5
                clear ho5 hb5 HRB HX3 HX4
                go_wp2_with (refine wpList_appI rfl _ _ rfl wr.heap.size _ C rfl (HO5.out.below ((Below.refl _ _).alloc (Nat.le_refl _) _)) _ 1 1 [1] rfl rfl (cells_oneI _ 1 _) (by omega) (Nat.le_trans HB5.out.size (by simp)) ?_; intro v6 w6 ho6 hb6)
                have HR6 := hid ho6.rd
                have HB6 := hid ((HB5.out.alloc HB5.out.size (.cells #[.int .i64 1] 3)).trans hb6)
                clear ho6 hb6 HO5 HB5
                refine (rplus_any _ _ sm (C ++ [1]) (by omega) (by simp; omega) HSB.out (by
                  intro c hc
                  rcases List.mem_append.1 hc with h | h
                  · exact HCB.out c h
                  · simp at h; omega) _ (HRD.out.below HB6.out) HR6.out).mono ?_
                rintro e w7 ⟨v7, l7, rfl, o7, b7, n7, p7, q7, k7⟩
                have HR7 := hid o7.rd
                have HB7 := hid b7
                have HN7 := hid n7
                have HK7 := hid (HB6.out.next (Nat.le_refl _) k7)
                rw [List.length_append, show ([1] : List Nat).length = 1 from rfl] at p7 q7
                clear o7 b7 n7 k7
                go_wp2_with fail
                refine (rtimes_any _ _ l7 R (by omega) (by omega) HB7.out HRLT.out _ HR7.out (by
                  have := (HP.out.below HK7.out HP.out.lt)
                  exact ⟨_, cap, by rw [hrl], fun i hi => ⟨g, 0, rfl, this.lt, by rw [Nat.zero_add]; exact this.cell i hi⟩⟩)).mono ?_
                rintro e w8 ⟨v8, l8, rfl, o8, b8, n8, p8, q8, k8⟩
                have HR8 := hid o8.rd
                have HB8 := hid b8
                have HN8 := hid n8
                have HK8 := hid (HK7.out.next (Nat.le_refl _) k8)
                clear o8 b8 n8 k8
                go_wp2_with fail
                refine (mod_any _ l8 (by omega) HB8.out _ HR8.out).mono ?_
                rintro e w9 ⟨v9, o9, rfl, ow9, b9, n9, l9, k9⟩
                have HK9 := hid (HK8.out.next (Nat.le_refl _) k9)
                have HF := hid (show (∃ sm, Rd w9 v9 sm ∧ (∀ c ∈ sm, c < 256) ∧ sm.length = 17 ∧ Pv.num sm = Pv.acc (Pv.num R) x (k + 1)) ∧ Pre w9 g .i64 3 R ∧ Below w.heap.size w w9 from
                  ⟨⟨o9, ow9.rd, b9, l9, by rw [n9, HN8.out, HN7.out, HSN.out, HAC.out]⟩, HP.out.below HK9.out HP.out.lt, HBL.out.next (Nat.le_refl _) HK9.out⟩)
                clear ow9 b9 n9 l9 k9
                go_wp2_with fail
                exact ⟨⟨k + 1, by omega, congrArg (Value.int .i64) (by omega), HF.out.1, HF.out.2.1, HF.out.2.2⟩, by simp only [intOf]; omega⟩
            · obtain rfl : k = (x.length + 15) / 16 := by omega
              have g1 : ¬ 16 * (((x.length + 15) / 16 : Nat) : Int) < x.length := by omega
              generalize hkk : (x.length + 15) / 16 = kk at *
              clear HP HRLT HEX hkk
              go_wp2_with fail
              refine (HK2.out _).mono ?_
              rintro e w5 ⟨v5, rfl, o5, b5⟩
              have HR5 := hid o5.rd
              have HB5 := hid b5
              clear o5 b5 HK2
              go_wp2_with fail
              refine (rplus_any _ _ sm D (by omega) (by omega) HSB.out HKD.out _ (HRD.out.below HB5.out) HR5.out).mono ?_
              rintro e w6 ⟨v6, l6, rfl, o6, b6, n6, p6, q6, k6⟩
              have HB6 := hid ((HBL.out.next (Nat.le_refl _) HB5.out).next (Nat.le_refl _) k6)
              have HT6 := hid (show T = l6.take 16 from by rw [Pv.take_bytes l6 b6 (by omega), n6, HSN.out, HE.out 0])
              have hl6 : 17 ≤ l6.length := by omega
              obtain ⟨g6, c6, rfl, hg6, hp6⟩ := o6.pre (by omega)
              have HP6 := hid hp6
              have HG6 := hid (getD_lt (by omega) b6)
              clear o6 b6 n6 p6 q6 k6 hp6 HE HSN HRD HR5 HB5 HSB HKD
              go_upto_region 20 with (fail)
              have HO7 := hid (show Own (w6.alloc (.cells #[] 5)) w6.heap.size (.slice (some ⟨w6.heap.size, 0, none⟩) 0 0) (l6.take 0) from
                ⟨rfl, Or.inr ⟨w6.heap.size, 0, _, rfl, Nat.le_refl _, heap_alloc_new _ _, Nat.zero_le _, by unfold maxLen; omega, rfl, rfl⟩⟩)
              have HP7 := hid (HP6.out.alloc (.cells #[] 5))
              have HB7 := hid (HB6.out.alloc HB6.out.size (.cells #[] 5))
              have hw7 : w6.heap.size ≤ (w6.alloc (.cells #[] 5)).heap.size := by simp
              have hg7 := HP6.out.lt
              have hww := HB6.out.size
              clear HP6 HB6
              generalize w6.alloc _ = w7 at *
              generalize w6.heap.size = b7 at *
              go_loopw [12, 13] (fun v i wq => ∃ k : Nat, k ≤ 16 ∧ i = .int .i64 k ∧ Own wq b7 v (l6.take k) ∧ Pre wq g6 .i64 3 l6 ∧ Below w.heap.size w wq ∧ b7 ≤ wq.heap.size)
                (fun _ i _ => 16 - (intOf i).toNat)
              case atStart => exact ⟨0, by omega, rfl, HO7.out, HP7.out, HB7.out, hw7⟩
              case round =>
                clear HO7 HP7 HB7
                obtain ⟨k, hk, rfl, ho, hp, hbel, hb7⟩ := hrel
                have HO := hid ho
                have HP := hid hp
                have HBL2 := hid hbel
                by_cases hlt : k < 16
                · have hcl := hp.cell k (by omega)
                  have hgk := HG6.out k
                  have HTL := hid (show (l6.take k).length = k from by simp; omega)
                  have HTS := hid (take_getD_succ l6 k (by omega))
                  have g2 : (k : Int) < 16 := by omega
                  have g3 : (k : Int) < l6.length := by omega
                  clear ho hp hbel
                  generalize l6.getD k 0 = y at *
                  go_wp2_with (refine wpList_app rfl _ _ rfl b7 _ (l6.take k) rfl (HO.out.below ((Below.refl _ _).alloc (Nat.le_refl _) _)) _ 1 1 [y] rfl rfl (cells_one wr y _) (by rw [HTL.out]; omega) (Nat.le_trans hb7 (by simp)) ?_; intro v' w' hown' hbel')
                  rw [HTS.out] at hown'
                  exact ⟨⟨k + 1, by omega, congrArg (Value.int .i64) (by omega), hown', (HP.out.alloc _).below hbel' hg7, (HBL2.out.alloc HBL2.out.size _).trans (hbel'.mono hww), Nat.le_trans (Nat.le_trans hb7 (by simp)) hbel'.size⟩, by simp only [intOf]; omega⟩
                · obtain rfl : k = 16 := by omega
                  rw [show ((16 : Nat) : Int) = 16 from rfl]
                  have hc := run_ownstr ho
                  rw [← HT6.out] at hc
                  clear ho hp hbel
                  go_wp2
                  go_ret
                  exact ⟨rfl, HBL2.out⟩
end Go.Proofs.YtiolflofkoeffaaDoor
