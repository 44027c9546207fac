/-
  The reference of layer 3: what sealwaxref03.number and Block return.
-/
import Derived.Test.YtiolflofkoeffaaDoorRef3
namespace Go.Proofs.YtiolflofkoeffaaDoor
open Go.RowKit
open Go.Lib (hid)

set_option maxHeartbeats 1000000 in
theorem refnum_any (l : List Nat) (h : ∀ x ∈ l, x < 256) (hl : l.length = 4) (w : World) :
    Calls Tryd.prog 62 #[.string (str l)] w fun e w' => e = .returned (.int .i64 (Cx.le4 l 0 : Nat)) ∧ ∃ m, w' = w.drewN m := by
  have i0 := fun hh => str_get l h 0 hh
  have i1 := fun hh => str_get l h 1 hh
  have i2 := fun hh => str_get l h 2 hh
  have i3 := fun hh => str_get l h 3 hh
  have q0 := getD_lt (by omega) h 0
  have q1 := getD_lt (by omega) h 1
  have q2 := getD_lt (by omega) h 2
  have q3 := getD_lt (by omega) h 3
  have hs : (str l).size = 4 := by rw [str_size, hl]
  have HV : Hid (∀ n : Nat, l.getD 0 0 + 256 * l.getD 1 0 + 65536 * l.getD 2 0 + 16777216 * l.getD 3 0 = Cx.le4 l 0) := fun _ => rfl
  generalize Cx.le4 l 0 = z at *
  generalize l.getD 0 0 = x0 at *
  generalize l.getD 1 0 = x1 at *
  generalize l.getD 2 0 = x2 at *
  generalize l.getD 3 0 = x3 at *
  generalize str l = S at *
  clear h hl
  go_enter Tryd.func62, Tryd.ntmps62
  go_wp2
  go_quiet (fail)
  go_wp2
  go_ret
  refine ⟨ret_int ?_, _, rfl⟩
  rw [← HV.out 0]
  omega

namespace Cx
theorem le4_slice (l : List Nat) (k : Nat) : le4 ((l.drop (4 * k)).take 4) 0 = le4 l k := by
  unfold le4
  simp [List.getElem?_take, List.getElem?_drop]
theorem quarters_col (k : Nat) (h : k < 4) : quarters.getD k [] = [k, 4 + k, 8 + k, 12 + k] := by revert k; decide
theorem quarters_dia (k : Nat) (h : k < 4) : quarters.getD (4 + k) [] = [k, 4 + (k + 1) % 4, 8 + (k + 2) % 4, 12 + (k + 3) % 4] := by revert k; decide
theorem part_col (x : List Nat) (k : Nat) (h : k < 4) : quarter (part x k) k (4 + k) (8 + k) (12 + k) = part x (k + 1) := by
  rw [part_succ x k (by omega), quarters_col k h]; rfl
theorem part_dia (x : List Nat) (k : Nat) (h : k < 4) : quarter (part x (4 + k)) k (4 + (k + 1) % 4) (8 + (k + 2) % 4) (12 + (k + 3) % 4) = part x (4 + (k + 1)) := by
  rw [show 4 + (k + 1) = (4 + k) + 1 from by omega, part_succ x (4 + k) (by omega), quarters_dia k h]; rfl
theorem addM_comm (l r : List Nat) : addM l r = addM r l := by
  unfold addM
  rw [List.zipWith_comm]
  congr 1
  funext x y
  rw [Nat.add_comm]
theorem addM_get (l r : List Nat) (hl : l.length = 16) (hr : r.length = 16) (k : Nat) (hk : k < 16) : (addM l r).getD k 0 = (l.getD k 0 + r.getD k 0) % Sx.M := by
  have h1 : k < l.length := by omega
  have h2 : k < r.length := by omega
  simp [addM, List.getElem?_zipWith, List.getElem?_eq_getElem h1, List.getElem?_eq_getElem h2]
end Cx
theorem M_lt40 (d : Nat) (h : d < Sx.M) : d < 2 ^ 40 := by unfold Sx.M at h; omega
/-- A slice of a text that is a list of bytes. -/
theorem str_mid (T : List Nat) (a b n : Nat) (h : b = a + n) (hT : ∀ x ∈ T, x < 256) : (str T).extract a b = str ((T.drop a).take n) := by rw [h]; exact extract_mid T hT a n
theorem refnum_at (T : List Nat) (hT : ∀ x ∈ T, x < 256) (k : Nat) (hk : 4 * k + 4 ≤ T.length) (w : World) :
    Calls Tryd.prog 62 #[.string (str ((T.drop (4 * k)).take 4))] w fun e w' => e = .returned (.int .i64 (Cx.le4 T k : Nat)) ∧ ∃ m, w' = w.drewN m := by
  have h := refnum_any ((T.drop (4 * k)).take 4) (fun x hx => hT x (List.mem_of_mem_drop (List.mem_of_mem_take hx))) (by simp; omega) w
  rwa [Cx.le4_slice] at h
theorem OwnI.built (w : World) (base : Nat) (l : List Nat) (hb : base ≤ w.heap.size) (hl : l.length ≤ 1000) :
    OwnI (w.alloc (.cells (ints .i64 l) 3)) base (.slice (some ⟨w.heap.size, 0, none⟩) l.length l.length) l :=
  ⟨by rw [ints_llen]; omega, Or.inr ⟨w.heap.size, l.length, ints .i64 l, rfl, hb, heap_alloc_new _ _, Nat.le_refl _, by unfold maxLen; omega, by rw [ints_size]; omega, by rw [Nat.mul_one, List.take_of_length_le (by rw [ints_llen]; omega)]⟩⟩
theorem cells_fourI (w : World) (x y z u : Nat) (t : TypeId) : ∀ j, j < 4 → (w.alloc (.cells #[.int .i64 (x : Int), .int .i64 (y : Int), .int .i64 (z : Int), .int .i64 (u : Int)] t)).cell? ((⟨w.heap.size, 0, none⟩ : Addr).add j) = some (.int .i64 ([x, y, z, u].getD j 0 : Nat)) := by
  intro j hj
  rw [Addr.add_mid, Nat.zero_add, cell_of_row _ _ _ _ _ _ (heap_alloc_new _ _)]
  obtain rfl | rfl | rfl | rfl : j = 0 ∨ j = 1 ∨ j = 2 ∨ j = 3 := by omega
  all_goals rfl

set_option maxHeartbeats 4000000 in
set_option maxRecDepth 100000 in
theorem refblock_any (key nonce : List Nat) (c : Nat) (hk : ∀ x ∈ key, x < 256) (hkl : key.length = 32) (hn : ∀ x ∈ nonce, x < 256) (hnl : nonce.length = 12) (hc : c < Sx.M) (w : World) :
    Calls Tryd.prog 44 #[.string (str key), .int .i64 (c : Int), .string (str nonce)] w fun e w' => e = .returned (.string (str (Cx.block key c nonce))) ∧ Below w.heap.size w w' := by
  have zk : (str key).size = 32 := by rw [str_size, hkl]
  have zn : (str nonce).size = 12 := by rw [str_size, hnl]
  have HNK := hid (fun k hk2 wx => refnum_at key hk k hk2 wx)
  have HEK := hid (fun k => str_mid key (4 * k) (4 * k + 4) 4 rfl hk)
  have e0 := str_mid nonce 0 4 4 rfl hn
  have e1 := str_mid nonce 4 8 4 rfl hn
  have e2 := str_mid nonce 8 12 4 rfl hn
  have HN0 := hid (fun wx => refnum_at nonce hn 0 (by omega) wx)
  have HN1 := hid (fun wx => refnum_at nonce hn 1 (by omega) wx)
  have HN2 := hid (fun wx => refnum_at nonce hn 2 (by omega) wx)
  have HOK := hid (Cx.init_ok key c nonce hk hn hc)
  have HIL := hid (Cx.init_length key c nonce)
  have HIN : Hid (∀ n : Nat, (Cx.c4 ++ Cx.les key 8) ++ [c, Cx.le4 nonce 0, Cx.le4 nonce 1, Cx.le4 nonce 2] = Cx.init key c nonce) := fun _ => by simp [Cx.init, Cx.c4, Cx.les, List.range_succ]
  have HBK : Hid (∀ n, n = 10 → Cx.out (Cx.addM (Cx.rounds (Cx.init key c nonce) n) (Cx.init key c nonce)) = Cx.block key c nonce) := fun n h => by rw [h]; rfl
  generalize Cx.init key c nonce = ini at *
  generalize Cx.block key c nonce = blk at *
  obtain ⟨SK, hSK⟩ : ∃ SK, SK = str key := ⟨_, rfl⟩
  rw [← hSK] at zk ⊢
  simp only [← hSK] at HEK
  have EC : Hid ((.cells #[.int .i64 1634760805, .int .i64 857760878, .int .i64 2036477234, .int .i64 1797285236] 3 : Obj) = .cells (ints .i64 Cx.c4) 3) := rfl
  clear hk hn hSK
  go_enter Tryd.func44, Tryd.ntmps44
  go_upto_region 3 with (fail)
  rw [EC.out]
  have HO0 := hid (OwnI.built w w.heap.size Cx.c4 (Nat.le_refl _) (by decide))
  have HB0 := hid ((Below.refl w.heap.size w).alloc (Nat.le_refl _) (.cells (ints .i64 Cx.c4) 3))
  rw [show Cx.c4.length = 4 from rfl] at HO0
  clear EC
  generalize w.alloc _ = w0 at *
  go_loopw [7, 8] (fun v i wr => ∃ k : Nat, k ≤ 8 ∧ i = .int .i64 (4 * (k : Int)) ∧ OwnI wr w.heap.size v (Cx.c4 ++ Cx.les key k) ∧ Below w.heap.size w wr)
    (fun _ i _ => 32 - (intOf i).toNat)
  case atStart => exact ⟨0, by omega, rfl, HO0.out, HB0.out⟩
  case round =>
    clear HO0 HB0
    obtain ⟨k, hk, rfl, hown, hbel⟩ := hrel
    have HOW := hid hown
    have HBL := hid hbel
    have hsz := hbel.size
    clear hown hbel
    by_cases hlt : k < 8
    · have hex := HEK.out k
      have HC := hid (fun wx => HNK.out k (by omega) wx)
      have HTS := hid (show (Cx.c4 ++ Cx.les key k) ++ [Cx.le4 key k] = Cx.c4 ++ Cx.les key (k + 1) from by rw [Cx.les_succ, List.append_assoc])
      have HTL := hid (show (Cx.c4 ++ Cx.les key k).length = 4 + k from by rw [List.length_append, Cx.les_length]; rfl)
      have g0 : 4 * (k : Int) + 4 ≤ (SK.size : Int) := by rw [zk]; omega
      have HBd := hid (fun m' => show Below wr.heap.size wr (wr.drewN m') from ⟨rfl, rfl, rfl, Nat.le_refl _, fun _ _ => rfl⟩)
      generalize Cx.le4 key k = v at *
      generalize str ((key.drop (4 * k)).take 4) = S4 at *
      go_wp2_with (first
        | (go_at_call 62; refine (HC.out _).mono ?_; rintro e w' ⟨rfl, m, rfl⟩)
        | (refine wpList_appI rfl _ _ rfl w.heap.size _ (Cx.c4 ++ Cx.les key k) rfl (HOW.out.below ((HBd.out m).alloc (Nat.le_refl _) _)) _ 1 1 [v] rfl rfl (cells_oneI _ v _) (by rw [HTL.out]; omega) (by simp; omega) ?_; intro v' w' hown' hbel'))
      go_roundw
      case rel =>
        rw [HTS.out] at hown'
        first
          | exact ⟨k + 1, by omega, by go_num, hown', ((HBL.out.trans ((HBd.out m).mono hsz)).alloc hsz _).trans hbel'⟩
          | ((repeat apply Exists.intro); refine ⟨?_, rfl⟩; exact ⟨k + 1, by omega, by go_num, hown', ((HBL.out.trans ((HBd.out m).mono hsz)).alloc hsz _).trans hbel'⟩)
      case measure => simp [intOf]; omega
    · obtain rfl : k = 8 := by omega
      rw [show (4 * ((8 : Nat) : Int)) = 32 from rfl]
      clear HEK HNK
      have HTL := hid (show (Cx.c4 ++ Cx.les key 8).length = 12 from by rw [List.length_append, Cx.les_length]; rfl)
      have HIN2 := hid (HIN.out 0)
      have HBd := hid (fun m' => show Below wr.heap.size wr (wr.drewN m') from ⟨rfl, rfl, rfl, Nat.le_refl _, fun _ _ => rfl⟩)
      simp only [Nat.mul_zero, Nat.mul_one, Nat.reduceMul] at HN0 HN1 HN2
      generalize Cx.c4 ++ Cx.les key 8 = pre at *
      generalize Cx.le4 nonce 0 = n0 at *
      generalize Cx.le4 nonce 1 = n1 at *
      generalize Cx.le4 nonce 2 = n2 at *
      generalize str ((nonce.drop 0).take 4) = T0 at *
      generalize str ((nonce.drop 4).take 4) = T1 at *
      generalize str ((nonce.drop 8).take 4) = T2 at *
      clear HIN
      go_upto_region 6 with (fail)
      refine wp_region_noPanic ?_
      refine wp_region_f1 10 3 rfl (by kernel_rfl) (by kernel_rfl) (fun _ _ _ _ _ h => h) ?_
      intro hneW
      repeat (go_big_quiet_step (fail))
      refine wpQuiet_nil ?_
      simp only [List.take_succ_cons, List.take_zero, List.drop_succ_cons, List.drop_zero]
      repeat (go_big_quiet_step ((go_at_call 62; first | with_reducible exact Calls.quiet_of (HN0.out _) | with_reducible exact Calls.quiet_of (HN1.out _) | with_reducible exact Calls.quiet_of (HN2.out _))))
      refine wpQuiet_nil ?_
      intro m
      go_wp2_with (refine wpList_appI rfl _ _ rfl w.heap.size _ pre rfl (HOW.out.below ((HBd.out m).alloc (Nat.le_refl _) _)) _ 4 4 [c, n0, n1, n2] rfl rfl (cells_fourI _ c n0 n1 n2 _) (by rw [HTL.out]; omega) (by simp; omega) ?_; intro v' w1 hown' hbel')
      rw [HIN2.out] at hown'
      have HOW2 := hid hown'
      have HB2 := hid (((HBL.out.trans ((HBd.out m).mono hsz)).alloc hsz _).trans hbel')
      clear hown' hbel' HOW HBL HBd HN0 HN1 HN2 e0 e1 e2 HTL HIN2
      refine NoPanic.normal ?_
      obtain ⟨bx, capx, hv, hbx, prx⟩ := HOW2.out.pre (by rw [HIL.out]; omega)
      rw [HIL.out] at hv
      subst hv
      have hbx1 := prx.lt
      have HPX := hid (prx.alloc (.cells #[] 3))
      have HO3 := hid (show OwnI (w1.alloc (.cells #[] 3)) w1.heap.size (.slice (some ⟨w1.heap.size, 0, none⟩) 0 0) [] from
        ⟨rfl, Or.inr ⟨w1.heap.size, 0, _, rfl, Nat.le_refl _, heap_alloc_new _ _, Nat.zero_le _, by unfold maxLen; omega, rfl, rfl⟩⟩)
      have HB3 := hid (HB2.out.alloc HB2.out.size (.cells #[] 3))
      have hw1 : w1.heap.size ≤ (w1.alloc (.cells #[] 3)).heap.size := by simp
      have hbw1 : w.heap.size ≤ w1.heap.size := HB2.out.size
      clear prx HOW2 HB2
      go_wp2_with (refine wpList_appI rfl _ _ rfl w1.heap.size _ [] rfl HO3.out ⟨bx, 0, none⟩ 16 capx ini rfl HIL.out (fun j hj => by rw [Addr.add_mid, Nat.zero_add]; exact HPX.out.cell j (by rw [HIL.out]; exact hj)) (by simp) hw1 ?_; intro v2 w2 hown2 hbel2)
      rw [List.nil_append] at hown2
      obtain ⟨by', capy, hv, hby, pry⟩ := hown2.pre (by rw [HIL.out]; omega)
      rw [HIL.out] at hv
      subst hv
      have HPX2 := hid (HPX.out.below hbel2 hbx1)
      have HPY := hid pry
      have HB4 := hid (HB3.out.trans (hbel2.mono hbw1))
      have hne : bx < by' := by omega
      have hby1 : w.heap.size ≤ by' := by omega
      clear hown2 hbel2 pry HPX HO3 HB3 hw1 hby hbx1
      go_upto_region 9 with (fail)
      go_loopw [10] (fun i wr => ∃ n : Nat, n ≤ 10 ∧ i = .int .i64 n ∧ Pre wr bx .i64 3 ini ∧ Pre wr by' .i64 3 (Cx.rounds ini n) ∧ Below w.heap.size w wr)
        (fun i _ => 10 - (intOf i).toNat)
      case atStart => exact ⟨0, by omega, rfl, HPX2.out, HPY.out, HB4.out⟩
      case round =>
        clear HPX2 HPY HB4
        obtain ⟨n, hn, rfl, px, py, hbel⟩ := hrel
        have HPX := hid px
        have HPY := hid py
        have HBL := hid hbel
        clear px py hbel
        by_cases hlt10 : n < 10
        · have HOR := hid (HOK.out.rounds n)
          have HRL := hid (show (Cx.rounds ini n).length = 16 from by rw [Cx.rounds_length, HIL.out])
          have HNX : Hid (∀ j : Nat, Cx.part (Cx.rounds ini n) 8 = Cx.rounds ini (n + 1)) := fun _ => rfl
          generalize Cx.rounds ini n = xr at *
          have hn10 : (n : Int) < 10 := by omega
          go_upto_region 12 with (fail)
          go_loopw [11] (fun i wr => ∃ k : Nat, k ≤ 4 ∧ i = .int .i64 k ∧ Pre wr bx .i64 3 ini ∧ Pre wr by' .i64 3 (Cx.part xr k) ∧ Below w.heap.size w wr)
            (fun i _ => 4 - (intOf i).toNat)
          case atStart => exact ⟨0, by omega, rfl, HPX.out, HPY.out, HBL.out⟩
          case round =>
            clear HPX HPY HBL
            obtain ⟨k, hk, rfl, px, py, hbel⟩ := hrel
            by_cases hlt4 : k < 4
            · have HC := hid (refq_any by' capy (Cx.part xr k) k (4 + k) (8 + k) (12 + k) (HOR.out.part k) (by rw [Cx.part_length, HRL.out]) (by omega) (by omega) (by omega) (by omega) wr py)
              rw [Cx.part_col xr k hlt4, show ((4 + k : Nat) : Int) = 4 + (k : Int) from by omega, show ((8 + k : Nat) : Int) = 8 + (k : Int) from by omega, show ((12 + k : Nat) : Int) = 12 + (k : Int) from by omega] at HC
              have HPX := hid px
              have HBL := hid hbel
              clear px py hbel
              go_wp2_with fail
              refine HC.out.mono ?_
              rintro e w' ⟨rfl, r', k'⟩
              go_wp2_with fail
              go_roundw
              case rel =>
                first
                  | exact ⟨k + 1, by omega, by go_num, HPX.out.keptB k' (by omega), r', HBL.out.trans (k'.below hby1 HBL.out.size)⟩
                  | ((repeat apply Exists.intro); refine ⟨?_, rfl⟩; exact ⟨k + 1, by omega, by go_num, HPX.out.keptB k' (by omega), r', HBL.out.trans (k'.below hby1 HBL.out.size)⟩)
              case measure => simp [intOf]; omega
            · obtain rfl : k = 4 := by omega
              have HPX := hid px
              have HPY := hid py
              have HBL := hid hbel
              clear px py hbel
              rw [show ((4 : Nat) : Int) = 4 from rfl]
              go_upto_region 16 with (fail)
              go_loopw [12] (fun i wr => ∃ k : Nat, k ≤ 4 ∧ i = .int .i64 k ∧ Pre wr bx .i64 3 ini ∧ Pre wr by' .i64 3 (Cx.part xr (4 + k)) ∧ Below w.heap.size w wr)
                (fun i _ => 4 - (intOf i).toNat)
              case atStart => exact ⟨0, by omega, rfl, HPX.out, HPY.out, HBL.out⟩
              case round =>
                clear HPX HPY HBL
                obtain ⟨k, hk, rfl, px, py, hbel⟩ := hrel
                by_cases hlt5 : k < 4
                · have HC := hid (refq_any by' capy (Cx.part xr (4 + k)) k (4 + (k + 1) % 4) (8 + (k + 2) % 4) (12 + (k + 3) % 4) (HOR.out.part (4 + k)) (by rw [Cx.part_length, HRL.out]) (by omega) (by omega) (by omega) (by omega) wr py)
                  rw [Cx.part_dia xr k hlt5, show ((4 + (k + 1) % 4 : Nat) : Int) = 4 + ((k : Int) + 1) % 4 from by omega, show ((8 + (k + 2) % 4 : Nat) : Int) = 8 + ((k : Int) + 2) % 4 from by omega, show ((12 + (k + 3) % 4 : Nat) : Int) = 12 + ((k : Int) + 3) % 4 from by omega] at HC
                  have HPX := hid px
                  have HBL := hid hbel
                  clear px py hbel
                  go_wp2_with fail
                  refine HC.out.mono ?_
                  rintro e w' ⟨rfl, r', k'⟩
                  go_wp2_with fail
                  go_roundw
                  case rel =>
                    first
                      | exact ⟨k + 1, by omega, by go_num, HPX.out.keptB k' (by omega), r', HBL.out.trans (k'.below hby1 HBL.out.size)⟩
                      | ((repeat apply Exists.intro); refine ⟨?_, rfl⟩; exact ⟨k + 1, by omega, by go_num, HPX.out.keptB k' (by omega), r', HBL.out.trans (k'.below hby1 HBL.out.size)⟩)
                  case measure => simp [intOf]; omega
                · obtain rfl : k = 4 := by omega
                  rw [show 4 + 4 = 8 from rfl, HNX.out 0] at py
                  have HPX := hid px
                  have HPY := hid py
                  have HBL := hid hbel
                  clear px py hbel
                  rw [show ((4 : Nat) : Int) = 4 from rfl]
                  go_wp2_with fail
                  go_roundw
                  case rel =>
                    first
                      | exact ⟨n + 1, by omega, by go_num, HPX.out, HPY.out, HBL.out⟩
                      | ((repeat apply Exists.intro); refine ⟨?_, rfl⟩; exact ⟨n + 1, by omega, by go_num, HPX.out, HPY.out, HBL.out⟩)
                  case measure => simp [intOf]; omega
        · obtain rfl : n = 10 := by omega
          rw [show ((10 : Nat) : Int) = 10 from rfl]
          have HRL := hid (show (Cx.rounds ini 10).length = 16 from by rw [Cx.rounds_length, HIL.out])
          have HOR := hid (HOK.out.rounds 10)
          have HBK2 : Hid (∀ n : Nat, Cx.out (Cx.addM ini (Cx.rounds ini 10)) = blk) := fun _ => by rw [Cx.addM_comm]; exact HBK.out 10 rfl
          generalize Cx.rounds ini 10 = xr at *
          have hpx := HPX.out.lt
          have hpy := HPY.out.lt
          have HPX1 := hid (HPX.out.alloc (.cells #[] 5))
          have HPY1 := hid (HPY.out.alloc (.cells #[] 5))
          have HB1 := hid (HBL.out.alloc HBL.out.size (.cells #[] 5))
          have HO1 := hid (show Own (wr.alloc (.cells #[] 5)) wr.heap.size (.slice (some ⟨wr.heap.size, 0, none⟩) 0 0) [] from
            ⟨rfl, Or.inr ⟨wr.heap.size, 0, _, rfl, Nat.le_refl _, heap_alloc_new _ _, Nat.zero_le _, by unfold maxLen; omega, rfl, rfl⟩⟩)
          have hw1 : wr.heap.size ≤ (wr.alloc (.cells #[] 5)).heap.size := by simp
          have hwb : w.heap.size ≤ wr.heap.size := HBL.out.size
          obtain ⟨A, hA⟩ : ∃ A, A = Cx.addM ini xr := ⟨_, rfl⟩
          have HAG := hid (fun k hk => Cx.addM_get ini xr HIL.out HRL.out k hk)
          have HAL : Hid (A.length = 16) := by rw [hA, Cx.addM_length, HIL.out, HRL.out]; exact rfl
          rw [← hA] at HAG HBK2
          clear HPX HPY HBL HBK hA
          go_upto_region 21 with (fail)
          generalize wr.alloc _ = w3 at *
          generalize wr.heap.size = bO at *
          go_loopw [13, 85] (fun v i wq => ∃ k : Nat, k ≤ 16 ∧ i = .int .i64 k ∧ Own wq bO v (Cx.out (A.take k)) ∧ Pre wq bx .i64 3 ini ∧ Pre wq by' .i64 3 xr ∧ bO ≤ wq.heap.size ∧ Below w.heap.size w wq)
            (fun _ i _ => 16 - (intOf i).toNat)
          case atStart => exact ⟨0, by omega, rfl, HO1.out, HPX1.out, HPY1.out, hw1, HB1.out⟩
          case round =>
            clear HO1 HPX1 HPY1 HB1
            obtain ⟨k, hk, rfl, hown, px, py, hO, hbel⟩ := hrel
            by_cases hlt16 : k < 16
            · have cx := fun m => show (wr.drewN m).cell? ⟨bx, k, none⟩ = _ from px.cell k (by rw [HIL.out]; exact hlt16)
              have cy := fun m => show (wr.drewN m).cell? ⟨by', k, none⟩ = _ from py.cell k (by rw [HRL.out]; exact hlt16)
              have g1 := M_lt40 _ (HOK.out.get k)
              have g2 := M_lt40 _ (HOR.out.get k)
              have s1 := sumI _ _ g1 g2
              have q1 := modI (ini.getD k 0 + xr.getD k 0)
              have p1 := tmodI (ini.getD k 0 + xr.getD k 0)
              have hAk := HAG.out k hlt16
              have hvl : A.getD k 0 < 4294967296 := by rw [hAk]; exact Nat.mod_lt _ (by decide)
              rw [← hAk] at q1 p1
              have HTS := hid (show Cx.out (A.take k) ++ Cx.bytes4 (A.getD k 0) = Cx.out (A.take (k + 1)) from Cx.out_next A k (by rw [HAL.out]; exact hlt16))
              have HTL := hid (show (Cx.out (A.take k)).length = 4 * k from by rw [Cx.out_length, List.length_take, HAL.out]; omega)
              have HOWN := hid hown
              have HPX := hid px
              have HPY := hid py
              have HBL := hid hbel
              have HBd := hid (fun m' => show Below wr.heap.size wr (wr.drewN m') from ⟨rfl, rfl, rfl, Nat.le_refl _, fun _ _ => rfl⟩)
              clear hown px py hbel hAk g1 g2
              generalize A.getD k 0 = v at *
              generalize ini.getD k 0 + xr.getD k 0 = sm at *
              generalize ini.getD k 0 = x1 at *
              generalize xr.getD k 0 = x2 at *
              go_upto_region 23 with (fail)
              go_quiet (fail)
              clear cx cy s1 q1 p1
              have d0 : (v : Int) % 256 = ((v % 256 : Nat) : Int) := by omega
              have d1 : (v : Int) / 256 % 256 = ((v / 256 % 256 : Nat) : Int) := by omega
              have d2 : (v : Int) / 65536 % 256 = ((v / 65536 % 256 : Nat) : Int) := by omega
              have d3 : (v : Int) / 16777216 = ((v / 16777216 % 256 : Nat) : Int) := by omega
              have l0 : v % 256 < 256 := by omega
              have l1 : v / 256 % 256 < 256 := by omega
              have l2 : v / 65536 % 256 < 256 := by omega
              have l3 : v / 16777216 % 256 < 256 := by omega
              have HB4 : Hid (∀ n : Nat, [v % 256, v / 256 % 256, v / 65536 % 256, v / 16777216 % 256] = Cx.bytes4 v) := fun _ => rfl
              generalize v % 256 = y0 at *
              generalize v / 256 % 256 = y1 at *
              generalize v / 65536 % 256 = y2 at *
              generalize v / 16777216 % 256 = y3 at *
              go_wp2_with (refine wpList_app rfl _ _ rfl bO _ (Cx.out (A.take k)) rfl (HOWN.out.below ((HBd.out nq).alloc (Nat.le_refl _) _)) _ 4 4 [y0, y1, y2, y3] rfl rfl (cells_four _ y0 y1 y2 y3 _) (by rw [HTL.out]; omega) (by simp; omega) ?_; intro v' w' hown' hbel')
              go_roundw
              case rel =>
                rw [HB4.out 0, HTS.out] at hown'
                first
                  | exact ⟨k + 1, by omega, by go_num, hown', ((Pre.alloc (w := wr.drewN nq) HPX.out _)).below hbel' (by omega), ((Pre.alloc (w := wr.drewN nq) HPY.out _)).below hbel' (by omega), Nat.le_trans (by simp; omega) hbel'.size, ((HBL.out.trans ((HBd.out nq).mono HBL.out.size)).alloc HBL.out.size _).trans (hbel'.mono hwb)⟩
                  | ((repeat apply Exists.intro); refine ⟨?_, rfl⟩; exact ⟨k + 1, by omega, by go_num, hown', ((Pre.alloc (w := wr.drewN nq) HPX.out _)).below hbel' (by omega), ((Pre.alloc (w := wr.drewN nq) HPY.out _)).below hbel' (by omega), Nat.le_trans (by simp; omega) hbel'.size, ((HBL.out.trans ((HBd.out nq).mono HBL.out.size)).alloc HBL.out.size _).trans (hbel'.mono hwb)⟩)
              case measure => simp [intOf]; omega
            · obtain rfl : k = 16 := by omega
              have hcv := run_ownstr hown
              rw [List.take_of_length_le (by rw [HAL.out]; omega), HBK2.out 0] at hcv
              have HB9 := hid hbel
              clear hown px py hbel
              go_wp2
              go_ret
              exact ⟨rfl, HB9.out⟩
end Go.Proofs.YtiolflofkoeffaaDoor
