/-
  The reference of layer 3: what sealwaxref03.Fit and Xor return.
-/
import Derived.Test.YtiolflofkoeffaaDoorStr5
namespace Go.Proofs.YtiolflofkoeffaaDoor
open Go.RowKit
open Go.Lib (hid)

namespace Cx
/-- Byte i of the blocks of the counter and those after it. -/
def xorB (key : List Nat) (c : Nat) (nonce : List Nat) (i : Nat) : Nat := (block key ((c + i / 64) % Sx.M) nonce).getD (i % 64) 0
/-- A text, xored. -/
def xors (key : List Nat) (c : Nat) (nonce s : List Nat) : List Nat := (List.range s.length).map fun i => s.getD i 0 ^^^ xorB key c nonce i
theorem xors_length (key : List Nat) (c : Nat) (nonce s : List Nat) : (xors key c nonce s).length = s.length := by simp [xors]
theorem xorB_lt (key : List Nat) (c : Nat) (nonce : List Nat) (i : Nat) : xorB key c nonce i < 256 := getD_lt (by omega) (block_lt _ _ _) _
theorem xors_get (key : List Nat) (c : Nat) (nonce s : List Nat) (i : Nat) (h : i < s.length) : (xors key c nonce s).getD i 0 = s.getD i 0 ^^^ xorB key c nonce i := by
  simp [xors, h]
theorem xors_lt (key : List Nat) (c : Nat) (nonce s : List Nat) (hs : ∀ x ∈ s, x < 256) : ∀ x ∈ xors key c nonce s, x < 256 := by
  intro x hx
  simp only [xors, List.mem_map] at hx
  obtain ⟨i, _, rfl⟩ := hx
  exact xor_lt256 _ _ (getD_lt (by omega) hs i) (xorB_lt _ _ _ _)
end Cx



set_option maxHeartbeats 2000000 in
set_option maxRecDepth 100000 in
theorem refxor_any (key nonce s : List Nat) (c : Nat) (hk : ∀ x ∈ key, x < 256) (hkl : key.length = 32) (hn : ∀ x ∈ nonce, x < 256) (hnl : nonce.length = 12) (hc : c < Sx.M) (hs : ∀ x ∈ s, x < 256) (hl : s.length ≤ 1000000) (w : World) :
    Calls Tryd.prog 43 #[.string (str key), .int .i64 (c : Int), .string (str nonce), .string (str s)] w fun e w' => e = .returned (.string (str (Cx.xors key c nonce s))) ∧ Below w.heap.size w w' := by
  have HS := hid hs
  have HBA := hid (fun c' hc' wx => refblock_any key nonce c' hk hkl hn hnl hc' wx)
  have hc40 : c < 4294967296 := hc
  have HC := hid (fun _ : Nat => hc40)
  obtain ⟨SS, hSS⟩ : ∃ SS, SS = str s := ⟨_, rfl⟩
  rw [← hSS]
  have HSS := hid hSS
  have HZS := hid (show SS.size = s.length from by rw [hSS, str_size])
  have hSSl : SS.size ≤ 1000000 := by rw [HZS.out]; exact hl
  clear hs hk hn hSS hc40 hc hkl hnl
  go_enter Tryd.func43, Tryd.ntmps43
  go_upto_region 4 with (fail)
  have HO0 := hid (show Own (w.alloc (.cells #[] 5)) w.heap.size (.slice (some ⟨w.heap.size, 0, none⟩) 0 0) [] from
    ⟨rfl, Or.inr ⟨w.heap.size, 0, _, rfl, Nat.le_refl _, heap_alloc_new _ _, Nat.zero_le _, by unfold maxLen; omega, rfl, rfl⟩⟩)
  have HB0 := hid ((Below.refl w.heap.size w).alloc (Nat.le_refl _) (.cells #[] 5))
  generalize w.alloc _ = w0 at *
  go_loopw [9, 10, 11] (fun v b i wr => ∃ k : Nat, k ≤ s.length ∧ i = .int .i64 k ∧ Own wr w.heap.size v ((Cx.xors key c nonce s).take k) ∧ ((k = 0 ∧ b = .string ⟨#[]⟩) ∨ (0 < k ∧ b = .string (str (Cx.block key ((c + (k - 1) / 64) % Sx.M) nonce)))) ∧ Below w.heap.size w wr)
    (fun _ _ i _ => s.length - (intOf i).toNat)
  case atStart => exact ⟨0, by omega, rfl, HO0.out, Or.inl ⟨rfl, rfl⟩, HB0.out⟩
  case round =>
    clear HO0 HB0
    obtain ⟨k, hk, rfl, hown, hb, hbel⟩ := hrel
    by_cases hlt : k < s.length
    · have hlt2 : (k : Int) < (SS.size : Int) := by rw [HZS.out]; omega
      by_cases hm : k % 64 = 0
      · have hm2 : (k : Int) % 64 = 0 := by omega
        obtain ⟨cc, hcc⟩ : ∃ cc, cc = (c + k / 64) % Sx.M := ⟨_, rfl⟩
        have HCB := hid (HBA.out cc (by rw [hcc]; exact Nat.mod_lt _ (by decide)))
        have e1 : ((c : Int) + (k : Int) / 64) % 4294967296 = (cc : Int) := by rw [hcc]; unfold Sx.M; omega
        obtain ⟨SB, hSB⟩ : ∃ SB, SB = str (Cx.block key cc nonce) := ⟨_, rfl⟩
        rw [← hSB] at HCB
        rw [hcc] at hSB
        have HSB := hid hSB
        have hc4 := HC.out 0
        have HBEL0 := hid hbel
        have HOWN0 := hid hown
        have HM := hid hm
        clear hSB hb hbel hown hcc hm
        go_upto_region 8 with (go_at_call 44; refine (HCB.out _).mono ?_; rintro e wr ⟨rfl, hb1⟩)
        have hown := HOWN0.out.below hb1
        have hbel := HBEL0.out.next (Nat.le_refl _) hb1
        clear hb1 HOWN0 HBEL0 HCB e1 hm2 hc4
        have HOWN := hid hown
        have HBEL := hid hbel
        have hsz := hbel.size
        clear hown hbel
        have hb' := HS.out
        have i1 : ∀ hh : k < SS.size, SS[k].toNat = s.getD k 0 := fun hh => by
          have hS := HSS.out
          subst hS
          exact str_get s hb' k hh
        obtain ⟨r, hr⟩ : ∃ r, r = k % 64 := ⟨_, rfl⟩
        have hkm : r < 64 := by omega
        have i2 : ∀ hh : r < SB.size, SB[r].toNat = Cx.xorB key c nonce k := fun hh => by
          have hB := HSB.out
          subst hB
          unfold Cx.xorB
          rw [← hr]
          exact str_get _ (Cx.block_lt _ _ _) r hh
        have zB : SB.size = 64 := by rw [HSB.out, str_size, Cx.block_length]
        have g1 := getD_lt (by omega) hb' k
        have g2 := Cx.xorB_lt key c nonce k
        have hxo := xor8 _ _ g1 g2
        have hxg := Cx.xors_get key c nonce s k hlt
        rw [← hxg] at hxo
        have HTL := hid (show ((Cx.xors key c nonce s).take k).length = k from by rw [List.length_take, Cx.xors_length]; omega)
        have HTS := hid (take_getD_succ (Cx.xors key c nonce s) k (by rw [Cx.xors_length]; exact hlt))
        have HBd := hid (fun m' => show Below wr.heap.size wr (wr.drewN m') from ⟨rfl, rfl, rfl, Nat.le_refl _, fun _ _ => rfl⟩)
        have hks : k < SS.size := by rw [HZS.out]; exact hlt
        have hkb : r < SB.size := by omega
        have j1 := i1 hks
        have j2 := i2 hkb
        have hm64 : (k : Int) % 64 = (r : Int) := by omega
        have HRR := hid hr
        clear hb' hxg i1 i2 hr
        generalize (Cx.xors key c nonce s).getD k 0 = z at *
        generalize s.getD k 0 = x1 at *
        generalize Cx.xorB key c nonce k = x2 at *
        refine wp_region_noPanic ?_
        refine wp_region_f1 8 3 rfl (by kernel_rfl) (by kernel_rfl) (fun _ _ _ _ _ h => h) ?_
        intro hneW
        repeat (go_big_quiet_step (fail))
        refine wpQuiet_nil ?_
        simp only [List.take_succ_cons, List.take_zero, List.drop_succ_cons, List.drop_zero]
        repeat (go_big_quiet_step (fail))
        refine wpQuiet_nil ?_
        intro m
        go_wp2_with (refine wpList_app rfl _ _ rfl w.heap.size _ ((Cx.xors key c nonce s).take k) rfl (HOWN.out.below ((HBd.out m).alloc (Nat.le_refl _) _)) _ 1 1 [z] rfl rfl (cells_one _ z _) (by rw [HTL.out]; omega) (by simp; omega) ?_; intro v' w' hown' hbel')
        refine NoPanic.normal ?_
        go_wp2
        go_roundw
        case rel =>
          rw [HTS.out] at hown'
          first
            | exact ⟨k + 1, by omega, by go_num, hown', Or.inr ⟨by omega, by rw [HSB.out, Nat.add_sub_cancel]⟩, ((HBEL.out.trans ((HBd.out m).mono hsz)).alloc hsz _).trans hbel'⟩
            | ((repeat apply Exists.intro); refine ⟨?_, rfl⟩; exact ⟨k + 1, by omega, by go_num, hown', Or.inr ⟨by omega, by rw [HSB.out, Nat.add_sub_cancel]⟩, ((HBEL.out.trans ((HBd.out m).mono hsz)).alloc hsz _).trans hbel'⟩)
        case measure => simp [intOf]; omega
      · have hm2 : ¬ (k : Int) % 64 = 0 := by omega
        rcases hb with ⟨h0, _⟩ | ⟨_, hb⟩
        · omega
        · have e2 : (k - 1) / 64 = k / 64 := by omega
          rw [e2] at hb
          obtain ⟨SB, hSB⟩ : ∃ SB, SB = str (Cx.block key ((c + k / 64) % Sx.M) nonce) := ⟨_, rfl⟩
          rw [← hSB] at hb
          have HSB := hid hSB
          subst hb
          clear hSB e2
          go_upto_region 8 with (fail)
          clear hm2 hm
          have HOWN := hid hown
          have HBEL := hid hbel
          have hsz := hbel.size
          clear hown hbel
          have hb' := HS.out
          have i1 : ∀ hh : k < SS.size, SS[k].toNat = s.getD k 0 := fun hh => by
            have hS := HSS.out
            subst hS
            exact str_get s hb' k hh
          obtain ⟨r, hr⟩ : ∃ r, r = k % 64 := ⟨_, rfl⟩
          have hkm : r < 64 := by omega
          have i2 : ∀ hh : r < SB.size, SB[r].toNat = Cx.xorB key c nonce k := fun hh => by
            have hB := HSB.out
            subst hB
            unfold Cx.xorB
            rw [← hr]
            exact str_get _ (Cx.block_lt _ _ _) r hh
          have zB : SB.size = 64 := by rw [HSB.out, str_size, Cx.block_length]
          have g1 := getD_lt (by omega) hb' k
          have g2 := Cx.xorB_lt key c nonce k
          have hxo := xor8 _ _ g1 g2
          have hxg := Cx.xors_get key c nonce s k hlt
          rw [← hxg] at hxo
          have HTL := hid (show ((Cx.xors key c nonce s).take k).length = k from by rw [List.length_take, Cx.xors_length]; omega)
          have HTS := hid (take_getD_succ (Cx.xors key c nonce s) k (by rw [Cx.xors_length]; exact hlt))
          have HBd := hid (fun m' => show Below wr.heap.size wr (wr.drewN m') from ⟨rfl, rfl, rfl, Nat.le_refl _, fun _ _ => rfl⟩)
          have hks : k < SS.size := by rw [HZS.out]; exact hlt
          have hkb : r < SB.size := by omega
          have j1 := i1 hks
          have j2 := i2 hkb
          have hm64 : (k : Int) % 64 = (r : Int) := by omega
          have HRR := hid hr
          clear hb' hxg i1 i2 hr
          generalize (Cx.xors key c nonce s).getD k 0 = z at *
          generalize s.getD k 0 = x1 at *
          generalize Cx.xorB key c nonce k = x2 at *
          refine wp_region_noPanic ?_
          refine wp_region_f1 8 3 rfl (by kernel_rfl) (by kernel_rfl) (fun _ _ _ _ _ h => h) ?_
          intro hneW
          repeat (go_big_quiet_step (fail))
          refine wpQuiet_nil ?_
          simp only [List.take_succ_cons, List.take_zero, List.drop_succ_cons, List.drop_zero]
          repeat (go_big_quiet_step (fail))
          refine wpQuiet_nil ?_
          intro m
          go_wp2_with (refine wpList_app rfl _ _ rfl w.heap.size _ ((Cx.xors key c nonce s).take k) rfl (HOWN.out.below ((HBd.out m).alloc (Nat.le_refl _) _)) _ 1 1 [z] rfl rfl (cells_one _ z _) (by rw [HTL.out]; omega) (by simp; omega) ?_; intro v' w' hown' hbel')
          refine NoPanic.normal ?_
          go_wp2
          go_roundw
          case rel =>
            rw [HTS.out] at hown'
            first
              | exact ⟨k + 1, by omega, by go_num, hown', Or.inr ⟨by omega, by rw [HSB.out, Nat.add_sub_cancel]⟩, ((HBEL.out.trans ((HBd.out m).mono hsz)).alloc hsz _).trans hbel'⟩
              | ((repeat apply Exists.intro); refine ⟨?_, rfl⟩; exact ⟨k + 1, by omega, by go_num, hown', Or.inr ⟨by omega, by rw [HSB.out, Nat.add_sub_cancel]⟩, ((HBEL.out.trans ((HBd.out m).mono hsz)).alloc hsz _).trans hbel'⟩)
          case measure => simp [intOf]; omega
    · obtain rfl : k = s.length := by omega
      have hge : ¬ ((s.length : Int)) < (SS.size : Int) := by rw [HZS.out]; omega
      have hcv := run_ownstr hown
      rw [List.take_of_length_le (by rw [Cx.xors_length]; omega)] at hcv
      have HB9 := hid hbel
      clear hown hbel hb
      go_wp2
      go_ret
      exact ⟨rfl, HB9.out⟩
end Go.Proofs.YtiolflofkoeffaaDoor
