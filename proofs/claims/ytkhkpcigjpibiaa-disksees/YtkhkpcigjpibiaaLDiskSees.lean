/-
  What was written last is read, flushed or not; each step shows in the view (law DiskSees); for every input.
-/
import Derived.Test.YtkhkpcigjpibiaaDk22
namespace Go.Proofs.Ytkhkpcigjpibiaa
open Go.ChangeShapes Go.WideShapes Go.ChangeAt Go.RowKit Go.Shelf
open Go.Conc
open Go.Lib (hid)

attribute [local go_sem] Oper.semAt_some

namespace DiskSees
theorem infoActS : (Try.prog.info? 36).map (·.size) = some 5 := by kernel_rfl
set_option maxHeartbeats 8000000 in
set_option maxRecDepth 100000 in
theorem walk (ao : Option Addr) (L : List Dv.A) (cap : Nat) (w : World) (hR : ActsD w ao L) (_hL : L.length ≤ maxLen) (hb : ∀ i, i < L.length → (L.getD i Dv.A.z).t.size ≤ maxLen) :
    Calls Try.prog 6 #[.slice ao L.length cap] w fun e w' => e = .returned (.bool true) ∧ Below w.heap.size w w' := by
  have HNEW := hid (fun (wx : World) => new_any 8 3 8 3 rfl rfl wx)
  have HAW := hid (fun (wx : World) => awake_any wx)
  have HPE := hid (fun (wx : World) => page_any ⟨#[]⟩ (by decide) wx)
  rw [show Dv.page ⟨#[]⟩ = Dv.zs from Dv.page_nil] at HPE
  go_enter Try.func6, Try.ntmps6
  go_upto_region 6 with (first
    | (go_at_call 9; refine (HAW.out _).mono ?_; rintro e w1 ⟨rfl, hb1⟩)
    | (go_at_call 10; refine (HNEW.out _).mono ?_; rintro e w2 ⟨d, gs, c, pc, rfl, hd2, hb2, hld, hlg, hlc⟩))
  have HBW := hid (hb1.trans (hb2.mono hb1.size))
  have hs1 := hb1.size
  have HDD := hid (show ∀ b, dkB d gs c (.slice none 0 0) b → w.heap.size ≤ b from by
    rintro b (hb | hb | hb | hb)
    · omega
    · omega
    · omega
    · cases hb)
  have HD2 := hid hd2
  have hmk : ∀ w : World, (Instr.makeSlice 26 (.int .i64 8) (.int .i64 8)).run Try.prog w = .ok (.slice (some ⟨w.heap.size, 0, none⟩) 8 8) (w.alloc (.cells blank8 9)) := fun w => run_mkS w 8 (by decide)
  clear hb1 hb2 hd2 hld hlg hlc hs1 HNEW HAW
  go_upto_region 7 with (fail)
  have hbC : Below w2.heap.size w2 (w2.alloc (.cells blank8 9)) := (Below.refl _ _).alloc (Nat.le_refl _) _
  have hnC : TRow (w2.alloc (.cells blank8 9)) w2.heap.size (fill8 0) := ⟨[], by rw [heap_alloc_new]; rfl⟩
  generalize w2.alloc (.cells blank8 9) = w3 at *
  have HS3 := hid (show S w d gs c w2.heap.size (fill8 0) (.slice none 0 0) (Dv.new 8 3 pc) w3 from
    ⟨HD2.out.below hbC, HDD.out, hnC, HBW.out.size, HD2.out.fresh (Nat.le_refl _), HBW.out.trans (hbC.mono HBW.out.size)⟩)
  clear hbC hnC HBW HDD HD2 hmk
  generalize w2.heap.size = gw at *
  go_wp2
  go_loopw [21] (fun i wq => ∃ j : Nat, j ≤ 8 ∧ i = .int .i64 (j : Nat) ∧ S w d gs c gw (fill8 j) (.slice none 0 0) (Dv.new 8 3 pc) wq)
    (fun i _ => 8 - (intOf i).toNat)
  case atStart => exact ⟨0, by omega, rfl, HS3.out⟩
  case round =>
    clear HS3
    obtain ⟨j, hj, rfl, hs⟩ := hrel
    have HS := hid hs
    clear hs
    by_cases hj8 : j < 8
    · have g3 : (j : Int) < 8 := by omega
      have hc3 := HS.out.row.cell j (by rw [fill8_length j hj]; omega)
      have hf3 := HS.out.row.free j
      go_wp2_with (go_at_call 15; refine (HPE.out _).mono ?_; rintro e wz ⟨rfl, hwz⟩; subst hwz)
      refine ⟨⟨j + 1, by omega, congrArg (Value.int .i64) (by omega), ?_⟩, by simp only [intOf]; omega⟩
      rw [← fill8_set j hj8]
      exact HS.out.set j (by rw [fill8_length j hj]; exact hj8) Dv.zs
    · obtain rfl : j = 8 := by omega
      have HS8 := hid (show S w d gs c gw (List.replicate 8 Dv.zs) (.slice none 0 0) (Dv.new 8 3 pc) wr from by have := HS.out; simpa [fill8] using this)
      clear HS HPE
      go_upto_region 14 with (fail)
      go_loopw [6, 7] (fun nv i wq => ∃ (k : Nat) (vv : Value) (D : Dv.D) (want : List ByteArray), k ≤ L.length ∧ k ≤ 40 ∧ i = .int .i64 (k : Nat) ∧ nv = .int .i64 (k : Nat) ∧ Dv.See want k D ∧ want.length = 8 ∧ S w d gs c gw want vv D wq)
        (fun _ i _ => L.length - (intOf i).toNat)
      case atStart => exact ⟨0, _, _, _, by omega, by omega, rfl, rfl, Dv.See.new pc, by simp, HS8.out⟩
      case round =>
        clear HS8
        obtain ⟨k, vv, D, want, hkL, hk40, rfl, rfl, hsee, hwl, hs⟩ := hrel
        have HS := hid hs
        have HSE := hid hsee
        have HWL := hid hwl
        clear hs hsee hwl
        by_cases hlt : k < L.length ∧ k < 40
        · have g1 : (k : Int) < L.length := by omega
          have g2 : (k : Int) < 40 := by omega
          obtain ⟨sb, so, rfl, hra⟩ := hR k hlt.1
          have hbk := hb k hlt.1
          generalize L.getD k Dv.A.z = a at *
          have hra2 := rangeAt_below hra HS.out.bel (by simp [actC])
          obtain ⟨ak, ap, an, am, at_⟩ := a
          go_upto_region 16 with (fail)
          refine wp_region_to ?_
          refine listTo_wp (pre := [_, _, _]) (post := [_, _, _]) ?_
          go_wp2
          refine listTo_of ?_
          refine wpList_load_mid rfl _ _ rfl sb (so + k * 5) rfl _ _ hra2 Try.underlying36 rfl infoActS ?_
          unfold actC
          go_upto_region 17 with (fail)
          obtain ⟨pj, hpj, hand7⟩ := and_le ap 7 (by decide)
          have hand7' : bits .and .i64 ap 7 = (pj : Int) := hand7
          have hpji : (pj : Int) < 8 := by omega
          have hbl := (Below.refl wr.heap.size wr).alloc (Nat.le_refl _) (.cells #[.int .i64 ak, .int .i64 ap, .int .i64 an, .int .u64 am, .string at_] 36)
          have hrw := heap_alloc_new wr (.cells #[.int .i64 ak, .int .i64 ap, .int .i64 an, .int .u64 am, .string at_] 36)
          generalize wr.alloc (.cells #[.int .i64 ak, .int .i64 ap, .int .i64 an, .int .u64 am, .string at_] 36) = w3 at *
          have z0 : w3.cell? ⟨wr.heap.size, 0, none⟩ = some (.int .i64 ak) := by rw [cell_of_row _ _ _ _ _ _ hrw]; rfl
          have z1 : w3.cell? ⟨wr.heap.size, 1, none⟩ = some (.int .i64 ap) := by rw [cell_of_row _ _ _ _ _ _ hrw]; rfl
          have z4 : w3.cell? ⟨wr.heap.size, 4, none⟩ = some (.string at_) := by rw [cell_of_row _ _ _ _ _ _ hrw]; rfl
          have HS3 := hid (HS.out.below hbl)
          clear hbl hrw hra hra2 hand7 HS
          by_cases hk1 : ak = 1
          · subst hk1
            have hfl := flush_any (HSE.out.fit (by omega)) w3 HS3.out.disk
            obtain ⟨hf0, hfs, hfq⟩ := HSE.out.flush
            rw [hf0] at hfl
            have HFL := hid hfl
            have HSEE := hid hfs
            have HFQ := hid hfq
            have HWT := HWL
            clear hfl hf0 hfs hfq
            generalize (Dv.flush D).1 = DT at *
            generalize want = WT at *
            go_wp2_with fail
            refine HFL.out.mono ?_
            rintro e w5 ⟨vv5, rfl, hd5, hk5⟩
            have HST := hid (HS3.out.step hd5 hk5)
            have hca := cached_any HST.out.disk
            rw [HFQ.out] at hca
            have HCA := hid hca
            clear hca hd5 hk5 HS3 HFL z0 z1 z4 hand7'
            go_upto_region 24 with (go_at_call 22; refine HCA.out.mono ?_; rintro e wz ⟨rfl, hwz⟩; subst hwz)
            clear HCA
            go_wp2
            go_loopw [81] (fun i wq => ∃ (q : Nat) (vq : Value), q ≤ 8 ∧ i = .int .i64 (q : Nat) ∧ S w d gs c gw WT vq DT wq)
              (fun i _ => 8 - (intOf i).toNat)
            case atStart => exact ⟨0, _, by omega, rfl, HST.out⟩
            case round =>
              clear HST
              obtain ⟨q, vq, hq, rfl, hs⟩ := hrel
              have HS := hid hs
              clear hs
              by_cases hq8 : q < 8
              · have g6 : (q : Int) < 8 := by omega
                have hrd := read_any (q : Int) wr HS.out.disk
                rw [HSEE.out.read q hq8] at hrd
                have HRD := hid hrd
                have HCQ := hid (fun (wx : World) (h : TRow wx gw WT) => h.cell q (by rw [HWT.out]; exact hq8))
                generalize WT.getD q ByteArray.empty = tx at *
                clear hrd
                go_upto_region 29 with (go_at_call 23; refine HRD.out.mono ?_; rintro e w5 ⟨rfl, hd5, hk5⟩)
                have HS5 := hid (HS.out.step hd5 (DkTo.of hk5 (fun b hb => Or.inr (Or.inr (Or.inl hb)))))
                have hc5 := HCQ.out _ HS5.out.row
                clear hd5 hk5 HS HRD
                go_wp2
                have hqq : (q : Int) + 1 = ((q + 1 : Nat) : Int) := by omega
                refine ⟨?_, ?_⟩
                · skip
                  first
                    | exact ⟨q + 1, _, by omega, congrArg (Value.int .i64) hqq, HS5.out⟩
                    | ((repeat apply Exists.intro); refine ⟨?_, rfl⟩; exact ⟨q + 1, _, by omega, congrArg (Value.int .i64) hqq, HS5.out⟩)
                · simp [intOf]
                  omega
              · obtain rfl : q = 8 := by omega
                go_wp2
                have hkk : (k : Int) + 1 = ((k + 1 : Nat) : Int) := by omega
                refine ⟨?_, ?_⟩
                · skip
                  first
                    | exact ⟨k + 1, _, DT, WT, by omega, by omega, congrArg (Value.int .i64) hkk, congrArg (Value.int .i64) hkk, HSEE.out, HWT.out, HS.out⟩
                    | ((repeat apply Exists.intro); refine ⟨?_, rfl⟩; exact ⟨k + 1, _, DT, WT, by omega, by omega, congrArg (Value.int .i64) hkk, congrArg (Value.int .i64) hkk, HSEE.out, HWT.out, HS.out⟩)
                · simp [intOf]
                  omega
          · have hk1i : ¬ ak = 1 := hk1
            have HPA := hid (fun (wx : World) => page_any (str ((nums at_).take 20)) (by rw [str_size, List.length_take]; omega) wx)
            have HCU := hid (fun (wx : World) => cut_any at_ 20 wx hbk (by decide))
            have HPZ := hid (Dv.page_size (str ((nums at_).take 20)))
            generalize str ((nums at_).take 20) = tx at *
            generalize Dv.page tx = pg at *
            obtain ⟨hw0, hws⟩ := HSE.out.write HWL.out pj (by omega) pg HPZ.out
            have hcw := HS3.out.row.cell pj (by rw [HWL.out]; omega)
            have hfw := HS3.out.row.free pj
            have HSET := hid (HS3.out.set pj (by rw [HWL.out]; omega) pg)
            have HWT := hid (show (want.set pj pg).length = 8 from by rw [List.length_set]; exact HWL.out)
            have HGET := hid (show (want.set pj pg).getD pj ByteArray.empty = pg from by
              rw [List.getD_eq_getElem?_getD, List.getElem?_set_self (by rw [HWL.out]; omega)]
              rfl)
            have HSEE := hid hws
            have HW0 := hid hw0
            clear hw0 hws
            generalize want.set pj pg = WT at *
            go_upto_region 22 with (first
              | (go_at_call 16; refine (HCU.out _).mono ?_; rintro e wz ⟨rfl, hwz⟩; subst hwz)
              | (go_at_call 15; refine (HPA.out _).mono ?_; rintro e wz ⟨rfl, hwz⟩; subst hwz))
            generalize hw4 : World.setCell _ _ _ = w4 at *
            clear hw4
            have hcg := HSET.out.row.cell pj (by rw [HWT.out]; omega)
            rw [HGET.out] at hcg
            have hwa := write_any (HSE.out.fit (by omega)) (by rw [HSE.out.cap]; omega) (pj : Int) pg w4 HSET.out.disk
            rw [HW0.out] at hwa
            have HWR := hid hwa
            clear hwa hcw hfw z0 z1 z4 hand7' hbk HS3 HCU HPA
            generalize (Dv.write D (pj : Int) pg).1 = DT at *
            have HQL := hid HSEE.out.qlen
            go_wp2_with fail
            refine HWR.out.mono ?_
            rintro e w5 ⟨vv5, rfl, hd5, hk5⟩
            have HST := hid (HSET.out.step hd5 hk5)
            have hca := cached_any HST.out.disk
            have HCA := hid hca
            have hql3 : ¬ (3 : Int) < (DT.Q.length : Int) := by have := HQL.out; omega
            clear hca hd5 hk5 HSET HWR hcg
            go_upto_region 24 with (go_at_call 22; refine HCA.out.mono ?_; rintro e wz ⟨rfl, hwz⟩; subst hwz)
            clear HCA hql3
            go_wp2
            go_loopw [81] (fun i wq => ∃ (q : Nat) (vq : Value), q ≤ 8 ∧ i = .int .i64 (q : Nat) ∧ S w d gs c gw WT vq DT wq)
              (fun i _ => 8 - (intOf i).toNat)
            case atStart => exact ⟨0, _, by omega, rfl, HST.out⟩
            case round =>
              clear HST
              obtain ⟨q, vq, hq, rfl, hs⟩ := hrel
              have HS := hid hs
              clear hs
              by_cases hq8 : q < 8
              · have g6 : (q : Int) < 8 := by omega
                have hrd := read_any (q : Int) wr HS.out.disk
                rw [HSEE.out.read q hq8] at hrd
                have HRD := hid hrd
                have HCQ := hid (fun (wx : World) (h : TRow wx gw WT) => h.cell q (by rw [HWT.out]; exact hq8))
                generalize WT.getD q ByteArray.empty = tx at *
                clear hrd
                go_upto_region 29 with (go_at_call 23; refine HRD.out.mono ?_; rintro e w5 ⟨rfl, hd5, hk5⟩)
                have HS5 := hid (HS.out.step hd5 (DkTo.of hk5 (fun b hb => Or.inr (Or.inr (Or.inl hb)))))
                have hc5 := HCQ.out _ HS5.out.row
                clear hd5 hk5 HS HRD
                go_wp2
                have hqq : (q : Int) + 1 = ((q + 1 : Nat) : Int) := by omega
                refine ⟨?_, ?_⟩
                · skip
                  first
                    | exact ⟨q + 1, _, by omega, congrArg (Value.int .i64) hqq, HS5.out⟩
                    | ((repeat apply Exists.intro); refine ⟨?_, rfl⟩; exact ⟨q + 1, _, by omega, congrArg (Value.int .i64) hqq, HS5.out⟩)
                · simp [intOf]
                  omega
              · obtain rfl : q = 8 := by omega
                go_wp2
                have hkk : (k : Int) + 1 = ((k + 1 : Nat) : Int) := by omega
                refine ⟨?_, ?_⟩
                · skip
                  first
                    | exact ⟨k + 1, _, DT, WT, by omega, by omega, congrArg (Value.int .i64) hkk, congrArg (Value.int .i64) hkk, HSEE.out, HWT.out, HS.out⟩
                    | ((repeat apply Exists.intro); refine ⟨?_, rfl⟩; exact ⟨k + 1, _, DT, WT, by omega, by omega, congrArg (Value.int .i64) hkk, congrArg (Value.int .i64) hkk, HSEE.out, HWT.out, HS.out⟩)
                · simp [intOf]
                  omega
        · have hg : (¬ (k : Int) < L.length) ∨ ((k : Int) < L.length ∧ ¬ (k : Int) < 40) := by omega
          have HSP := hid (steps_any HS.out.disk)
          have hvw := view_any (by rw [HSE.out.steps]; omega) (by rw [HSE.out.view]; omega) HS.out.disk
          rw [HSE.out.steps] at HSP
          rw [HSE.out.view] at hvw
          have HVW := hid hvw
          clear hvw hlt
          rcases hg with g1 | ⟨g1, g2⟩
          all_goals
            go_wp2_with fail
            refine HSP.out.mono ?_
            rintro e wz ⟨rfl, hwz⟩
            subst hwz
            go_wp2_with fail
            refine HVW.out.mono ?_
            rintro e w5 ⟨v5, rfl, ho5, hb5⟩
            obtain ⟨a5, c5, rfl⟩ := ownsRow_slice ho5
            have HB5 := hid (HS.out.bel.trans (hb5.mono HS.out.bel.size))
            clear ho5 hb5 HS HVW HSP
            go_wp2
            exact bodyPost_ret (results_tmp rfl _ _ _) rfl ⟨rfl, HB5.out⟩
/-- A world for the witnesses: the settled one. -/
noncomputable def laidWorld (os : Os) : World := World.holding Try.prog os ⟨#[], #[], []⟩

set_option maxRecDepth 100000 in
theorem contract (H : Type) (enc : TypeId × Value → H) (W : World) (base : Nat) (args : Array Value) (ds gs : List (DataW H)) (before : List MemPlace)
    (hval : ∀ (j : Nat) t v, Try.f6.params[j]? = some t → args[j]? = some v → Value.okWide Try.prog W .any base t v)
    (hW : DataW.Whole enc Try.prog Try.f6.params.toList Rows.diskSeesSpec.vars false W args.toList ds gs before) (hL : laidMetH Try.prog Rows.diskSeesRow.laid W) :
    Calls Try.prog 6 args W fun e W' => ∃ v, e = .returned v ∧ Rows.diskSeesSpec.post enc Try.prog Try.f6 false true false false W args v W' := by
  have hW' := hW
  obtain ⟨p, q, hA0, hV, rfl, hfz, hnd⟩ := hW
  have hA : DataW.TrodAll enc Try.prog W 0 (fun _ => true) true Try.f6.params.toList args.toList ds p := hA0
  rw [Try.params6] at hA hval
  obtain ⟨v0, vs0, d0, ds0, p0, q0, hargs, rfl, rfl, h0, r0⟩ := trodAll_cons hA
  obtain ⟨rfl, rfl, rfl⟩ := trodAll_nil r0
  obtain rfl : args = #[v0] := by cases args; simp_all
  obtain ⟨ao0, L0, cap0, rfl, hR0, hL0, hb0⟩ := open_acts9 (hval 0 22 v0 rfl rfl) h0
  refine (walk ao0 L0 cap0 W hR0 hL0 hb0).mono fun e W' ⟨he, hb⟩ => ?_
  subst he
  exact ⟨_, rfl, law_post rfl rfl (by rw [Try.params6]; decide +kernel) hW' rfl hb⟩

theorem laid_met (os : Os) : laidMet Try.prog Rows.diskSeesRow.laid ((laidWorld os).forCall (fun _ _ => 0) ⟨#[], #[.slice none 0 0], []⟩).memory :=
  laidMet_of_run' 8 (by kernel_rfl) (by kernel_rfl)
theorem reads (os : Os) {H : Type} (enc : TypeId × Value → H) : ∃ places, DataW.whole enc Try.prog ((laidWorld os).forCall (fun _ _ => 0) ⟨#[], #[.slice none 0 0], []⟩).memory Try.f6.params.toList Rows.diskSeesSpec.vars false (#[.slice none 0 0] : Array Value).toList 8
    = some ([.nil], [], places) :=
  ⟨[], by kernel_rfl⟩

set_option maxRecDepth 100000 in
theorem lifted (os : Os) (started : os.Started) (H : Type) (enc : TypeId × Value → H) (F : Stop.Interp) :
    ReturnsInHanded {} Try.checked os 6 .any ((OpenSpec.ofChange Rows.diskSeesSpec).preRow enc Try.prog Try.f6 Rows.diskSeesRow.domain false Rows.diskSeesRow.laid) (((OpenSpec.ofChange Rows.diskSeesSpec).at F).post enc Try.prog Try.f6 false true false false) := by
  obtain ⟨places, hx⟩ := reads os enc
  refine returnsInHanded_of_row (C := Try.checked) (s := OpenSpec.ofChange Rows.diskSeesSpec) own started (by kernel_rfl) Try.func6
    (witness_row_at (enc := enc) (C := Try.checked) false (laidWorld os) #[.slice none 0 0] rfl (by kernel_rfl) (by kernel_rfl) (by kernel_rfl)
      (OpenSpec.preRow_of_cond 8 hx (by kernel_rfl) (fun k hk => by cases hk) (by kernel_rfl) (laid_met os))) ?_
  intro W base args ds gs before hval hW _ _ _ hL _ _
  exact contract H enc W base args ds gs before hval hW hL

theorem said : Rows.DiskSeesSaid :=
  OpenClaim.holds_of_cond 6 Try.f6 rfl rfl rfl rfl rfl rfl rfl ⟨rfl, rfl, rfl, rfl, rfl⟩ rfl rfl rfl rfl rfl (by kernel_rfl) Try.func6 (by kernel_rfl)
    (of_decide_eq_true (by kernel_rfl)) (by unfold Func.isWrapper; first | (rw [if_pos (by decide +kernel)]; kernel_rfl) | (rw [if_neg (by decide +kernel)]; exact ⟨rfl, rfl⟩))
    (fun os started H enc _ F => by rw [OpenClaim.pre_eq_preRow]; exact lifted os started H enc F)


end DiskSees
theorem diskSees_said : Rows.DiskSeesSaid := DiskSees.said
end Go.Proofs.Ytkhkpcigjpibiaa
