/-
  Layer 9, law DiskCrashes.
-/
import Derived.Test.YtkhkpcigjpibiaaDk20
namespace Go.Proofs.Ytkhkpcigjpibiaa
open Go.ChangeShapes Go.WideShapes Go.ChangeAt Go.RowKit Go.Shelf
open Go.Conc
open Go.Lib (hid)

attribute [local go_sem] Oper.semAt_some

namespace DiskCrashes
def blank6 : Array Value := (List.replicate 6 (.string ByteArray.empty)).toArray
def fill6 (j : Nat) : List ByteArray := List.replicate j Dv.zs ++ List.replicate (6 - j) ByteArray.empty
theorem fill6_length (j : Nat) (h : j ≤ 6) : (fill6 j).length = 6 := by simp [fill6]; omega
theorem fill6_set (j : Nat) (h : j < 6) : (fill6 j).set j Dv.zs = fill6 (j + 1) := by
  unfold fill6
  rw [List.set_append_right _ _ (by simp), List.length_replicate, Nat.sub_self, show 6 - j = (6 - (j + 1)) + 1 from by omega, List.replicate_succ, List.set_cons_zero, List.replicate_succ', List.append_assoc]
  rfl
def pp (a : Dv.A) : Nat := (bits .and .i64 a.p 7).toNat % 6
def pg (a : Dv.A) : ByteArray := Dv.page (str ((nums a.t).take 20))
def op6 (a : Dv.A) : Dv.O := (1, pp a, pg a)
theorem pp_lt (a : Dv.A) : pp a < 6 := Nat.mod_lt _ (by decide)
theorem pg_size (a : Dv.A) : (pg a).size = 256 := Dv.page_size _
def ops (L : List Dv.A) (k : Nat) : List Dv.O := (L.take k).map op6
theorem ops_succ (L : List Dv.A) (k : Nat) (hk : k < L.length) : ops L (k + 1) = ops L k ++ [op6 (L.getD k Dv.A.z)] := by
  unfold ops
  rw [List.take_succ_eq_append_getElem hk, List.map_append, List.getD_eq_getElem?_getD, List.getElem?_eq_getElem hk]
  rfl
theorem ops_len (L : List Dv.A) (k : Nat) (hk : k ≤ L.length) : (ops L k).length = k := by
  unfold ops
  rw [List.length_map, List.length_take]
  omega
theorem ops_take (L : List Dv.A) (j k : Nat) (hk : j ≤ k) : (ops L k).take j = ops L j := by
  unfold ops
  rw [← List.map_take, List.take_take, Nat.min_eq_left hk]
theorem pp_eq (a : Dv.A) (j : Nat) (h : bits .and .i64 a.p 7 = (j : Int)) : pp a = j % 6 := by
  unfold pp
  rw [h, Int.toNat_natCast]
structure S (w : World) (d gs c gw : Nat) (want : List ByteArray) (vv : Value) (D : Dv.D) (wr : World) : Prop where
  disk : IsD wr d gs c vv D
  base : ∀ b, dkB d gs c vv b → w.heap.size ≤ b
  row : TRow wr gw want
  gwb : w.heap.size ≤ gw
  gn : ¬ dkB d gs c vv gw
  bel : Below w.heap.size w wr
theorem S.step {w : World} {d gs c gw : Nat} {want : List ByteArray} {vv vv' : Value} {D : Dv.D} {wr w' : World} (h : S w d gs c gw want vv D wr) {D' : Dv.D} (hd : IsD w' d gs c vv' D') (hto : DkTo wr d gs c vv w' vv') :
    S w d gs c gw want vv' D' w' := by
  refine ⟨hd, fun b hb => ?_, h.row.at (hto.1.block gw h.row.lt h.gn), h.gwb, ?_, h.bel.trans (hto.1.below h.base h.bel.size)⟩
  · rcases hb with hb | hb | hb | hb
    · exact h.base b (Or.inl hb)
    · exact h.base b (Or.inr (Or.inl hb))
    · exact h.base b (Or.inr (Or.inr (Or.inl hb)))
    · rcases hto.2 b hb with h1 | h1
      · exact h.base b (Or.inr (Or.inr (Or.inr h1)))
      · exact Nat.le_trans h.bel.size h1
  · rintro (hb | hb | hb | hb)
    · exact h.gn (Or.inl hb)
    · exact h.gn (Or.inr (Or.inl hb))
    · exact h.gn (Or.inr (Or.inr (Or.inl hb)))
    · rcases hto.2 gw hb with h1 | h1
      · exact h.gn (Or.inr (Or.inr (Or.inr h1)))
      · have := h.row.lt; omega
theorem S.below {w : World} {d gs c gw : Nat} {want : List ByteArray} {vv : Value} {D : Dv.D} {wr w' : World} (h : S w d gs c gw want vv D wr) (hb : Below wr.heap.size wr w') : S w d gs c gw want vv D w' :=
  h.step (h.disk.below hb) (DkTo.below hb)
theorem S.drewN {w : World} {d gs c gw : Nat} {want : List ByteArray} {vv : Value} {D : Dv.D} {wr : World} (h : S w d gs c gw want vv D wr) (m : Nat) : S w d gs c gw want vv D (wr.drewN m) :=
  h.below ⟨rfl, rfl, rfl, Nat.le_refl _, fun _ _ => rfl⟩
theorem S.set {w : World} {d gs c gw : Nat} {want : List ByteArray} {vv : Value} {D : Dv.D} {wr : World} (h : S w d gs c gw want vv D wr) (i : Nat) (hi : i < want.length) (s : ByteArray) : S w d gs c gw (want.set i s) vv D (wr.setCell ⟨gw, i, none⟩ (.string s)) := by
  have hk : KeptQ (fun b => b = gw) wr (wr.setCell ⟨gw, i, none⟩ (.string s)) := KeptQ.setCell _ _ _ rfl
  exact ⟨h.disk.kept hk (fun k hk e => h.gn (by rw [← e]; exact hk)), h.base, h.row.set i hi s, h.gwb, h.gn, h.bel.trans (hk.below (fun b hb => by have := h.gwb; omega) h.bel.size)⟩
set_option maxHeartbeats 16000000 in
set_option maxRecDepth 100000 in
theorem walk (ao : Option Addr) (L : List Dv.A) (cap : Nat) (ao2 : Option Addr) (L2 : List Dv.A) (cap2 : Nat) (n m : Int) (w : World) (hR : ActsD w ao L) (hL : L.length ≤ maxLen) (hb : ∀ i, i < L.length → (L.getD i Dv.A.z).t.size ≤ maxLen)
    (hR2 : ActsD w ao2 L2) (hL2 : L2.length ≤ maxLen) (hb2 : ∀ i, i < L2.length → (L2.getD i Dv.A.z).t.size ≤ maxLen) (hm : (Lit.int IntKind.u64 m).wf = true) :
    Calls Try.prog 5 #[.agg (crC (.slice ao L.length cap) (.slice ao2 L2.length cap2) n m)] w fun e w' => e = .returned (.bool true) ∧ Below w.heap.size w w' := by
  obtain ⟨M, rfl, hM⟩ : ∃ M : Nat, m = M ∧ M < 2 ^ 64 := by
    have h : IntKind.u64.min ≤ m ∧ m ≤ IntKind.u64.max := by simpa [Lit.wf] using hm
    rw [show IntKind.u64.min = 0 from by decide, show IntKind.u64.max = 18446744073709551615 from by decide] at h
    exact ⟨m.toNat, by omega, by omega⟩
  obtain ⟨st, hst, hand⟩ := and_le n 15 (by decide)
  have hand' : bits .and .i64 n 15 = (st : Int) := hand
  have hsti : (st : Int) ≤ 15 := by omega
  have HNEW := hid (fun (wx : World) => new_any 6 200 6 200 rfl rfl wx)
  have HAW := hid (fun (wx : World) => awake_any wx)
  have HPE := hid (fun (wx : World) => page_any ⟨#[]⟩ (by decide) wx)
  rw [show Dv.page ⟨#[]⟩ = Dv.zs from Dv.page_nil] at HPE
  have HPG := hid (fun (a : Dv.A) (wx : World) => (page_any (str ((nums a.t).take 20)) (by rw [str_size, List.length_take]; omega) wx).mono (R' := fun e w' => e = .returned (.string (pg a)) ∧ w' = wx) (fun e w' ⟨he, hw⟩ => ⟨he, hw.symm⟩))
  have HCU := hid (fun (a : Dv.A) (ha : a.t.size ≤ maxLen) (wx : World) => (cut_any a.t 20 wx ha (by decide)).mono (R' := fun e w' => e = .returned (.string (str ((nums a.t).take 20))) ∧ w' = wx) (fun e w' ⟨he, hw⟩ => ⟨he, hw.symm⟩))
  clear hand hm
  unfold crC
  go_enter Try.func5, Try.ntmps5
  go_upto_region 1 with (fail)
  have hbA : Below w.heap.size w (w.alloc (.cells #[.slice ao L.length cap, .slice ao2 L2.length cap2, .int .i64 n, .int .u64 (M : Int)] 42)) := (Below.refl _ _).alloc (Nat.le_refl _) _
  have hnA := heap_alloc_new w (.cells #[.slice ao L.length cap, .slice ao2 L2.length cap2, .int .i64 n, .int .u64 (M : Int)] 42)
  generalize w.alloc (.cells #[.slice ao L.length cap, .slice ao2 L2.length cap2, .int .i64 n, .int .u64 (M : Int)] 42) = wA at *
  have c0 : wA.cell? ⟨w.heap.size, 0, none⟩ = some (.slice ao L.length cap) := by rw [cell_of_row _ _ _ _ _ _ hnA]; rfl
  have c1 : wA.cell? ⟨w.heap.size, 1, none⟩ = some (.slice ao2 L2.length cap2) := by rw [cell_of_row _ _ _ _ _ _ hnA]; rfl
  have c2 : wA.cell? ⟨w.heap.size, 2, none⟩ = some (.int .i64 n) := by rw [cell_of_row _ _ _ _ _ _ hnA]; rfl
  have c3 : wA.cell? ⟨w.heap.size, 3, none⟩ = some (.int .u64 (M : Int)) := by rw [cell_of_row _ _ _ _ _ _ hnA]; rfl
  have HBA := hid hbA
  clear hbA hnA
  go_quiet (fail)
  have HBA1 := hid (show Below w.heap.size w (wA.drewN nq) from HBA.out.trans ⟨rfl, rfl, rfl, Nat.le_refl _, fun _ _ => rfl⟩)
  generalize wA.drewN nq = wB at *
  clear HBA c0 c1 c2 c3
  go_upto_region 7 with (first
    | (go_at_call 9; refine (HAW.out _).mono ?_; rintro e w1 ⟨rfl, hb1⟩)
    | (go_at_call 10; refine (HNEW.out _).mono ?_; rintro e w2 ⟨d, gs, c, pc, rfl, hd2, hb2, hld, hlg, hlc⟩))
  have hB2 : Below w.heap.size w w2 := (HBA1.out.trans (hb1.mono HBA1.out.size)).trans (hb2.mono (Nat.le_trans HBA1.out.size hb1.size))
  have HBW := hid hB2
  have hs1 := HBA1.out.size
  have hs2 := hb1.size
  have HDD := hid (show ∀ b, dkB d gs c (.slice none 0 0) b → w.heap.size ≤ b from by
    rintro b (hb | hb | hb | hb)
    · omega
    · omega
    · omega
    · cases hb)
  have HD2 := hid hd2
  have hmk : ∀ w : World, (Instr.makeSlice 26 (.int .i64 6) (.int .i64 6)).run Try.prog w = .ok (.slice (some ⟨w.heap.size, 0, none⟩) 6 6) (w.alloc (.cells blank6 9)) := fun w => run_mkS w 6 (by decide)
  clear hb1 hb2 HBA1 hd2 hld hlg hlc hs1 hs2 hB2 HNEW HAW
  go_upto_region 8 with (fail)
  have hbC : Below w2.heap.size w2 (w2.alloc (.cells blank6 9)) := (Below.refl _ _).alloc (Nat.le_refl _) _
  have hnC : TRow (w2.alloc (.cells blank6 9)) w2.heap.size (fill6 0) := ⟨[], by rw [heap_alloc_new]; rfl⟩
  generalize w2.alloc (.cells blank6 9) = w3 at *
  have HS3 := hid (show S w d gs c w2.heap.size (fill6 0) (.slice none 0 0) (Dv.new 6 200 pc) w3 from
    ⟨HD2.out.below hbC, HDD.out, hnC, HBW.out.size, HD2.out.fresh (Nat.le_refl _), HBW.out.trans (hbC.mono HBW.out.size)⟩)
  clear hbC hnC HBW HDD HD2 hmk
  generalize w2.heap.size = gw at *
  go_wp2
  go_loopw [36] (fun i wq => ∃ j : Nat, j ≤ 6 ∧ i = .int .i64 (j : Nat) ∧ S w d gs c gw (fill6 j) (.slice none 0 0) (Dv.new 6 200 pc) wq)
    (fun i _ => 6 - (intOf i).toNat)
  case atStart => exact ⟨0, by omega, rfl, HS3.out⟩
  case round =>
    clear HS3
    obtain ⟨j, hj, rfl, hs⟩ := hrel
    have HS := hid hs
    clear hs
    by_cases hj6 : j < 6
    · have g3 : (j : Int) < 6 := by omega
      have hc3 := HS.out.row.cell j (by rw [fill6_length j hj]; omega)
      have hf3 := HS.out.row.free j
      go_wp2_with (go_at_call 15; refine (HPE.out _).mono ?_; rintro e wz ⟨rfl, hwz⟩; subst hwz)
      refine ⟨⟨j + 1, by omega, congrArg (Value.int .i64) (by omega), ?_⟩, by simp only [intOf]; omega⟩
      rw [← fill6_set j hj6]
      exact HS.out.set j (by rw [fill6_length j hj]; exact hj6) Dv.zs
    · obtain rfl : j = 6 := by omega
      have HS6 := hid (show S w d gs c gw ((ops L 0).foldl Dv.put (List.replicate 6 Dv.zs)) (.slice none 0 0) (Dv.new 6 200 pc) wr from by have := HS.out; simpa [fill6, ops] using this)
      clear HS
      go_upto_region 14 with (fail)
      go_loopw [10] (fun i wq => ∃ (k : Nat) (vv : Value) (D : Dv.D), k ≤ L.length ∧ k ≤ 15 ∧ i = .int .i64 (k : Nat) ∧ Dv.C1 (ops L k) D ∧ S w d gs c gw ((ops L k).foldl Dv.put (List.replicate 6 Dv.zs)) vv D wq)
        (fun i _ => L.length - (intOf i).toNat)
      case atStart => exact ⟨0, _, _, by omega, by omega, rfl, Dv.C1.new pc, HS6.out⟩
      case round =>
        clear HS6
        obtain ⟨k, vv, D, hkL, hk15, rfl, hc1, hs⟩ := hrel
        have HS := hid hs
        have HC := hid hc1
        clear hs hc1
        have hkl := ops_len L k hkL
        by_cases hlt : k < L.length ∧ k < 15
        · have g1 : (k : Int) < L.length := by omega
          have g2 : (k : Int) < 15 := by omega
          obtain ⟨sb, so, rfl, hra⟩ := hR k hlt.1
          have hbk := hb k hlt.1
          have hos := ops_succ L k hlt.1
          generalize L.getD k Dv.A.z = a at *
          have hra2 := rangeAt_below hra HS.out.bel (by simp [actC])
          obtain ⟨pj, hpj, hand7⟩ := and_le a.p 7 (by decide)
          have hand7' : bits .and .i64 a.p 7 = (pj : Int) := hand7
          have hrem : (pj : Int).tmod 6 = (pp a : Int) := by rw [pp_eq a pj hand7', Int.tmod_eq_emod_of_nonneg (by omega)]; omega
          have hpa : (pp a : Int) < 6 := by have := pp_lt a; omega
          have ca1 : wr.cell? ⟨sb, so + k * 5 + 1, none⟩ = some (.int .i64 a.p) := hra2 1 _ rfl
          have ca4 : wr.cell? ⟨sb, so + k * 5 + 4, none⟩ = some (.string a.t) := hra2 4 _ rfl
          have hwl : ((ops L k).foldl Dv.put (List.replicate 6 Dv.zs)).length = 6 := by rw [Dv.foldl_put_length]; simp
          have hcw := HS.out.row.cell (pp a) (by rw [hwl]; exact pp_lt a)
          have hfw := HS.out.row.free (pp a)
          have HSET := hid (HS.out.set (pp a) (by rw [hwl]; exact pp_lt a) (pg a))
          have HOS := hid hos
          have HKL := hid hkl
          rw [show ((ops L k).foldl Dv.put (List.replicate 6 Dv.zs)).set (pp a) (pg a) = (ops L (k + 1)).foldl Dv.put (List.replicate 6 Dv.zs) from by rw [hos, List.foldl_append]; rfl] at HSET
          have HWL := hid (show ((ops L (k + 1)).foldl Dv.put (List.replicate 6 Dv.zs)).length = 6 from by rw [Dv.foldl_put_length]; simp)
          have HGET := hid (show ((ops L (k + 1)).foldl Dv.put (List.replicate 6 Dv.zs)).getD (pp a) ByteArray.empty = pg a from by
            rw [hos, List.foldl_append]
            show (((ops L k).foldl Dv.put (List.replicate 6 Dv.zs)).set (pp a) (pg a)).getD (pp a) ByteArray.empty = pg a
            rw [List.getD_eq_getElem?_getD, List.getElem?_set_self (by rw [hwl]; exact pp_lt a)]
            rfl)
          have HPL := hid (pp_lt a)
          obtain ⟨hw0, hev⟩ := HC.out.write (by rw [hkl]; omega) (pp a) (pp_lt a) (pg a) (pg_size a)
          have HW0 := hid hw0
          have HEV := hid hev
          clear hra hra2 hand7 hos hkl hw0 hev hwl
          go_upto_region 18 with (first
            | (go_at_call 16; refine (HCU.out a hbk _).mono ?_; rintro e wz ⟨rfl, hwz⟩; replace hwz := hwz.symm; subst hwz)
            | (go_at_call 15; refine (HPG.out a _).mono ?_; rintro e wz ⟨rfl, hwz⟩; replace hwz := hwz.symm; subst hwz))
          generalize wr.setCell ⟨gw, pp a, none⟩ (.string (pg a)) = w4 at *
          have hcg := HSET.out.row.cell (pp a) (by rw [HWL.out]; exact HPL.out)
          rw [HGET.out] at hcg
          have HWR := hid (write_any (HC.out.fit (by rw [HKL.out]; omega)) (by rw [HC.out.cap]; omega) (pp a : Int) (pg a) w4 HSET.out.disk)
          rw [HW0.out] at HWR
          clear hcw hfw ca1 ca4 hrem hand7' hbk
          go_wp2_with (go_at_call 17; refine HWR.out.mono ?_; rintro e w5 ⟨vv5, rfl, hd5, hk5⟩)
          have hkk : (k : Int) + 1 = ((k + 1 : Nat) : Int) := by omega
          have hev' : Dv.C1 (ops L (k + 1)) (Dv.write D (pp a : Int) (pg a)).1 := by rw [HOS.out]; exact HEV.out
          refine ⟨?_, ?_⟩
          · skip
            first
              | exact ⟨k + 1, vv5, _, by omega, by omega, congrArg (Value.int .i64) hkk, hev', HSET.out.step hd5 hk5⟩
              | ((repeat apply Exists.intro); refine ⟨?_, rfl⟩; exact ⟨k + 1, vv5, _, by omega, by omega, congrArg (Value.int .i64) hkk, hev', HSET.out.step hd5 hk5⟩)
          · simp [intOf]
            omega
        · have hg : (¬ (k : Int) < L.length) ∨ ((k : Int) < L.length ∧ ¬ (k : Int) < 15) := by omega
          have hfl := flush_any (HC.out.fit (by rw [hkl]; omega)) wr HS.out.disk
          rw [(HC.out.armed st M).1] at hfl
          have HFL := hid hfl
          have HC2 := hid (HC.out.armed st M).2
          rw [hkl] at HC2
          have h6 : ((ops L k).foldl Dv.put (List.replicate 6 Dv.zs)).length = 6 := by rw [Dv.foldl_put_length]; simp
          generalize (ops L k).foldl Dv.put (List.replicate 6 Dv.zs) = P0 at *
          have H6 := hid h6
          clear hfl HC hkl h6 hlt
          rcases hg with g1 | ⟨g1, g2⟩
          all_goals
            go_upto_region 22 with (go_at_call 18; refine HFL.out.mono ?_; rintro e w5 ⟨vv5, rfl, hd5, hk5⟩)
            have HS5 := hid (HS.out.step hd5 hk5)
            have HAR := hid (arm_any (st : Int) M HS5.out.disk)
            clear hd5 hk5 HS HFL
            go_upto_region 25 with (go_at_call 19; refine HAR.out.mono ?_; rintro e w6 ⟨rfl, hd6, hk6⟩)
            have HS6 := hid (HS5.out.step hd6 (DkTo.of hk6 (fun b hb => Or.inl hb)))
            generalize ({ (Dv.flush D).1 with left := max (-1) (st : Int), mask := M } : Dv.D) = D6 at *
            clear hd6 hk6 HS5 HAR
            go_loopw [12, 13] (fun nv i wq => ∃ (j nn : Nat) (vv : Value) (D : Dv.D), j ≤ L2.length ∧ j ≤ 15 ∧ nn = min j st ∧ i = .int .i64 (j : Nat) ∧ nv = .int .i64 (nn : Nat) ∧ Dv.C2 P0 k st M (ops L2 j) D ∧ S w d gs c gw P0 vv D wq)
              (fun _ i _ => L2.length - (intOf i).toNat)
            case atStart => exact ⟨0, 0, _, _, by omega, by omega, by omega, rfl, rfl, HC2.out, HS6.out⟩
            case round =>
              clear HS6 HC2
              obtain ⟨j, nn, vv2, D2, hjL, hj15, hnn, rfl, rfl, hc2, hs⟩ := hrel
              have HS := hid hs
              have HC := hid hc2
              have HNN := hid hnn
              have hnnb : (nn : Int) ≤ 15 := by omega
              clear hs hc2 hnn
              have hjl := ops_len L2 j hjL
              by_cases hlt2 : j < L2.length ∧ j < 15
              · have e1 : (j : Int) < L2.length := by omega
                have e2 : (j : Int) < 15 := by omega
                obtain ⟨sb2, so2, rfl, hra⟩ := hR2 j hlt2.1
                have hbk := hb2 j hlt2.1
                have hos := ops_succ L2 j hlt2.1
                generalize L2.getD j Dv.A.z = a at *
                have hra2 := rangeAt_below hra HS.out.bel (by simp [actC])
                obtain ⟨pj, hpj, hand7⟩ := and_le a.p 7 (by decide)
                have hand7' : bits .and .i64 a.p 7 = (pj : Int) := hand7
                have hrem : (pj : Int).tmod 6 = (pp a : Int) := by rw [pp_eq a pj hand7', Int.tmod_eq_emod_of_nonneg (by omega)]; omega
                have ca1 : wr.cell? ⟨sb2, so2 + j * 5 + 1, none⟩ = some (.int .i64 a.p) := hra2 1 _ rfl
                have ca4 : wr.cell? ⟨sb2, so2 + j * 5 + 4, none⟩ = some (.string a.t) := hra2 4 _ rfl
                have HOS := hid hos
                have HKL := hid hjl
                obtain ⟨hw0, hev⟩ := HC.out.write H6.out (by rw [hjl]; omega) (pp a) (pp_lt a) (pg a) (pg_size a)
                rw [hjl] at hw0
                have HW0 := hid hw0
                have HEV := hid (show Dv.C2 P0 k st M (ops L2 (j + 1)) (Dv.write D2 (pp a : Int) (pg a)).1 from by rw [hos]; exact hev)
                clear hra hra2 hand7 hos hjl hw0 hev
                go_upto_region 27 with (fail)
                go_quiet ((first | (go_at_call 16; exact Calls.quiet_of_same (HCU.out a hbk _)) | (go_at_call 15; exact Calls.quiet_of_same (HPG.out a _))))
                have HSQ := hid (HS.out.drewN nq)
                generalize wr.drewN nq = w4 at *
                have HWR := hid (write_any (HC.out.fit (by omega) (by rw [HKL.out]; omega) hM (by omega)) (by rw [HC.out.cap]; omega) (pp a : Int) (pg a) w4 HSQ.out.disk)
                clear ca1 ca4 hrem hand7' hbk HS
                by_cases hjs : j < st
                · have e3 : (j : Int) < st := by omega
                  have e4 : ¬ (st : Int) ≤ j := by omega
                  rw [HW0.out, if_pos hjs] at HWR
                  go_wp2_with (go_at_call 17; refine HWR.out.mono ?_; rintro e w5 ⟨vv5, rfl, hd5, hk5⟩)
                  have hkk : (j : Int) + 1 = ((j + 1 : Nat) : Int) := by omega
                  have hn1 : (nn : Int) + 1 = ((nn + 1 : Nat) : Int) := by omega
                  have hn2 : nn + 1 = min (j + 1) st := by have := HNN.out; omega
                  refine ⟨?_, ?_⟩
                  · skip
                    first
                      | exact ⟨j + 1, nn + 1, vv5, _, by omega, by omega, hn2, congrArg (Value.int .i64) hkk, congrArg (Value.int .i64) hn1, HEV.out, HSQ.out.step hd5 hk5⟩
                      | ((repeat apply Exists.intro); refine ⟨?_, rfl⟩; exact ⟨j + 1, nn + 1, vv5, _, by omega, by omega, hn2, congrArg (Value.int .i64) hkk, congrArg (Value.int .i64) hn1, HEV.out, HSQ.out.step hd5 hk5⟩)
                  · simp [intOf]
                    omega
                · have e3 : ¬ (j : Int) < st := by omega
                  have e4 : (st : Int) ≤ j := by omega
                  rw [HW0.out, if_neg hjs] at HWR
                  go_wp2_with (go_at_call 17; refine HWR.out.mono ?_; rintro e w5 ⟨vv5, rfl, hd5, hk5⟩)
                  have hkk : (j : Int) + 1 = ((j + 1 : Nat) : Int) := by omega
                  have hn2 : nn = min (j + 1) st := by have := HNN.out; omega
                  refine ⟨?_, ?_⟩
                  · skip
                    first
                      | exact ⟨j + 1, nn, vv5, _, by omega, by omega, hn2, congrArg (Value.int .i64) hkk, rfl, HEV.out, HSQ.out.step hd5 hk5⟩
                      | ((repeat apply Exists.intro); refine ⟨?_, rfl⟩; exact ⟨j + 1, nn, vv5, _, by omega, by omega, hn2, congrArg (Value.int .i64) hkk, rfl, HEV.out, HSQ.out.step hd5 hk5⟩)
                  · simp [intOf]
                    omega
              · have hg2 : (¬ (j : Int) < L2.length) ∨ ((j : Int) < L2.length ∧ ¬ (j : Int) < 15) := by omega
                have hmn : min (L2.length : Int) 15 = (j : Int) := by omega
                have hcrd := crashed_any HS.out.disk
                rw [HC.out.crashed, hjl] at hcrd
                have HCR := hid hcrd
                clear hcrd
                by_cases hcr : st < j
                · have e5 : (st : Int) < j := by omega
                  rw [decide_eq_true hcr] at HCR
                  obtain rfl : nn = st := by have := HNN.out; omega
                  clear HNN
                  have hP : D2.P = Dv.keptP P0 M (ops L2 nn) := by rw [(HC.out.dead (by rw [hjl]; exact hcr)).2.1, ops_take _ _ _ (by omega)]
                  have HP := hid hP
                  clear hP hlt2
                  rcases hg2 with e1 | ⟨e1, e2⟩
                  all_goals
                    go_upto_region 36 with (go_at_call 20; refine HCR.out.mono ?_; rintro e wz ⟨rfl, hwz⟩; subst hwz)
                    go_wp2
                    go_loopw [144] (fun i wq => ∃ q : Nat, q ≤ nn ∧ i = .int .i64 (q : Nat) ∧ S w d gs c gw (Dv.keptP P0 M (ops L2 q)) vv2 D2 wq)
                      (fun i _ => nn - (intOf i).toNat)
                    case atStart => exact ⟨0, by omega, rfl, HS.out⟩
                    case round =>
                      clear HS HCR
                      obtain ⟨q, hq, rfl, hs⟩ := hrel
                      have HS := hid hs
                      clear hs
                      have hkl6 : (Dv.keptP P0 M (ops L2 q)).length = 6 := by rw [Dv.keptP_length]; exact H6.out
                      by_cases hqn : q < nn
                      · have e6 : (q : Int) < nn := by omega
                        have e7 : (q : Int) < L2.length := by omega
                        have hqL : q < L2.length := by omega
                        obtain ⟨sb2, so2, rfl, hra⟩ := hR2 q hqL
                        have hbk := hb2 q hqL
                        have hos := ops_succ L2 q hqL
                        generalize L2.getD q Dv.A.z = a at *
                        have hra2 := rangeAt_below hra HS.out.bel (by simp [actC])
                        obtain ⟨pj, hpj, hand7⟩ := and_le a.p 7 (by decide)
                        have hand7' : bits .and .i64 a.p 7 = (pj : Int) := hand7
                        have hrem : (pj : Int).tmod 6 = (pp a : Int) := by rw [pp_eq a pj hand7', Int.tmod_eq_emod_of_nonneg (by omega)]; omega
                        have hpa : (pp a : Int) < 6 := by have := pp_lt a; omega
                        have ca1 : wr.cell? ⟨sb2, so2 + q * 5 + 1, none⟩ = some (.int .i64 a.p) := hra2 1 _ rfl
                        have ca4 : wr.cell? ⟨sb2, so2 + q * 5 + 4, none⟩ = some (.string a.t) := hra2 4 _ rfl
                        have hkp := Dv.keptP_snoc P0 M (ops L2 q) (op6 a)
                        rw [← hos, ops_len L2 q (by omega)] at hkp
                        have HKP := hid hkp
                        have hcw := HS.out.row.cell (pp a) (by rw [hkl6]; exact pp_lt a)
                        have hfw := HS.out.row.free (pp a)
                        have HSET := hid (fun m => (HS.out.drewN m).set (pp a) (by rw [hkl6]; exact pp_lt a) (pg a))
                        clear hra hra2 hand7 hos hkp hkl6 hjl
                        have hdv : (M : Int) / 2 ^ q = ((M / 2 ^ q : Nat) : Int) := by push_cast; rfl
                        have hdl : M / 2 ^ q < 2 ^ 64 := Nat.lt_of_le_of_lt (Nat.div_le_self _ _) hM
                        by_cases hbit : M / 2 ^ q % 2 = 1
                        · have hsh : bits .and .u64 ((M : Int) / 2 ^ q) 1 = 1 := by rw [hdv, and1_u64 _ hdl, hbit]; rfl
                          rw [if_pos hbit] at HKP
                          clear hdv hdl hbit
                          go_upto_region 40 with (fail)
                          refine wp_region_noPanic ?_
                          refine wp_region_hd1 16 1 rfl (by kernel_rfl) (by kernel_rfl) (fun _ _ _ _ _ h => h) ?_
                          simp only [List.take_succ_cons, List.take_zero, List.drop_succ_cons, List.drop_zero]
                          repeat (go_big_quiet_step (first | (go_at_call 16; exact Calls.quiet_of_same (HCU.out a hbk _)) | (go_at_call 15; exact Calls.quiet_of_same (HPG.out a _))))
                          refine wpQuiet_nil ?_
                          intro mq
                          go_wp2
                          refine NoPanic.normal ?_
                          have HSZ := hid (show S w d gs c gw (Dv.keptP P0 M (ops L2 (q + 1))) vv2 D2 ((wr.drewN mq).setCell ⟨gw, pp a, none⟩ (.string (pg a))) from by rw [HKP.out]; exact HSET.out mq)
                          generalize (wr.drewN mq).setCell ⟨gw, pp a, none⟩ (.string (pg a)) = wz at *
                          go_wp2
                          have hqq : (q : Int) + 1 = ((q + 1 : Nat) : Int) := by omega
                          refine ⟨?_, ?_⟩
                          · skip
                            first
                              | exact ⟨q + 1, by omega, congrArg (Value.int .i64) hqq, HSZ.out⟩
                              | ((repeat apply Exists.intro); refine ⟨?_, rfl⟩; exact ⟨q + 1, by omega, congrArg (Value.int .i64) hqq, HSZ.out⟩)
                          · simp [intOf]
                            omega
                        · have hsh : bits .and .u64 ((M : Int) / 2 ^ q) 1 = 0 := by rw [hdv, and1_u64 _ hdl, show M / 2 ^ q % 2 = 0 from by omega]; rfl
                          rw [if_neg hbit] at HKP
                          clear hdv hdl hbit
                          go_wp2
                          have hqq : (q : Int) + 1 = ((q + 1 : Nat) : Int) := by omega
                          refine ⟨?_, ?_⟩
                          · skip
                            first
                              | exact ⟨q + 1, by omega, congrArg (Value.int .i64) hqq, by rw [HKP.out]; exact HS.out⟩
                              | ((repeat apply Exists.intro); refine ⟨?_, rfl⟩; exact ⟨q + 1, by omega, congrArg (Value.int .i64) hqq, by rw [HKP.out]; exact HS.out⟩)
                          · simp [intOf]
                            omega
                      · obtain rfl : q = nn := by omega
                        have hWl := hkl6
                        obtain ⟨WT, hWT⟩ : ∃ WT, WT = Dv.keptP P0 M (ops L2 q) := ⟨_, rfl⟩
                        have hP : D2.P = WT := by rw [hWT]; exact HP.out
                        rw [← hWT] at HS hWl
                        clear hkl6 H6 HC hWT hjl hcr HP
                        have hwl7 : D2.P.length = 6 := by rw [hP]; exact hWl
                        have HSTB := hid (stable_any HS.out.disk (by rw [hwl7]; omega))
                        rw [hP] at HSTB
                        have HWL7 := hid hWl
                        generalize WT = P1 at *
                        go_upto_region 43 with (go_at_call 21; refine HSTB.out.mono ?_; rintro e wS ⟨vS, rfl, hvS, hbS⟩; obtain ⟨gS, cS, rfl, hgS, htS⟩ := hvS)
                        have HSS := hid (HS.out.below hbS)
                        have HTS := hid htS
                        try rw [HWL7.out]
                        clear hbS htS HS HSTB hP hgS hwl7 hWl
                        go_wp2
                        go_loopw [176] (fun i wq => ∃ q : Nat, q ≤ 6 ∧ i = .int .i64 (q : Nat) ∧ wq.heap = wS.heap ∧ Below w.heap.size w wq)
                          (fun i _ => 6 - (intOf i).toNat)
                        case atStart => exact ⟨0, by omega, rfl, rfl, HSS.out.bel⟩
                        case round =>
                          obtain ⟨q, hq, rfl, hhp, hbq⟩ := hrel
                          have HBQ := hid hbq
                          clear hbq
                          by_cases hq6 : q < 6
                          · have g6 : (q : Int) < 6 := by omega
                            have ta := HTS.out.at (w' := wr) (by rw [hhp])
                            have tb := HSS.out.row.at (w' := wr) (by rw [hhp])
                            have ca := ta.cell q (by rw [HWL7.out]; exact hq6)
                            have cb := tb.cell q (by rw [HWL7.out]; exact hq6)
                            have HHP := hid hhp
                            clear ta tb hhp
                            go_upto_region 48 with (fail)
                            go_quiet (fail)
                            go_wp2
                            exact ⟨⟨q + 1, by omega, congrArg (Value.int .i64) (by omega), HHP.out, HBQ.out.trans ⟨rfl, rfl, rfl, Nat.le_refl _, fun _ _ => rfl⟩⟩, by simp only [intOf]; omega⟩
                          · obtain rfl : q = 6 := by omega
                            clear hhp
                            go_wp2
                            exact bodyPost_ret (results_tmp rfl _ _ _) rfl ⟨rfl, HBQ.out⟩
                · have e5 : ¬ (st : Int) < j := by omega
                  rw [decide_eq_false hcr] at HCR
                  obtain ⟨WT, hWT⟩ : ∃ WT, WT = P0 := ⟨_, rfl⟩
                  have hWl : WT.length = 6 := by rw [hWT]; exact H6.out
                  have hP : D2.P = WT := by rw [hWT]; exact (HC.out.live (by rw [hjl]; omega)).2.1
                  rw [← hWT] at HS
                  clear hlt2 H6 HC hWT hjl hcr
                  rcases hg2 with e1 | ⟨e1, e2⟩
                  all_goals
                    go_upto_region 42 with (go_at_call 20; refine HCR.out.mono ?_; rintro e wz ⟨rfl, hwz⟩; subst hwz)
                    have hwl7 : D2.P.length = 6 := by rw [hP]; exact hWl
                    have HSTB := hid (stable_any HS.out.disk (by rw [hwl7]; omega))
                    rw [hP] at HSTB
                    have HWL7 := hid hWl
                    generalize WT = P1 at *
                    go_upto_region 43 with (go_at_call 21; refine HSTB.out.mono ?_; rintro e wS ⟨vS, rfl, hvS, hbS⟩; obtain ⟨gS, cS, rfl, hgS, htS⟩ := hvS)
                    have HSS := hid (HS.out.below hbS)
                    have HTS := hid htS
                    try rw [HWL7.out]
                    clear hbS htS HS HSTB hP hgS hwl7 hWl
                    go_wp2
                    go_loopw [176] (fun i wq => ∃ q : Nat, q ≤ 6 ∧ i = .int .i64 (q : Nat) ∧ wq.heap = wS.heap ∧ Below w.heap.size w wq)
                      (fun i _ => 6 - (intOf i).toNat)
                    case atStart => exact ⟨0, by omega, rfl, rfl, HSS.out.bel⟩
                    case round =>
                      obtain ⟨q, hq, rfl, hhp, hbq⟩ := hrel
                      have HBQ := hid hbq
                      clear hbq
                      by_cases hq6 : q < 6
                      · have g6 : (q : Int) < 6 := by omega
                        have ta := HTS.out.at (w' := wr) (by rw [hhp])
                        have tb := HSS.out.row.at (w' := wr) (by rw [hhp])
                        have ca := ta.cell q (by rw [HWL7.out]; exact hq6)
                        have cb := tb.cell q (by rw [HWL7.out]; exact hq6)
                        have HHP := hid hhp
                        clear ta tb hhp
                        go_upto_region 48 with (fail)
                        go_quiet (fail)
                        go_wp2
                        exact ⟨⟨q + 1, by omega, congrArg (Value.int .i64) (by omega), HHP.out, HBQ.out.trans ⟨rfl, rfl, rfl, Nat.le_refl _, fun _ _ => rfl⟩⟩, by simp only [intOf]; omega⟩
                      · obtain rfl : q = 6 := by omega
                        clear hhp
                        go_wp2
                        exact bodyPost_ret (results_tmp rfl _ _ _) rfl ⟨rfl, HBQ.out⟩
/-- A world for the witnesses: the settled one. -/
noncomputable def laidWorld (os : Os) : World := World.holding Try.prog os ⟨#[], #[], []⟩

set_option maxRecDepth 100000 in
theorem contract (H : Type) (enc : TypeId × Value → H) (W : World) (base : Nat) (args : Array Value) (ds gs : List (DataW H)) (before : List MemPlace)
    (hval : ∀ (j : Nat) t v, Try.f5.params[j]? = some t → args[j]? = some v → Value.okWide Try.prog W .any base t v)
    (hW : DataW.Whole enc Try.prog Try.f5.params.toList Rows.diskCrashesSpec.vars false W args.toList ds gs before) (hL : laidMetH Try.prog Rows.diskCrashesRow.laid W) :
    Calls Try.prog 5 args W fun e W' => ∃ v, e = .returned v ∧ Rows.diskCrashesSpec.post enc Try.prog Try.f5 false true false false W args v W' := by
  have hW' := hW
  obtain ⟨p, q, hA0, hV, rfl, hfz, hnd⟩ := hW
  have hA : DataW.TrodAll enc Try.prog W 0 (fun _ => true) true Try.f5.params.toList args.toList ds p := hA0
  rw [Try.params5] at hA hval
  obtain ⟨v0, vs0, d0, ds0, p0, q0, hargs, rfl, rfl, h0, r0⟩ := trodAll_cons hA
  obtain ⟨rfl, rfl, rfl⟩ := trodAll_nil r0
  obtain rfl : args = #[v0] := by cases args; simp_all
  obtain ⟨ao0, L0, cap0, ao0x, L0x, cap0x, n0, m0, rfl, hR0, hL0, hb0, hR0x, hL0x, hb0x, hm0⟩ := open_crash (hval 0 42 v0 rfl rfl) h0
  refine (walk ao0 L0 cap0 ao0x L0x cap0x n0 m0 W hR0 hL0 hb0 hR0x hL0x hb0x hm0).mono fun e W' ⟨he, hb⟩ => ?_
  subst he
  exact ⟨_, rfl, law_post rfl rfl (by rw [Try.params5]; decide +kernel) hW' rfl hb⟩

theorem laid_met (os : Os) : laidMet Try.prog Rows.diskCrashesRow.laid ((laidWorld os).forCall (fun _ _ => 0) ⟨#[], #[.agg (crC (.slice none 0 0) (.slice none 0 0) 0 0)], []⟩).memory :=
  laidMet_of_run' 8 (by kernel_rfl) (by kernel_rfl)
theorem reads (os : Os) {H : Type} (enc : TypeId × Value → H) : ∃ places, DataW.whole enc Try.prog ((laidWorld os).forCall (fun _ _ => 0) ⟨#[], #[.agg (crC (.slice none 0 0) (.slice none 0 0) 0 0)], []⟩).memory Try.f5.params.toList Rows.diskCrashesSpec.vars false (#[.agg (crC (.slice none 0 0) (.slice none 0 0) 0 0)] : Array Value).toList 8
    = some ([.agg [.nil, .nil, .lit (.int .i64 0), .lit (.int .u64 0)]], [], places) :=
  ⟨[], by kernel_rfl⟩

set_option maxRecDepth 100000 in
theorem lifted (os : Os) (started : os.Started) (H : Type) (enc : TypeId × Value → H) (F : Stop.Interp) :
    ReturnsInHanded {} Try.checked os 5 .any ((OpenSpec.ofChange Rows.diskCrashesSpec).preRow enc Try.prog Try.f5 Rows.diskCrashesRow.domain false Rows.diskCrashesRow.laid) (((OpenSpec.ofChange Rows.diskCrashesSpec).at F).post enc Try.prog Try.f5 false true false false) := by
  obtain ⟨places, hx⟩ := reads os enc
  refine returnsInHanded_of_row (C := Try.checked) (s := OpenSpec.ofChange Rows.diskCrashesSpec) own started (by kernel_rfl) Try.func5
    (witness_row_at (enc := enc) (C := Try.checked) false (laidWorld os) #[.agg (crC (.slice none 0 0) (.slice none 0 0) 0 0)] rfl (by kernel_rfl) (by kernel_rfl) (by kernel_rfl)
      (OpenSpec.preRow_of_cond 8 hx (by kernel_rfl) (fun k hk => by cases hk) (by kernel_rfl) (laid_met os))) ?_
  intro W base args ds gs before hval hW _ _ _ hL _ _
  exact contract H enc W base args ds gs before hval hW hL

theorem said : Rows.DiskCrashesSaid :=
  OpenClaim.holds_of_cond 5 Try.f5 rfl rfl rfl rfl rfl rfl rfl ⟨rfl, rfl, rfl, rfl, rfl⟩ rfl rfl rfl rfl rfl (by kernel_rfl) Try.func5 (by kernel_rfl)
    (of_decide_eq_true (by kernel_rfl)) (by unfold Func.isWrapper; first | (rw [if_pos (by decide +kernel)]; kernel_rfl) | (rw [if_neg (by decide +kernel)]; exact ⟨rfl, rfl⟩))
    (fun os started H enc _ F => by rw [OpenClaim.pre_eq_preRow]; exact lifted os started H enc F)


end DiskCrashes
theorem diskCrashes_said : Rows.DiskCrashesSaid := DiskCrashes.said
end Go.Proofs.Ytkhkpcigjpibiaa
