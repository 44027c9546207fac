/-
  Layer 1: a State in memory, and what (State).take does to it.
-/
import Derived.Test.YtgjkkcggcljcdaaDoorBase
import Derived.Test.YtgjkkcggcljcdaaDoorShaEnd
import Derived.Deep.MidRow
import Derived.Deep.RegionHeld3
namespace Go.Proofs.YtgjkkcggcljcdaaDoor
open Go.RowKit
open Go.Lib (hid)

theorem Tabs.below2 {w w' : World} {B : Nat} (h : Tabs w) (hb : Below B w w') (h1 : 2 < B) (h2 : 3 < B) : Tabs w' :=
  ⟨fun i hi => (hb.cell h1).trans (h.ks i hi), fun i hi => (hb.cell h2).trans (h.hs i hi)⟩
theorem Tabs.keptB {w w' : World} {b : Nat} (h : Tabs w) (hk : KeptB b w w') (hb : 2 < b ∧ 3 < b) : Tabs w' :=
  h.below2 (hk.below (B := max 2 3 + 1) (by omega) (by have := h.lt; omega)) (by omega) (by omega)

namespace Sx
theorem runB_append (t l : List Nat) (k : Nat) (h : 64 * k ≤ t.length) : runB (t ++ l) k = runB t k := by
  induction k with
  | zero => rfl
  | succ k ih =>
    simp only [runB]
    rw [ih (by omega), List.drop_append_of_le_length (by omega), List.take_append_of_le_length (by simp; omega)]
theorem addM_swap (a h m : List Nat) (ha : a.length = 8) (hh : h.length = 8) (hm : m.length = 8) : addM (addM a m) h = addM (addM a h) m := by
  apply List.ext_getElem
  · simp [addM_length, ha, hh, hm]
  · intro i h1 h2
    simp only [addM, List.getElem_zipWith]
    unfold M
    omega
theorem mixed_length (h b : List Nat) : (mixed h b).length = 8 := rfl

/-- What a State of a text holds: the numbers a, and the bytes r that wait. -/
structure Inv (t a r : List Nat) : Prop where
  la : a.length = 8
  lr : r.length = 64
  hr : ∀ x ∈ r, x < 256
  run : addM a H0 = runB t (t.length / 64)
  rest : r.take (t.length % 64) = t.drop (64 * (t.length / 64))

theorem Inv.zero : Inv [] (List.replicate 8 0) (List.replicate 64 0) :=
  ⟨rfl, rfl, fun x hx => by simp at hx; omega, by decide, rfl⟩

/-- The bytes that wait, with some of l laid behind them. -/
def laid (r : List Nat) (p : Nat) (c : List Nat) : List Nat := r.take p ++ c ++ r.drop (p + c.length)
theorem laid_length (r : List Nat) (p : Nat) (c : List Nat) (h : p + c.length ≤ r.length) : (laid r p c).length = r.length := by
  simp [laid]; omega
theorem laid_lt (r : List Nat) (p : Nat) (c : List Nat) (hr : ∀ x ∈ r, x < 256) (hc : ∀ x ∈ c, x < 256) : ∀ x ∈ laid r p c, x < 256 := by
  intro x hx
  simp only [laid, List.mem_append] at hx
  rcases hx with (hx | hx) | hx
  · exact hr x (List.mem_of_mem_take hx)
  · exact hc x hx
  · exact hr x (List.mem_of_mem_drop hx)

theorem Inv.part {t a r : List Nat} (v : Inv t a r) (c : List Nat) (hc : ∀ x ∈ c, x < 256) (hl : t.length % 64 + c.length < 64) : Inv (t ++ c) a (laid r (t.length % 64) c) := by
  have hd : (t ++ c).length / 64 = t.length / 64 := by simp; omega
  have hm : (t ++ c).length % 64 = t.length % 64 + c.length := by simp; omega
  refine ⟨v.la, by rw [laid_length _ _ _ (by rw [v.lr]; omega), v.lr], laid_lt _ _ _ v.hr hc, ?_, ?_⟩
  · rw [hd, runB_append _ _ _ (by omega)]; exact v.run
  · rw [hd, hm, List.drop_append_of_le_length (by omega), ← v.rest]
    have h1 : (r.take (t.length % 64)).length = t.length % 64 := by simp [v.lr]; omega
    unfold laid
    rw [List.append_assoc, ← List.append_assoc, List.take_append_of_le_length (by simp [v.lr]; omega), List.take_of_length_le (by simp [v.lr]; omega)]

theorem Inv.full {t a r : List Nat} (v : Inv t a r) (c : List Nat) (hc : ∀ x ∈ c, x < 256) (hl : t.length % 64 + c.length = 64) :
    Inv (t ++ c) (addM a (mixed (addM a H0) (laid r (t.length % 64) c))) (laid r (t.length % 64) c) := by
  have hd : (t ++ c).length / 64 = t.length / 64 + 1 := by simp; omega
  have hm : (t ++ c).length % 64 = 0 := by simp; omega
  have hL : (laid r (t.length % 64) c) = t.drop (64 * (t.length / 64)) ++ c := by
    unfold laid
    rw [v.rest, show r.drop (t.length % 64 + c.length) = [] from List.drop_of_length_le (by rw [v.lr]; omega), List.append_nil]
  refine ⟨by rw [addM_length, v.la]; rfl, by rw [laid_length _ _ _ (by rw [v.lr]; omega), v.lr], laid_lt _ _ _ v.hr hc, ?_, ?_⟩
  · rw [hd]
    show _ = compress (runB (t ++ c) (t.length / 64)) (((t ++ c).drop (64 * (t.length / 64))).take 64)
    rw [runB_append _ _ _ (by omega), ← v.run, List.drop_append_of_le_length (by omega), ← hL, List.take_of_length_le (by rw [laid_length _ _ _ (by rw [v.lr]; omega), v.lr]; omega)]
    unfold compress
    rw [addM_swap _ _ _ v.la rfl rfl]
  · rw [hm, hd]
    rw [List.take_zero, List.drop_of_length_le (by simp; omega)]
end Sx

/-- The cells of a State. -/
def stC (a r : List Nat) (n : Nat) : Array Value := ints .u32 a ++ ints .u8 r ++ #[.int .i64 (n : Int)]
theorem stC_size (a r : List Nat) (n : Nat) (ha : a.length = 8) (hr : r.length = 64) : (stC a r n).size = 73 := by simp [stC, ints_size, ha, hr]
theorem stC_one (a r : List Nat) (n : Nat) : (stC a r n).all (·.oneCell') = true := by
  simp [stC, ints, Value.oneCell']
theorem stC_list (a r : List Nat) (n : Nat) : (stC a r n).toList = (ints .u32 a).toList ++ ((ints .u8 r).toList ++ [.int .i64 (n : Int)]) := by simp [stC]

/-- Block b is a State that has received the text t. -/
def Stt (w : World) (b : Nat) (t : List Nat) : Prop := ∃ a r, w.heap[b]? = some (.cells (stC a r t.length) 103 (0, 0)) ∧ Sx.Inv t a r

theorem StC.count {w : World} {b n : Nat} {a r : List Nat} (h : w.heap[b]? = some (.cells (stC a r n) 103 (0, 0))) (ha : a.length = 8) (hr : r.length = 64) :
    w.cell? ⟨b, 72, none⟩ = some (.int .i64 (n : Int)) := by
  rw [cell_of_row w b 72 _ _ _ h]
  simp [stC, ints_size, ha, hr]
  rw [Array.getElem_push]
  simp [ints_size, hr]

/-- The rest of a State behind a copy into it. -/
theorem stC_laid (a r c : List Nat) (n p : Nat) (ha : a.length = 8) (hr : r.length = 64) (hp : p + c.length ≤ 64) :
    ((stC a r n).toList.take (8 + p) ++ ((ints .u8 c).toList ++ (stC a r n).toList.drop (8 + p + c.length))).toArray = stC a (Sx.laid r p c) n := by
  have h8 : (ints .u32 a).toList.length = 8 := by simp [ints, ha]
  have h64 : (ints .u8 r).toList.length = 64 := by simp [ints, hr]
  apply Array.toList_inj.1
  rw [stC_list, stC_list, List.take_append, List.drop_append, h8, List.take_of_length_le (by omega), List.drop_of_length_le (by omega), show 8 + p - 8 = p from by omega, show 8 + p + c.length - 8 = p + c.length from by omega,
    List.take_append_of_le_length (by omega), List.drop_append_of_le_length (by omega)]
  simp [ints, Sx.laid, List.map_take, List.map_drop]

theorem wpStill_load_mid {P : Program} {ops : Array Oper} {w : World} {rest : List Oper} {op : Oper} {a : Act} {Q : Act → Prop} (hgd : op.guard = none) (ty : TypeId) (x : Operand) (ho : op.op = .load ty x)
    (b o : Nat) (hx : a.eval x = .pointer (some ⟨b, o, none⟩)) (cs : List Value) (d : TypeDesc) (hc : w.rangeAt b o cs)
    (hu : P.underlying ty = some d) (hd : d.isRow = true) (hi : (P.info? ty).map (·.size) = some cs.length)
    (h : wpStill P ops w Q rest (a.put op.dst (.agg cs.toArray))) : wpStill P ops w Q (op :: rest) a := by
  refine wpStill_step fun K hK => ?_
  simp only [Region.wanted, hgd, if_true]
  unfold Oper.still execOp
  simp only [ho, hx, Instr.loadAt, Instr.sureAddr, Sem.run_bind, Sem.run_pure, Result.andThen_ok, run_loadVar_mid w b o ty cs d hc hu hd hi]
  exact ⟨rfl, hK _ h⟩

theorem stC_addA (a b r : List Nat) (n : Nat) (ha : a.length = 8) (hb : b.length = 8) :
    ((ints .u32 b).toList ++ (stC a r n).toList.drop (ints .u32 b).size).toArray = stC b r n := by
  apply Array.toList_inj.1
  rw [stC_list, stC_list, ints_size, hb, List.drop_append_of_le_length (by simp [ints, ha]), List.drop_of_length_le (by simp [ints, ha])]
  simp

theorem stC_count (a r : List Nat) (n m : Nat) (ha : a.length = 8) (hr : r.length = 64) : (stC a r n).setIfInBounds 72 (.int .i64 (m : Int)) = stC a r m := by
  apply Array.toList_inj.1
  rw [Array.toList_setIfInBounds, stC_list, stC_list, List.set_append_right _ _ (by simp [ints, ha]), List.set_append_right _ _ (by simp [ints, ha, hr])]
  simp [ints, ha, hr]
theorem list8 (l : List Nat) (h : l.length = 8) : ∃ a0 a1 a2 a3 a4 a5 a6 a7, l = [a0, a1, a2, a3, a4, a5, a6, a7] := by
  match l, h with
  | [a0, a1, a2, a3, a4, a5, a6, a7], _ => exact ⟨a0, a1, a2, a3, a4, a5, a6, a7, rfl⟩
theorem stC_setA (a r : List Nat) (n i x : Nat) (hi : i < a.length) : (stC a r n).setIfInBounds i (.int .u32 (x : Int)) = stC (a.set i x) r n := by
  apply Array.toList_inj.1
  rw [Array.toList_setIfInBounds, stC_list, stC_list, List.set_append_left _ _ (by rw [ints_llen]; exact hi), ← Array.toList_setIfInBounds, ints_set]
theorem setA1 {w : World} {b n : Nat} {a r : List Nat} (h : w.heap[b]? = some (.cells (stC a r n) 103 (0, 0))) (i x : Nat) (hi : i < a.length) :
    (w.setCell ⟨b, i, none⟩ (.int .u32 (x : Int))).heap[b]? = some (.cells (stC (a.set i x) r n) 103 (0, 0)) := by
  rw [heap_setCell_same w b i _ _ _ h, stC_setA a r n i x hi]
theorem stC_rangeA {w : World} {b n : Nat} {a r : List Nat} (h : w.heap[b]? = some (.cells (stC a r n) 103 (0, 0))) : w.rangeAt b 0 (ints .u32 a).toList := by
  intro j v hj
  have hlt : j < (ints .u32 a).toList.length := (List.getElem?_eq_some_iff.1 hj).1
  rw [Nat.zero_add, cell_of_row w b j _ _ _ h, ← Array.getElem?_toList, stC_list, List.getElem?_append_left hlt]; exact hj
theorem stC_rangeR {w : World} {b n : Nat} {a r : List Nat} (h : w.heap[b]? = some (.cells (stC a r n) 103 (0, 0))) (ha : a.length = 8) : w.rangeAt b 8 (ints .u8 r).toList := by
  intro j v hj
  have hlt : j < (ints .u8 r).toList.length := (List.getElem?_eq_some_iff.1 hj).1
  have h8 : (ints .u32 a).toList.length = 8 := by simp [ints, ha]
  rw [cell_of_row w b (8 + j) _ _ _ h, ← Array.getElem?_toList, stC_list, List.getElem?_append_right (by omega), h8, show 8 + j - 8 = j from by omega, List.getElem?_append_left hlt]; exact hj

theorem extract_str (s : ByteArray) (l : List Nat) (m : Nat) (h : nums s = l) : s.extract m s.size = str (l.drop m) := by
  rw [← str_nums (s.extract m s.size)]
  congr 1
  rw [← h]
  unfold nums
  rw [← List.map_drop]
  congr 1
  have : (s.extract m s.size).data.toList = (s.data.toList.drop m).take (s.size - m) := by
    simp [ByteArray.data_extract]
  rw [this, List.take_of_length_le]
  rw [List.length_drop]
  exact Nat.le_refl _

theorem slice_rest (w : World) (b p : Nat) (hp : p < 64) :
    (Instr.sliceAt 101 (.pointer (some ⟨b, 8, none⟩)) (some (.int .i64 (p : Int))) none none).run Tryd.prog w = .ok (.slice (some ⟨b, 8 + p, none⟩) (64 - p) (64 - p)) w := by
  obtain ⟨f, hf, hf1⟩ := Option.map_eq_some_iff.1 info5'
  have h1 : (0 : Int) ≤ (p : Int) := by omega
  have h2 : (p : Int) ≤ 64 := by omega
  have h3 : ¬ 64 = p := by omega
  have h4 : (⟨b, 8, none⟩ : Addr).add p = ⟨b, 8 + p, none⟩ := Addr.add_mid b 8 p
  simp [Instr.sliceAt, Instr.sureAddr, run_underlying Tryd.underlying101, Instr.sliceBounds, run_sliceBound, sizeOf, typeInfo, hf, hf1, h1, h2, h3, h4]

set_option maxRecDepth 100000 in
set_option maxHeartbeats 2000000 in
theorem take_any (b : Nat) (t l : List Nat) (hl : ∀ x ∈ l, x < 256) (w : World) (hT : Tabs w) (hb : 2 < b ∧ 3 < b) (hS : Stt w b t) (hlen : t.length + l.length ≤ 1000000000000000) :
    Calls Tryd.prog 62 #[.pointer (some ⟨b, 0, none⟩), .string (str l)] w fun e w' => e = .returned (.tuple #[]) ∧ Stt w' b (t ++ l) ∧ KeptB b w w' := by
  have HT := hid hT
  have HS := hid hS
  have HL := hid hl
  clear hT hS hl
  go_enter Tryd.func62, Tryd.ntmps62
  go_wp2
  go_loopw [1] (fun s wr => ∃ j : Nat, j ≤ l.length ∧ s = .string (str (l.drop j)) ∧ Stt wr b (t ++ l.take j) ∧ KeptB b w wr)
    (fun s _ => match s with | .string x => x.size | _ => 0)
  case atStart => exact ⟨0, Nat.zero_le _, rfl, by simpa using HS.out, KeptB.refl _ _⟩
  case round =>
    obtain ⟨j, hj, rfl, ⟨a, r, hblk, hinv⟩, hkept⟩ := hrel
    by_cases hlt : j < l.length
    · obtain ⟨s, hs⟩ : ∃ s, s = str (l.drop j) := ⟨_, rfl⟩
      have hsz : s.size = l.length - j := by rw [hs, str_size, List.length_drop]
      have hns : nums s = l.drop j := by rw [hs]; exact nums_str _ (fun x hx => HL.out x (List.mem_of_mem_drop hx))
      have hn : (t ++ l.take j).length = t.length + j := by simp; omega
      have cc := StC.count hblk hinv.la hinv.lr
      rw [hn] at cc hblk
      rw [← hs]
      have hpos : (0 : Int) < (s.size : Int) := by omega
      have HNS := hid hns
      have HSZ := hid hsz
      have HN := hid hn
      have HBLK := hid hblk
      have HINV := hid hinv
      have HK := hid hkept
      have HSE := hid hs
      obtain ⟨n, hne⟩ : ∃ n, n = t.length + j := ⟨_, rfl⟩
      have hnb : n ≤ 1000000000000000 := by omega
      rw [← hne] at cc HBLK HN
      have HNE := hid hne
      clear hns hsz hn hblk hinv hkept hs hne
      go_upto_region 1 with (fail)
      refine wp_region_still_tail 10 (by kernel_rfl) (by kernel_rfl) ?_
      simp only [List.take_succ_cons, List.take_zero, List.drop_succ_cons, List.drop_zero]
      obtain ⟨wz, hwz⟩ : ∃ wz, wz = wr.drew := ⟨_, rfl⟩
      have HBZ := hid (show wz.heap[b]? = some (.cells (stC a r n) 103 (0, 0)) from by subst hwz; exact HBLK.out)
      have cz : wz.cell? ⟨b, 72, none⟩ = some (.int .i64 (n : Int)) := by subst hwz; exact cc
      have HKZ := hid (show KeptB b w wz from by subst hwz; exact HK.out.drew)
      change wpStill _ _ wr.drew (fun a' => wpList _ _ _ _ a' wr.drew) _ _
      rw [← hwz]
      clear hwz cc HK HBLK
      have hmod : (n : Int).tmod 64 = ((n % 64 : Nat) : Int) := by rw [Int.tmod_eq_emod_of_nonneg (by omega)]; omega
      have hpl : n % 64 < 64 := by omega
      obtain ⟨p, hpe⟩ : ∃ p, p = n % 64 := ⟨_, rfl⟩
      rw [← hpe] at hmod hpl
      have HPE := hid hpe
      clear hpe
      have hsl := slice_rest wz b p hpl
      repeat still_step
      refine wpStill_nil ?_
      clear hmod hsl
      have la := HINV.out.la
      have lr := HINV.out.lr
      have hsz73 := stC_size a r n la lr
      go_upto_region 2 with (with_reducible refine wpList_copy_str rfl _ _ _ _ rfl 5 Tryd.underlying46 info5' b (8 + p) (64 - p) (64 - p) s rfl rfl _ _ HBZ.out (by omega) ?_)
      have hm0 : 0 < s.size := by omega
      obtain ⟨m, hme⟩ : ∃ m, m = min s.size (64 - p) := ⟨_, rfl⟩
      rw [← hme]
      have hm1 : 1 ≤ m := by omega
      have hm2 : m ≤ s.size := by omega
      have hm3 : p + m ≤ 64 := by omega
      have hm4 : p + m = 64 ∨ m = s.size := by omega
      have hcl : ((l.drop j).take m).length = m := by have := HSZ.out; simp; omega
      rw [HNS.out, show 8 + p + m = 8 + p + ((l.drop j).take m).length from by rw [hcl], stC_laid a r _ n p la lr (by omega)]
      have llr : (Sx.laid r p ((l.drop j).take m)).length = 64 := by rw [Sx.laid_length _ _ _ (by omega), lr]
      have HBA := hid (setRow_heap wz b _ (stC a (Sx.laid r p ((l.drop j).take m)) n) _ _ HBZ.out)
      have HKA := hid (HKZ.out.setRow (stC a (Sx.laid r p ((l.drop j).take m)) n))
      generalize hwa : wz.setRow b _ = wa at *
      have ca := StC.count HBA.out la llr
      have fa : wa.frozen? ⟨b, 72, none⟩ = false := frozen_of_row wa b 72 _ _ HBA.out
      have HBB := hid (heap_setCell_same wa b 72 _ _ (.int .i64 ((n + m : Nat) : Int)) HBA.out)
      have HKB := hid (HKA.out.setCell (o := 72) (.int .i64 ((n + m : Nat) : Int)))
      have HCNT := hid (stC_count a (Sx.laid r p ((l.drop j).take m)) n (n + m) la llr)
      rw [HCNT.out] at HBB
      have HLLR := hid llr
      have HCL := hid hcl
      have HLA := hid la
      have HLR := hid lr
      have HME := hid hme
      clear hwa hcl la lr llr hme HCNT hsz73 cz HBZ HKZ HBA HKA
      generalize er : Sx.laid r p ((l.drop j).take m) = r' at *
      have HER := hid er
      clear er
      go_upto_region 4 with (fail)
      obtain ⟨N, hN⟩ : ∃ N, N = n + m := ⟨_, rfl⟩
      rw [← hN] at HBB HKB
      have hNi : (n : Int) + (m : Int) = (N : Int) := by omega
      rw [hNi, extract_str s _ m HNS.out, List.drop_drop]
      have hNl : N = t.length + (j + m) := by have := HNE.out; omega
      have hjm : j + m ≤ l.length := by have := HSZ.out; omega
      have HN2 := hid hN
      have HNL := hid hNl
      have hNb : N ≤ 1000000000000000 := by omega
      have htj : t ++ l.take (j + m) = (t ++ l.take j) ++ (l.drop j).take m := by rw [List.take_add, List.append_assoc]
      have HTJ := hid htj
      have hNlen : (t ++ l.take (j + m)).length = N := by simp; omega
      have HNlen := hid hNlen
      clear hN hNi hNl htj hNlen ca fa
      generalize hwb : wa.setCell _ _ = wb at *
      have cb := StC.count HBB.out HLA.out HLLR.out
      clear hwb
      by_cases hfull : N % 64 = 0
      · have htest : ((N : Int) % 64 == 0) = true := by simp; omega
        have hT5 : Tabs wb := HT.out.keptB HKB.out hb
        have hr256 : ∀ i, r'.getD i 0 < 256 := by
          intro i
          have hall : ∀ x ∈ r', x < 256 := by
            rw [← HER.out]
            exact Sx.laid_lt _ _ _ HINV.out.hr (fun x hx => HL.out x (List.mem_of_mem_drop (List.mem_of_mem_take hx)))
          by_cases hi : i < r'.length
          · simp only [List.getD_eq_getElem?_getD, List.getElem?_eq_getElem hi, Option.getD_some]; exact hall _ (List.getElem_mem hi)
          · simp only [List.getD_eq_getElem?_getD, List.getElem?_eq_none (Nat.le_of_not_lt hi), Option.getD_none]; omega
        have hinv' : Sx.Inv (t ++ l.take (j + m)) (Sx.addM a (Sx.mixed (Sx.addM a Sx.H0) r')) r' := by
          have h1 := HINV.out.full ((l.drop j).take m) (fun x hx => HL.out x (List.mem_of_mem_drop (List.mem_of_mem_take hx))) (by rw [HN.out, HCL.out, ← HPE.out]; have := HN2.out; have := HPE.out; omega)
          rw [HN.out, ← HPE.out, HER.out] at h1
          rw [HTJ.out]; exact h1
        have HINV' := hid hinv'
        have HT5 := hid hT5
        have HR256 := hid hr256
        clear hinv' hT5 hr256
        go_upto_region 5 with (fail)
        have hla2 : (Sx.addM a (Sx.mixed (Sx.addM a Sx.H0) r')).length = 8 := by rw [Sx.addM_length, HLA.out]; rfl
        have HLA2 := hid hla2
        clear hla2
        refine wp_region_noPanic ?_
        refine wp_region_any (by kernel_rfl) ?_
        obtain ⟨wc, hwc⟩ : ∃ wc, wc = wb.drew := ⟨_, rfl⟩
        have HBC := hid (show wc.heap[b]? = some (.cells (stC a r' N) 103 (0, 0)) from by subst hwc; exact HBB.out)
        have HKC := hid (show KeptB b w wc from by subst hwc; exact HKB.out.drew)
        have HTC := hid (show Tabs wc from by subst hwc; exact ⟨HT5.out.ks, HT5.out.hs⟩)
        change wpAny _ _ _ _ 13 _ _ wb.drew
        rw [← hwc]
        clear hwc cb HKB HBB HT5
        refine wpAny_take (i := 0) (oi := ?oi1) (v := .pointer (some ⟨b, 0, none⟩)) ?hi1 (by kernel_rfl) (by kernel_rfl) (by kernel_rfl) (fun _ _ _ h => h) ?hy1 ?rest1
        case hi1 => simp only [List.getElem?_toArray, List.getElem?_cons_zero]; rfl
        case hy1 => exact Or.inl ⟨rfl, fun _ => rfl⟩
        simp only [Act.put, List.setIfInBounds_toArray, List.set_cons_zero, List.set_cons_succ]
        refine wpAny_take (i := 1) (oi := ?oi2) (v := .pointer (some ⟨b, 0, none⟩)) ?hi2 (by kernel_rfl) (by kernel_rfl) (by kernel_rfl) (fun _ _ _ h => h) ?hy2 ?rest2
        case hi2 => simp only [List.getElem?_toArray, List.getElem?_cons_succ, List.getElem?_cons_zero]; rfl
        case hy2 => exact Or.inl ⟨rfl, fun _ => rfl⟩
        simp only [Act.put, List.setIfInBounds_toArray, List.set_cons_zero, List.set_cons_succ]
        refine wpAny_take (i := 2) (oi := ?oi3) (v := .pointer (some ⟨b, 0, none⟩)) ?hi3 (by kernel_rfl) (by kernel_rfl) (by kernel_rfl) (fun _ _ _ h => h) ?hy3 ?rest3
        case hi3 => simp only [List.getElem?_toArray, List.getElem?_cons_succ, List.getElem?_cons_zero]; rfl
        case hy3 => exact Or.inl ⟨rfl, fun _ => by go_simp⟩
        simp only [Act.put, List.setIfInBounds_toArray, List.set_cons_zero, List.set_cons_succ]
        refine wpAny_take (i := 3) (oi := ?oi4) (v := .pointer (some ⟨b, 0, none⟩)) ?hi4 (by kernel_rfl) (by kernel_rfl) (by kernel_rfl) (fun _ _ _ h => h) ?hy4 ?rest4
        case hi4 => simp only [List.getElem?_toArray, List.getElem?_cons_succ, List.getElem?_cons_zero]; rfl
        case hy4 => exact Or.inl ⟨rfl, fun _ => by go_simp⟩
        simp only [Act.put, List.setIfInBounds_toArray, List.set_cons_zero, List.set_cons_succ]
        refine wpAny_take (i := 5) (oi := ?oi5) (v := .pointer (some ⟨b, 0, none⟩)) ?hi5 (by kernel_rfl) (by kernel_rfl) (by kernel_rfl) (fun _ _ _ h => h) ?hy5 ?rest5
        case hi5 => simp only [List.getElem?_toArray, List.getElem?_cons_succ, List.getElem?_cons_zero]; rfl
        case hy5 => exact Or.inl ⟨rfl, fun _ => rfl⟩
        simp only [Act.put, List.setIfInBounds_toArray, List.set_cons_zero, List.set_cons_succ]
        refine wpAny_take (i := 6) (oi := ?oi6) (v := .pointer (some ⟨b, 0, none⟩)) ?hi6 (by kernel_rfl) (by kernel_rfl) (by kernel_rfl) (fun _ _ _ h => h) ?hy6 ?rest6
        case hi6 => simp only [List.getElem?_toArray, List.getElem?_cons_succ, List.getElem?_cons_zero]; rfl
        case hy6 => exact Or.inl ⟨rfl, fun _ => by go_simp⟩
        simp only [Act.put, List.setIfInBounds_toArray, List.set_cons_zero, List.set_cons_succ]
        refine wpAny_take (i := 7) (oi := ?oi7) (v := .pointer (some ⟨b, 8, none⟩)) ?hi7 (by kernel_rfl) (by kernel_rfl) (by kernel_rfl) (fun _ _ _ h => h) ?hy7 ?rest7
        case hi7 => simp only [List.getElem?_toArray, List.getElem?_cons_succ, List.getElem?_cons_zero]; rfl
        case hy7 => exact Or.inl ⟨rfl, fun _ => by go_simp⟩
        simp only [Act.put, List.setIfInBounds_toArray, List.set_cons_zero, List.set_cons_succ]
        have hi36 : (Tryd.prog.info? 99).map (·.size) = some (ints .u32 a).toList.length := by rw [ints_llen, HLA.out]; exact info36
        have hi38 : (Tryd.prog.info? 101).map (·.size) = some (ints .u8 r').toList.length := by rw [ints_llen, HLLR.out]; exact info38
        refine wpAny_all (rs := [4, 8]) (by kernel_rfl) (by simp) (all_two ?_ ?_)
        · refine wpOp_of (o := ?oi8) ?hi8 ?hg8 ?hw8
          case hi8 => simp only [List.getElem?_toArray, List.getElem?_cons_succ, List.getElem?_cons_zero]; rfl
          case hg8 => rfl
          refine wp_load_mid _ _ rfl b 0 rfl _ _ (stC_rangeA HBC.out) Tryd.underlying99 rfl hi36 ?_
          simp only [Act.put, List.setIfInBounds_toArray, List.set_cons_zero, List.set_cons_succ]
          refine wpAny_all (rs := [8]) (by kernel_rfl) (by simp) (all_one ?_)
          refine wpOp_of (o := ?oi9) ?hi9 ?hg9 ?hw9
          case hi9 => simp only [List.getElem?_toArray, List.getElem?_cons_succ, List.getElem?_cons_zero]; rfl
          case hg9 => rfl
          refine wp_load_mid _ _ rfl b 8 rfl _ _ (stC_rangeR HBC.out HLA.out) Tryd.underlying101 rfl hi38 ?_
          simp only [Act.put, List.setIfInBounds_toArray, List.set_cons_zero, List.set_cons_succ]
          refine wpAny_tail 9 4 rfl (by kernel_rfl) ?_
          simp only [List.drop_succ_cons, List.drop_zero, Array.toArray_toList]
          go_wp2_with (first
            | (go_at_call 74; refine (after_any a r' HLA.out HLLR.out HR256.out _ HTC.out).mono ?_; rintro e wd ⟨rfl, hbd⟩)
            | (refine wpList_store_in rfl _ _ _ rfl b 0 _ rfl rfl (stC a r' N) 103 (by rw [hbd.block b (Array.getElem?_eq_some_iff.1 HBC.out).1]; exact HBC.out) (by rw [ints_size, HLA2.out, stC_size a r' N HLA.out HLLR.out]; omega) (by rw [ints_size, HLA2.out]; exact info36) (ints_one _ _) ?_))
          rw [stC_addA a _ r' N HLA.out HLA2.out]
          refine NoPanic.normal ?_
          go_wp2
          go_roundw
          case rel =>
            refine ⟨j + m, hjm, rfl, ⟨_, r', ?_, HINV'.out⟩, ((HKC.out.trans (KeptB.of_below hbd)).setRow _)⟩
            rw [HNlen.out]
            exact setRow_heap wd b (stC a r' N) _ _ _ (by rw [hbd.block b (Array.getElem?_eq_some_iff.1 HBC.out).1]; exact HBC.out)
          case measure => simp [str_size]; rw [HSZ.out]; omega
        · refine wpOp_of (o := ?oi10) ?hi10 ?hg10 ?hw10
          case hi10 => simp only [List.getElem?_toArray, List.getElem?_cons_succ, List.getElem?_cons_zero]; rfl
          case hg10 => rfl
          refine wp_load_mid _ _ rfl b 8 rfl _ _ (stC_rangeR HBC.out HLA.out) Tryd.underlying101 rfl hi38 ?_
          simp only [Act.put, List.setIfInBounds_toArray, List.set_cons_zero, List.set_cons_succ]
          refine wpAny_all (rs := [4]) (by kernel_rfl) (by simp) (all_one ?_)
          refine wpOp_of (o := ?oi11) ?hi11 ?hg11 ?hw11
          case hi11 => simp only [List.getElem?_toArray, List.getElem?_cons_succ, List.getElem?_cons_zero]; rfl
          case hg11 => rfl
          refine wp_load_mid _ _ rfl b 0 rfl _ _ (stC_rangeA HBC.out) Tryd.underlying99 rfl hi36 ?_
          simp only [Act.put, List.setIfInBounds_toArray, List.set_cons_zero, List.set_cons_succ]
          refine wpAny_tail 9 4 rfl (by kernel_rfl) ?_
          simp only [List.drop_succ_cons, List.drop_zero, Array.toArray_toList]
          go_wp2_with (first
            | (go_at_call 74; refine (after_any a r' HLA.out HLLR.out HR256.out _ HTC.out).mono ?_; rintro e wd ⟨rfl, hbd⟩)
            | (refine wpList_store_in rfl _ _ _ rfl b 0 _ rfl rfl (stC a r' N) 103 (by rw [hbd.block b (Array.getElem?_eq_some_iff.1 HBC.out).1]; exact HBC.out) (by rw [ints_size, HLA2.out, stC_size a r' N HLA.out HLLR.out]; omega) (by rw [ints_size, HLA2.out]; exact info36) (ints_one _ _) ?_))
          rw [stC_addA a _ r' N HLA.out HLA2.out]
          refine NoPanic.normal ?_
          go_wp2
          go_roundw
          case rel =>
            refine ⟨j + m, hjm, rfl, ⟨_, r', ?_, HINV'.out⟩, ((HKC.out.trans (KeptB.of_below hbd)).setRow _)⟩
            rw [HNlen.out]
            exact setRow_heap wd b (stC a r' N) _ _ _ (by rw [hbd.block b (Array.getElem?_eq_some_iff.1 HBC.out).1]; exact HBC.out)
          case measure => simp [str_size]; rw [HSZ.out]; omega
      · have htest : ((N : Int) % 64 == 0) = false := by simp; omega
        have hinv' : Sx.Inv (t ++ l.take (j + m)) a r' := by
          have h1 := HINV.out.part ((l.drop j).take m) (fun x hx => HL.out x (List.mem_of_mem_drop (List.mem_of_mem_take hx))) (by rw [HN.out, HCL.out, ← HPE.out]; have := HN2.out; have := HPE.out; omega)
          rw [HN.out, ← HPE.out, HER.out] at h1
          rw [HTJ.out]; exact h1
        have HINV' := hid hinv'
        clear hinv'
        go_wp2
        go_roundw
        case rel => exact ⟨j + m, hjm, rfl, ⟨a, r', by rw [HNlen.out]; exact HBB.out, HINV'.out⟩, HKB.out⟩
        case measure => simp [str_size]; rw [HSZ.out]; omega
    · obtain rfl : j = l.length := by omega
      have hst : Stt wr b (t ++ l) := ⟨a, r, by simpa using hblk, by simpa using hinv⟩
      have hz : (str (l.drop l.length)).size = 0 := by simp [str_size]
      have HST := hid hst
      have HK := hid hkept
      clear hst hblk hinv hkept
      generalize str (l.drop l.length) = s at *
      go_wp2
      go_end0
      exact ⟨rfl, HST.out, HK.out⟩
end Go.Proofs.YtgjkkcggcljcdaaDoor
