/-
  Layer 7: what tree.rise returns.
-/
import Derived.Test.YtnhecallffkedabDoorBase
import Derived.Test.YtnhecallffkedabDoorTree8
import Derived.Test.YtnhecallffkedabDoorRefKit
namespace Go.Proofs.YtnhecallffkedabDoor
open Go.RowKit
open Go.Lib (hid)

namespace Tx
/-- The texts that are hashed on the way up, behind k steps. -/
def wayN (i : Nat) (t : List Nat) (l : List (List Nat)) : Nat → List (List Nat)
  | 0 => [leaf t]
  | k + 1 => wayN i t l k ++ [if i / 2 ^ k % 2 = 1 then node (l.getD k []) (Sx.digest ((wayN i t l k).getD k [])) else node (Sx.digest ((wayN i t l k).getD k [])) (l.getD k [])]
theorem wayN_length (i : Nat) (t : List Nat) (l : List (List Nat)) (k : Nat) : (wayN i t l k).length = k + 1 := by
  induction k with
  | zero => rfl
  | succ k ih => rw [wayN, List.length_append, ih]; rfl
end Tx
/-- A whole array loaded in a quiet walk. -/
theorem wpQuiet_load_arr {P : Program} {ops : Array Oper} {C : World → Prop} {Q : Act → Prop} {rest : List Oper} {o : Oper} {a : Act} (hgd : Region.wanted o (yielded ops a.tmps) = true) (ty : TypeId) (x : Operand) (ho : o.op = .load ty x)
    (b off : Nat) (hx : a.eval x = .pointer (some ⟨b, off, none⟩)) (cs : Array Value) (d : TypeDesc) (hc : ∀ w, C w → w.rangeAt b off cs.toList)
    (hu : P.underlying ty = some d) (hd : d.isRow = true) (hi : (P.info? ty).map (·.size) = some cs.toList.length)
    (h : wpQuiet P ops C Q rest (a.put o.dst (.agg cs))) : wpQuiet P ops C Q (o :: rest) a := by
  refine wpQuiet_step (fun K hK => ?_)
  rw [if_pos hgd]
  refine ⟨.agg cs, fun w hw => ?_, hK _ h⟩
  have hrun := run_loadVar_mid w b off ty cs.toList d (hc w hw) hu hd hi
  rw [Array.toArray_toList] at hrun
  unfold Oper.quietAt execOp
  simp only [ho, hx, Instr.loadAt, Instr.sureAddr, Sem.run_bind, Sem.run_pure, Result.andThen_ok, hrun]
  exact ⟨rfl, rfl⟩
theorem fill_step (S : ByteArray) (r : List Nat) (hr : r.length = 32) : Instr.fill (fun i => some (i * 33, 33)) ((Array.range (1 * 33)).map ((Value.agg (#[.string ⟨#[]⟩] ++ ints .u8 (List.replicate 32 0))).cells[· % (Value.agg (#[.string ⟨#[]⟩] ++ ints .u8 (List.replicate 32 0))).cells.size]!)) [(0, .agg (#[.string S] ++ ints .u8 r))] = some (#[.string S] ++ ints .u8 r) := by
  obtain ⟨a0, a1, a2, a3, a4, a5, a6, a7, a8, a9, a10, a11, a12, a13, a14, a15, a16, a17, a18, a19, a20, a21, a22, a23, a24, a25, a26, a27, a28, a29, a30, a31, rfl⟩ := list32 r hr
  kernel_rfl
theorem wpList_mkW {w : World} {ops : Array Oper} {rest : List Oper} {o : Oper} {a : Act} {Q : Exit → Act → World → Prop} (hgd : o.guard = none) (x : Operand) (ho : o.op = .buildSlice 78 1 #[(0, x)]) (f : List Nat) (hx : a.eval x = .agg (stepC f))
    (h : wpList Tryd.prog ops Q rest (a.put o.dst (.slice (some ⟨w.heap.size, 0, none⟩) 1 1)) (w.alloc (.cells (stepC f) 97))) : wpList Tryd.prog ops Q (o :: rest) a w := by
  obtain ⟨i, hi, hz0, hz1, hz2⟩ := info_parts info78z
  refine wpList_buildSlice hgd 78 97 1 _ ho (stepC f) i _ Tryd.underlying78 hi hz0 (by rw [hz1]; decide) (by rw [hz1]; decide) ?_ h
  rw [hz1]
  simp only [List.map_toArray, List.map_cons, List.map_nil, hx]
  exact fill_step (str f) (Sx.digest f) (digest_length f)
theorem OwnW.made (w : World) (f : List Nat) (base : Nat) (hb : base ≤ w.heap.size) : OwnW (w.alloc (.cells (stepC f) 97)) base (.slice (some ⟨w.heap.size, 0, none⟩) 1 1) [f] :=
  ⟨by rw [cellsW_length], Or.inr ⟨w.heap.size, 1, stepC f, rfl, hb, heap_alloc_new _ _, Nat.le_refl _, by unfold maxLen; omega, by rw [stepC_size], by rw [cellsW_one, List.take_of_length_le (by rw [stepC_llen]; simp)]⟩⟩

theorem rkeep {z : Nat} {x : List Nat} {w u u' : World} (h : Row u z .u8 27 x ∧ Below w.heap.size w u) (hb : Below u.heap.size u u') : Row u' z .u8 27 x ∧ Below w.heap.size w u' :=
  ⟨h.1.below hb h.1.lt, h.2.trans (hb.mono h.2.size)⟩

set_option maxHeartbeats 2000000 in
set_option maxRecDepth 100000 in
theorem rise_any (i : Nat) (hi : i < 65536) (t : List Nat) (ht : ∀ x ∈ t, x < 256) (htl : t.length ≤ 10000000) (l : List (List Nat)) (hl : ∀ f ∈ l, f.length = 32) (hlb : ∀ f ∈ l, ∀ x ∈ f, x < 256) (hll : l.length ≤ 1000) (v : Value) (w : World) (hT : Tabs w) (hS : Sums w v l) :
    Calls Tryd.prog 26 #[.func (.func 7) #[] #[], .int .i64 (i : Int), .string (str t), v] w fun e w' => ∃ v', e = .returned v' ∧ OwnW w' w.heap.size v' (Tx.wayN i t l l.length) ∧ Below w.heap.size w w' := by
  have HLE := hid (fun wx => leaf_any t (by omega) wx)
  have HST := hid (fun wx hx => step_any (Tx.leaf t) (Tx.leaf_lt t ht) (by rw [Tx.leaf, List.length_cons]; omega) wx hx)
  have HSM := hid hS
  obtain ⟨ao, cap, hv, hc⟩ := hS
  have HC := hid hc
  have HT := hid hT
  have HL := hid hl
  have HLB := hid hlb
  clear hc hT hl hlb ht
  subst hv
  go_enter Tryd.func26, Tryd.ntmps26
  go_wp2_with fail
  refine (HLE.out _).mono ?_
  rintro e w1 ⟨rfl, hw1⟩
  rw [hw1]
  clear hw1 w1
  go_wp2_with fail
  refine (HST.out _ HT.out).mono ?_
  rintro e w2 ⟨rfl, hb2⟩
  have HB2 := hid hb2
  clear hb2
  go_upto_region 3 with (refine wpList_mkW rfl _ rfl (Tx.leaf t) rfl ?_)
  have HO3 := hid (show OwnW (w2.alloc (.cells (stepC (Tx.leaf t)) 97)) w.heap.size (.slice (some ⟨w2.heap.size, 0, none⟩) 1 1) (Tx.wayN i t l 0) from OwnW.made w2 (Tx.leaf t) w.heap.size HB2.out.size)
  have HB3 := hid (HB2.out.alloc HB2.out.size (.cells (stepC (Tx.leaf t)) 97))
  clear HB2 HLE HST
  generalize w2.alloc _ = w3 at *
  go_loopw [1, 9, 11, 12, 20] (fun n u _ _ c wr => ∃ k : Nat, k ≤ l.length ∧ c = .int .i64 k ∧ n = .int .i64 (i / 2 ^ k : Nat) ∧ OwnW wr w.heap.size u (Tx.wayN i t l k) ∧ Below w.heap.size w wr)
    (fun _ _ _ _ c _ => l.length - (intOf c).toNat)
  case atStart => exact ⟨0, by omega, rfl, by simp, HO3.out, HB3.out⟩
  case round =>
    clear HO3 HB3
    obtain ⟨k, hk, rfl, rfl, hO, hB⟩ := hrel
    by_cases hlt : k < l.length
    · obtain ⟨b, o, rfl, hbw, hrg⟩ := HC.out k hlt
      have hxm : l.getD k [] ∈ l := by simp [List.getD_eq_getElem?_getD, hlt]
      have hxl := HL.out _ hxm
      have hxb := HLB.out _ hxm
      have HRG := hid (range_below hrg hB hbw)
      have hwl := Tx.wayN_length i t l k
      have HRT := hid (fun wx hx => wroot_any u9 (Tx.wayN i t l k) (by omega) (by omega) wx hx)
      rw [show (Tx.wayN i t l k).length - 1 = k from by omega] at HRT
      have HTS := hid (show Tx.wayN i t l k ++ [if i / 2 ^ k % 2 = 1 then Tx.node (l.getD k []) (Sx.digest ((Tx.wayN i t l k).getD k [])) else Tx.node (Sx.digest ((Tx.wayN i t l k).getD k [])) (l.getD k [])] = Tx.wayN i t l (k + 1) from rfl)
      have hdl := digest_length ((Tx.wayN i t l k).getD k [])
      have hdb := digest_lt ((Tx.wayN i t l k).getD k [])
      generalize Sx.digest ((Tx.wayN i t l k).getD k []) = D at *
      generalize l.getD k [] = x at *
      have HN1 := hid (fun wx => node_any D x hdl hxl wx)
      have HN2 := hid (fun wx => node_any x D hxl hdl wx)
      have HS1 := hid (fun wx hx => step_any (Tx.node D x) (Tx.node_lt _ _ hdb hxb) (by rw [Tx.node, List.length_cons, List.length_append]; omega) wx hx)
      have HS2 := hid (fun wx hx => step_any (Tx.node x D) (Tx.node_lt _ _ hxb hdb) (by rw [Tx.node, List.length_cons, List.length_append]; omega) wx hx)
      have HHALF := hid (show i / 2 ^ (k + 1) = i / 2 ^ k / 2 from by rw [Nat.div_div_eq_div_mul, Nat.pow_succ])
      have hn : i / 2 ^ k < 65536 := Nat.lt_of_le_of_lt (Nat.div_le_self _ _) hi
      have hand := and64 (i / 2 ^ k) 1 (by unfold Sx.M; omega) (by decide)
      rw [Nat.and_one_is_mod, show ((1 : Nat) : Int) = 1 from rfl] at hand
      have hsz : (ints .u8 x).size = 32 := by rw [ints_size, hxl]
      have HO := hid hO
      have HB := hid hB
      generalize i / 2 ^ k = n at *
      generalize Tx.wayN i t l k = W at *
      clear hO hB hrg hxm hxb hdb
      have g1 : (k : Int) < l.length := by omega
      go_upto_region 5 with (first
        | (refine wpList_load_mid rfl _ _ rfl b (o + k * 32) rfl _ _ HRG.out Tryd.underlying27 rfl (by rw [Array.length_toList, hsz]; exact info27) ?_; rw [Array.toArray_toList])
        | (refine wpList_store_row rfl _ _ _ rfl wr.heap.size _ rfl rfl _ _ (heap_alloc_new _ _) (by rw [hsz]; exact info27) (by rw [hsz]; rfl) (ints_one _ _) ?_))
      generalize hw4 : (wr.alloc _).setRow _ _ = w4
      have HC4 := hid (show Row w4 wr.heap.size .u8 27 x ∧ Below wr.heap.size wr w4 from by
        rw [← hw4]; exact ⟨setRow_heap _ _ _ _ _ _ (heap_alloc_new _ _), below_setRow ((Below.refl _ _).alloc (Nat.le_refl _) _) (Nat.le_refl _) _⟩)
      clear hw4 HRG
      simp only [Act.put, List.setIfInBounds_toArray, List.set_cons_zero, List.set_cons_succ]
      refine wp_region_class (fun u => Row u wr.heap.size .u8 27 x ∧ Below wr.heap.size wr u) (by kernel_rfl) (by kernel_rfl) (rkeep HC4.out ((Below.refl _ _).drew)) ?_
      intro Z φ hne hSφ hφ
      have HSZ := hid hSφ
      have RX := hid (show ∀ u : World, (∃ z, u = φ z) → u.rangeAt wr.heap.size 0 (ints .u8 x).toList from fun u ⟨z, hz⟩ => by rw [hz]; exact range_row (hSφ z).1)
      have IX := hid (show (Tryd.prog.info? 27).map (·.size) = some (ints .u8 x).toList.length from by rw [Array.length_toList, hsz]; exact info27)
      have C1 := hid (fun z => calls_class hφ ((HRT.out (φ z) (HO.out.ways.below (hSφ z).2)).mono fun e w' h => ⟨h.1, rkeep (hSφ z) h.2⟩))
      have C2 := hid (fun z => calls_class hφ ((HN1.out (φ z)).mono fun e w' h => ⟨h.1, rkeep (hSφ z) h.2⟩))
      clear hSφ hφ
      repeat (first
        | (refine wpQuiet_load_arr rfl _ _ rfl wr.heap.size 0 rfl _ _ RX.out Tryd.underlying27 rfl IX.out ?_; simp only [Act.put, List.setIfInBounds_toArray, List.set_cons_zero, List.set_cons_succ])
        | go_big_quiet_step (first | (go_at_call 27; with_reducible exact C1.out _) | (go_at_call 32; with_reducible exact C2.out _)))
      refine wpQuiet_nil ?_
      intro z
      have HC5 := hid (HSZ.out z)
      clear HSZ RX IX C1 C2
      generalize φ z = w5 at *
      by_cases hodd : n % 2 = 1
      · rw [if_pos hodd] at HTS
        rw [hodd] at hand
        go_upto_region 7 with (fail)
        refine wp_region_class (fun u => Row u wr.heap.size .u8 27 x ∧ Below wr.heap.size wr u) (by kernel_rfl) (by kernel_rfl) (rkeep HC5.out ((Below.refl _ _).drew)) ?_
        intro Z' ψ hne hSφ hφ
        have HSZ := hid hSφ
        have RX := hid (show ∀ u : World, (∃ z, u = ψ z) → u.rangeAt wr.heap.size 0 (ints .u8 x).toList from fun u ⟨z, hz⟩ => by rw [hz]; exact range_row (hSφ z).1)
        have IX := hid (show (Tryd.prog.info? 27).map (·.size) = some (ints .u8 x).toList.length from by rw [Array.length_toList, hsz]; exact info27)
        have C1 := hid (fun z => calls_class hφ ((HRT.out (ψ z) (HO.out.ways.below (hSφ z).2)).mono fun e w' h => ⟨h.1, rkeep (hSφ z) h.2⟩))
        have C2 := hid (fun z => calls_class hφ ((HN2.out (ψ z)).mono fun e w' h => ⟨h.1, rkeep (hSφ z) h.2⟩))
        clear hSφ hφ
        repeat (first
          | (refine wpQuiet_load_arr rfl _ _ rfl wr.heap.size 0 rfl _ _ RX.out Tryd.underlying27 rfl IX.out ?_; simp only [Act.put, List.setIfInBounds_toArray, List.set_cons_zero, List.set_cons_succ])
          | go_big_quiet_step (first | (go_at_call 27; with_reducible exact C1.out _) | (go_at_call 32; with_reducible exact C2.out _)))
        refine wpQuiet_nil ?_
        intro z
        have HC5 := hid (HSZ.out z)
        clear HSZ RX IX C1 C2
        generalize ψ z = w5 at *
        go_wp2_with fail
        have hx := HC5.out.2
        refine ((HS2).out _ (HT.out.below (HB.out.trans (hx.mono HB.out.size)) (Nat.le_refl _))).mono ?_
        rintro e w6 ⟨rfl, hb6⟩
        have hB6 : Below wr.heap.size wr w6 := hx.trans (hb6.mono hx.size)
        clear hx hb6
        go_wp2_with (first
          | (refine wpList_mkW rfl _ rfl (Tx.node x D) rfl ?_)
          | (refine wpList_appW rfl _ _ rfl w.heap.size _ W (Tx.node x D) rfl (HO.out.below (hB6.alloc hB6.size _)) rfl (by omega) (Nat.le_trans HB.out.size hB6.size) ?_; intro v' w7 ho7 hb7))
        have HF := hid (show OwnW w7 w.heap.size v' (Tx.wayN i t l (k + 1)) ∧ Below w.heap.size w w7 from
          ⟨by rw [← HTS.out]; exact ho7, ((HB.out.trans (hB6.mono HB.out.size)).alloc (Nat.le_trans HB.out.size hB6.size) _).trans hb7⟩)
        clear ho7 hb7 hB6
        exact ⟨⟨k + 1, by omega, congrArg (Value.int .i64) (by omega), congrArg (Value.int .i64) (by rw [HHALF.out]; omega), HF.out.1, HF.out.2⟩, by simp only [intOf]; omega⟩
      · rw [if_neg hodd] at HTS
        rw [show n % 2 = 0 from by omega] at hand
        go_wp2_with fail
        have hx := HC5.out.2
        refine ((HS1).out _ (HT.out.below (HB.out.trans (hx.mono HB.out.size)) (Nat.le_refl _))).mono ?_
        rintro e w6 ⟨rfl, hb6⟩
        have hB6 : Below wr.heap.size wr w6 := hx.trans (hb6.mono hx.size)
        clear hx hb6
        go_wp2_with (first
          | (refine wpList_mkW rfl _ rfl (Tx.node D x) rfl ?_)
          | (refine wpList_appW rfl _ _ rfl w.heap.size _ W (Tx.node D x) rfl (HO.out.below (hB6.alloc hB6.size _)) rfl (by omega) (Nat.le_trans HB.out.size hB6.size) ?_; intro v' w7 ho7 hb7))
        have HF := hid (show OwnW w7 w.heap.size v' (Tx.wayN i t l (k + 1)) ∧ Below w.heap.size w w7 from
          ⟨by rw [← HTS.out]; exact ho7, ((HB.out.trans (hB6.mono HB.out.size)).alloc (Nat.le_trans HB.out.size hB6.size) _).trans hb7⟩)
        clear ho7 hb7 hB6
        exact ⟨⟨k + 1, by omega, congrArg (Value.int .i64) (by omega), congrArg (Value.int .i64) (by rw [HHALF.out]; omega), HF.out.1, HF.out.2⟩, by simp only [intOf]; omega⟩
    · obtain rfl : k = l.length := by omega
      have HO := hid hO
      have HB := hid hB
      have g1 : ¬ ((l.length : Int) < l.length) := by omega
      clear hO hB
      generalize i / 2 ^ l.length = n at *
      go_wp2
      go_ret
      exact ⟨_, rfl, HO.out, HB.out⟩
end Go.Proofs.YtnhecallffkedabDoor
