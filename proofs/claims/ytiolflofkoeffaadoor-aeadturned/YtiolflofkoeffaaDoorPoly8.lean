/-
  Layer 4: a state in memory, and what add does to it.
-/
import Derived.Test.YtiolflofkoeffaaDoorPoly7
import Derived.Test.YtiolflofkoeffaaDoorLStr
namespace Go.Proofs.YtiolflofkoeffaaDoor
open Go.RowKit
open Go.Lib (hid)

theorem mid_swap {α : Type} (A B C B' : List α) (o n : Nat) (hA : A.length = o) (hB : B.length = n) : (A ++ (B ++ C)).take o ++ (B' ++ (A ++ (B ++ C)).drop (o + n)) = A ++ (B' ++ C) := by
  subst hA hB
  rw [List.take_left' rfl, ← List.append_assoc A B C, List.drop_left' (by simp)]
theorem mid_set {α : Type} (A B C : List α) (o i : Nat) (x : α) (hA : A.length = o) (hi : i < B.length) : (A ++ (B ++ C)).set (o + i) x = A ++ (B.set i x ++ C) := by
  subst hA
  rw [List.set_append_right _ _ (by omega), Nat.add_sub_cancel_left, List.set_append_left _ _ hi]
theorem range_mid {w : World} {b : Nat} {cs : Array Value} {t : TypeId} {fr : Nat × Nat} (h : w.heap[b]? = some (.cells cs t fr)) {A B C : List Value} {o : Nat} (hl : cs.toList = A ++ (B ++ C)) (hA : A.length = o) : w.rangeAt b o B := by
  subst hA
  intro j v hj
  have hlt : j < B.length := (List.getElem?_eq_some_iff.1 hj).1
  rw [cell_of_row w b (A.length + j) _ _ _ h, ← Array.getElem?_toList, hl, List.getElem?_append_right (by omega), Nat.add_sub_cancel_left, List.getElem?_append_left hlt]; exact hj

/-- The cells of a state. -/
def pC (r s m q : List Nat) (c : Nat) : Array Value := ints .u64 r ++ ints .u64 s ++ ints .u64 m ++ ints .u8 q ++ #[.int .i64 (c : Int)]
section
variable (r s m q : List Nat) (c : Nat)
theorem pC_r : (pC r s m q c).toList = [] ++ ((ints .u64 r).toList ++ ((ints .u64 s).toList ++ (ints .u64 m).toList ++ (ints .u8 q).toList ++ [.int .i64 (c : Int)])) := by simp [pC]
theorem pC_s : (pC r s m q c).toList = (ints .u64 r).toList ++ ((ints .u64 s).toList ++ ((ints .u64 m).toList ++ (ints .u8 q).toList ++ [.int .i64 (c : Int)])) := by simp [pC]
theorem pC_m : (pC r s m q c).toList = ((ints .u64 r).toList ++ (ints .u64 s).toList) ++ ((ints .u64 m).toList ++ ((ints .u8 q).toList ++ [.int .i64 (c : Int)])) := by simp [pC]
theorem pC_q : (pC r s m q c).toList = ((ints .u64 r).toList ++ (ints .u64 s).toList ++ (ints .u64 m).toList) ++ ((ints .u8 q).toList ++ [.int .i64 (c : Int)]) := by simp [pC]
theorem pC_c : (pC r s m q c).toList = ((ints .u64 r).toList ++ (ints .u64 s).toList ++ (ints .u64 m).toList ++ (ints .u8 q).toList) ++ ([.int .i64 (c : Int)] ++ []) := by simp [pC]
end
/-- The state at block b. -/
def PAt (w : World) (b : Nat) (r s m q : List Nat) (c : Nat) : Prop := w.heap[b]? = some (.cells (pC r s m q c) 70 (0, 0))
/-- What a state is made of. -/
structure POk (r s m q : List Nat) (c : Nat) : Prop where
  lr : r.length = 5
  ls : s.length = 5
  lm : m.length = 5
  lq : q.length = 17
  or : Px.Ok r
  os : Px.Ok s
  om : Px.Ok m
  hq : ∀ x ∈ q, x < 256
  hc : c ≤ 16
section
variable {w : World} {b : Nat} {r s m q : List Nat} {c : Nat}
theorem PAt.lt (h : PAt w b r s m q c) : b < w.heap.size := (Array.getElem?_eq_some_iff.1 h).1
theorem PAt.below {w' : World} (h : PAt w b r s m q c) (hb : Below w.heap.size w w') : PAt w' b r s m q c := by
  unfold PAt; rw [hb.block b h.lt]; exact h
theorem PAt.rr (h : PAt w b r s m q c) : w.rangeAt b 0 (ints .u64 r).toList := range_mid h (pC_r r s m q c) rfl
theorem PAt.rs (h : PAt w b r s m q c) (k : POk r s m q c) : w.rangeAt b 5 (ints .u64 s).toList := range_mid h (pC_s r s m q c) (by rw [ints_llen, k.lr])
theorem PAt.rm (h : PAt w b r s m q c) (k : POk r s m q c) : w.rangeAt b 10 (ints .u64 m).toList := range_mid h (pC_m r s m q c) (by rw [List.length_append, ints_llen, ints_llen, k.lr, k.ls])
theorem PAt.rq (h : PAt w b r s m q c) (k : POk r s m q c) : w.rangeAt b 15 (ints .u8 q).toList := range_mid h (pC_q r s m q c) (by simp only [List.length_append, ints_llen, k.lr, k.ls, k.lm])
theorem PAt.cc (h : PAt w b r s m q c) (k : POk r s m q c) : w.cell? ⟨b, 32, none⟩ = some (.int .i64 (c : Int)) :=
  range_mid h (pC_c r s m q c) (o := 32) (by simp only [List.length_append, ints_llen, k.lr, k.ls, k.lm, k.lq]) 0 _ rfl
theorem PAt.cq (h : PAt w b r s m q c) (k : POk r s m q c) (i : Nat) (hi : i < 17) : w.cell? ⟨b, 15 + i, none⟩ = some (.int .u8 (q.getD i 0 : Nat)) :=
  h.rq k i _ (by rw [Array.getElem?_toList, ints_get _ _ _ (by rw [k.lq]; exact hi)])
theorem PAt.fr (h : PAt w b r s m q c) (i : Nat) : w.frozen? ⟨b, i, none⟩ = false := Lib.frozen_of_heap h i
theorem PAt.setq (h : PAt w b r s m q c) (k : POk r s m q c) (i x : Nat) (hi : i < 17) : PAt (w.setCell ⟨b, 15 + i, none⟩ (.int .u8 (x : Int))) b r s m (q.set i x) c := by
  unfold PAt
  rw [heap_setCell_same w b (15 + i) _ _ _ h]
  congr 2
  apply Array.toList_inj.1
  rw [Array.toList_setIfInBounds, pC_q, mid_set _ _ _ 15 i _ (by simp only [List.length_append, ints_llen, k.lr, k.ls, k.lm]) (by rw [ints_llen, k.lq]; exact hi), pC_q, ← ints_set, Array.toList_setIfInBounds]
theorem PAt.setc (h : PAt w b r s m q c) (k : POk r s m q c) (x : Nat) : PAt (w.setCell ⟨b, 32, none⟩ (.int .i64 (x : Int))) b r s m q x := by
  unfold PAt
  rw [heap_setCell_same w b 32 _ _ _ h]
  congr 2
  apply Array.toList_inj.1
  rw [Array.toList_setIfInBounds, pC_c, show (32 : Nat) = 32 + 0 from rfl, mid_set _ _ _ 32 0 _ (by simp only [List.length_append, ints_llen, k.lr, k.ls, k.lm, k.lq]) (by simp), pC_c]
  rfl
theorem pC_size (k : POk r s m q c) : (pC r s m q c).size = 33 := by
  rw [← Array.length_toList, pC_c]
  simp only [List.length_append, ints_llen, k.lr, k.ls, k.lm, k.lq, List.length_cons, List.length_nil]
theorem pC_putm (k : POk r s m q c) (m' : List Nat) (hm : m'.length = 5) : ((pC r s m q c).toList.take 10 ++ ((ints .u64 m').toList ++ (pC r s m q c).toList.drop (10 + (ints .u64 m').size))).toArray = pC r s m' q c := by
  apply Array.toList_inj.1
  rw [ints_size, hm, pC_m, pC_m, mid_swap _ _ _ _ 10 5 (by simp only [List.length_append, ints_llen, k.lr, k.ls]) (by rw [ints_llen, k.lm])]
theorem pC_putq (k : POk r s m q c) (q' : List Nat) (hq : q'.length = 17) : ((pC r s m q c).toList.take 15 ++ ((ints .u8 q').toList ++ (pC r s m q c).toList.drop (15 + (ints .u8 q').size))).toArray = pC r s m q' c := by
  apply Array.toList_inj.1
  rw [ints_size, hq, pC_q, pC_q, mid_swap _ _ _ _ 15 17 (by simp only [List.length_append, ints_llen, k.lr, k.ls, k.lm]) (by rw [ints_llen, k.lq])]
theorem POk.setq (k : POk r s m q c) (i x : Nat) (hx : x < 256) : POk r s m (q.set i x) c :=
  ⟨k.lr, k.ls, k.lm, by rw [List.length_set, k.lq], k.or, k.os, k.om, fun u hu => (List.mem_or_eq_of_mem_set hu).elim (fun h => k.hq u h) (fun h => by rw [h]; exact hx), k.hc⟩
end

namespace Px
/-- The block added to the sum. -/
def added (r m q : List Nat) (c : Nat) : List Nat := times (plus m (numberOf (q.set c 1))) r
theorem added_length (r m q : List Nat) (c : Nat) : (added r m q c).length = 5 := times_length _ _
theorem ok_added (r m q : List Nat) (c : Nat) : Ok (added r m q c) := ok_times _ _
end Px

/-- What stays while a block is added. -/
def AdS (w : World) (b : Nat) (r s m q : List Nat) (c : Nat) (u : World) : Prop := PAt u b r s m q c ∧ KeptB b w u
theorem AdS.keep {w : World} {b : Nat} {r s m q : List Nat} {c : Nat} {u u' : World} (h : AdS w b r s m q c u) (hb : Below u.heap.size u u') : AdS w b r s m q c u' :=
  ⟨h.1.below hb, h.2.trans (KeptB.of_below hb)⟩

set_option maxHeartbeats 1000000 in
set_option maxRecDepth 100000 in
theorem padd_any (b : Nat) (r s m q : List Nat) (c : Nat) (k : POk r s m q c) (w : World) (h : PAt w b r s m q c) :
    Calls Tryd.prog 53 #[.pointer (some ⟨b, 0, none⟩)] w fun e w' => e = .returned (.tuple #[]) ∧ PAt w' b r s (Px.added r m q c) (List.replicate 17 0) 0 ∧ KeptB b w w' := by
  have k2 := k.setq c 1 (by omega)
  have HN := hid (fun wx => numberOf_any (q.set c 1) k2.lq k2.hq wx)
  have HP := hid (fun wx => plus_any m (Px.numberOf (q.set c 1)) k.lm (Px.numberOf_length _) wx)
  have HT := hid (fun wx => times_any (Px.plus m (Px.numberOf (q.set c 1))) r (by rw [Px.plus_length, k.lm]) k.lr wx)
  rw [show Px.times (Px.plus m (Px.numberOf (q.set c 1))) r = Px.added r m q c from rfl] at HT
  have hal := Px.added_length r m q c
  have HK3 := hid (show POk r s (Px.added r m q c) (q.set c 1) c from ⟨k2.lr, k2.ls, hal, k2.lq, k2.or, k2.os, Px.ok_added r m q c, k2.hq, k2.hc⟩)
  have hps := fun n => show PAt ((w.drewN n).setCell ⟨b, 15 + c, none⟩ (.int .u8 ((1 : Nat) : Int))) b r s m (q.set c 1) c from PAt.setq (w := w.drewN n) h k c 1 (by have := k.hc; omega)
  have hkb := fun n => show KeptB b w ((w.drewN n).setCell ⟨b, 15 + c, none⟩ (.int .u8 ((1 : Nat) : Int))) from (show KeptB b w (w.drewN n) from ⟨rfl, rfl, rfl, Nat.le_refl _, fun _ _ _ => rfl⟩).setCell _
  rw [show ((1 : Nat) : Int) = 1 from rfl] at hps hkb
  have HPS := hid hps
  have HKB := hid hkb
  clear hps hkb
  have hc17 : c < 17 := by have := k.hc; omega
  have cc := fun n => show (w.drewN n).cell? ⟨b, 32, none⟩ = _ from h.cc k
  have cq := fun n => show (w.drewN n).cell? ⟨b, 15 + c, none⟩ = _ from h.cq k c hc17
  have fq := fun n => show (w.drewN n).frozen? ⟨b, 15 + c, none⟩ = _ from h.fr (15 + c)
  have HK2 := hid k2
  have HLR := hid k.lr
  have HLM := hid k.lm
  have HLN := hid (Px.numberOf_length (q.set c 1))
  generalize Px.added r m q c = T at *
  generalize Px.plus m (Px.numberOf (q.set c 1)) = P1 at *
  generalize Px.numberOf (q.set c 1) = N1 at *
  generalize q.getD c 0 = x0 at *
  generalize q.set c 1 = q1 at *
  clear k k2 h
  go_enter Tryd.func53, Tryd.ntmps53
  go_upto_region 0 with (fail)
  refine wp_region_noPanic ?_
  refine wp_region_hd1 8 1 rfl (by kernel_rfl) (by kernel_rfl) (fun _ _ _ _ _ h => h) ?_
  simp only [List.take_succ_cons, List.take_zero, List.drop_succ_cons, List.drop_zero]
  repeat (go_big_quiet_step (fail))
  refine wpQuiet_nil ?_
  intro n
  go_wp2
  refine NoPanic.normal ?_
  have HS1 := hid (show AdS w b r s m q1 c ((w.drewN n).setCell ⟨b, 15 + c, none⟩ (.int .u8 1)) from ⟨HPS.out n, HKB.out n⟩)
  clear HPS HKB cc cq fq
  generalize (w.drewN n).setCell _ _ = w1 at *
  go_upto_region 1 with (fail)
  refine wp_region_noPanic ?_
  refine wp_region_hd (AdS w b r s m q1 c) 18 1 rfl (by kernel_rfl) (by kernel_rfl) (HS1.out.keep ((Below.refl _ _).drew)) (fun _ _ _ _ _ h => h) ?_
  intro Z φ hne hSφ hφ
  have HSZ := hid hSφ
  have HR := hid (show ∀ u : World, (∃ z, u = φ z) → u.rangeAt b 0 (ints .u64 r).toList from fun u ⟨z, hz⟩ => by rw [hz]; exact (hSφ z).1.rr)
  have HM := hid (show ∀ u : World, (∃ z, u = φ z) → u.rangeAt b 10 (ints .u64 m).toList from fun u ⟨z, hz⟩ => by rw [hz]; exact (hSφ z).1.rm HK2.out)
  have HQ := hid (show ∀ u : World, (∃ z, u = φ z) → u.rangeAt b 15 (ints .u8 q1).toList from fun u ⟨z, hz⟩ => by rw [hz]; exact (hSφ z).1.rq HK2.out)
  have IR := hid (show (Tryd.prog.info? 66).map (·.size) = some (ints .u64 r).toList.length from by rw [ints_llen, HLR.out]; exact info77)
  have IM := hid (show (Tryd.prog.info? 66).map (·.size) = some (ints .u64 m).toList.length from by rw [ints_llen, HLM.out]; exact info77)
  have IQ := hid (show (Tryd.prog.info? 68).map (·.size) = some (ints .u8 q1).toList.length from by rw [ints_llen, HK2.out.lq]; exact info82)
  have C1 := hid (fun z => calls_class hφ ((HN.out (φ z)).mono fun e w' h => ⟨h.1, (hSφ z).keep h.2⟩))
  have C2 := hid (fun z => calls_class hφ ((HP.out (φ z)).mono fun e w' h => ⟨h.1, (hSφ z).keep h.2⟩))
  have C3 := hid (fun z => calls_class hφ ((HT.out (φ z)).mono fun e w' h => ⟨h.1, (hSφ z).keep h.2⟩))
  clear hSφ hφ
  simp only [List.take_succ_cons, List.take_zero, List.drop_succ_cons, List.drop_zero]
  repeat (first
    | (refine wpQuiet_load_arr rfl _ _ rfl b 10 rfl _ _ HM.out Tryd.underlying66 rfl IM.out ?_; simp only [Act.put, List.setIfInBounds_toArray, List.set_cons_zero, List.set_cons_succ])
    | (refine wpQuiet_load_arr rfl _ _ rfl b 15 rfl _ _ HQ.out Tryd.underlying68 rfl IQ.out ?_; simp only [Act.put, List.setIfInBounds_toArray, List.set_cons_zero, List.set_cons_succ])
    | (refine wpQuiet_load_arr rfl _ _ rfl b 0 rfl _ _ HR.out Tryd.underlying66 rfl IR.out ?_; simp only [Act.put, List.setIfInBounds_toArray, List.set_cons_zero, List.set_cons_succ])
    | go_big_quiet_step (first | (go_at_call 52; exact C1.out _) | (go_at_call 55; exact C2.out _) | (go_at_call 68; exact C3.out _)))
  refine wpQuiet_nil ?_
  intro z
  have HPZ := hid (HSZ.out z).1
  have HKZ := hid (HSZ.out z).2
  have HAS := hid (show (ints .u64 T).size = 5 from by rw [ints_size, hal])
  clear HSZ HR HM HQ C1 C2 C3 hal
  generalize φ z = w2 at *
  go_wp2_with (refine wpList_store_in rfl _ _ _ rfl b 10 _ rfl rfl _ _ HPZ.out (by rw [HAS.out, pC_size HK2.out]; omega) (by rw [HAS.out]; exact info77) (ints_one _ _) ?_)
  rw [pC_putm HK2.out T (by rw [← ints_size .u64 T]; exact HAS.out)]
  refine NoPanic.normal ?_
  have HP3 := hid (show PAt (w2.setRow b (pC r s T q1 c)) b r s T q1 c from setRow_heap _ _ _ _ _ _ HPZ.out)
  have HK3' := hid (HKZ.out.setRow (pC r s T q1 c))
  generalize w2.setRow _ _ = w3 at *
  clear HPZ HKZ
  have HK4 := hid (show POk r s T (List.replicate 17 0) c from ⟨HK3.out.lr, HK3.out.ls, HK3.out.lm, by simp, HK3.out.or, HK3.out.os, HK3.out.om, fun x hx => by rw [List.eq_of_mem_replicate hx]; omega, HK3.out.hc⟩)
  have hpq := pC_putq HK3.out (List.replicate 17 0) (by simp)
  have hp4 : PAt (w3.setRow b (pC r s T (List.replicate 17 0) c)) b r s T (List.replicate 17 0) c := setRow_heap _ _ _ _ _ _ HP3.out
  have c32 := hp4.cc HK4.out
  have f32 := hp4.fr 32
  have HP5 := hid (hp4.setc HK4.out 0)
  have HK5 := hid ((HK3'.out.setRow (pC r s T (List.replicate 17 0) c)).setCell (o := 32) (.int .i64 ((0 : Nat) : Int)))
  rw [show ((0 : Nat) : Int) = 0 from rfl] at HP5 HK5
  generalize pC r s T (List.replicate 17 0) c = PC4 at *
  have HPQ := hid hpq
  clear hpq hp4 HK4
  go_wp2_with (refine wpList_store_in rfl _ _ _ rfl b 15 (ints .u8 (List.replicate 17 0)) rfl rfl _ _ HP3.out (by rw [ints_size, List.length_replicate, pC_size HK3.out]; omega) (by rw [ints_size, List.length_replicate]; exact info82) (ints_one _ _) ?_; rw [HPQ.out])
  go_end0
  exact ⟨rfl, HP5.out, HK5.out⟩
end Go.Proofs.YtiolflofkoeffaaDoor
