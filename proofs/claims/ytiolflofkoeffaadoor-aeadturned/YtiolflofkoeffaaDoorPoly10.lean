/-
  Layer 4: what (*state).tag, start and Of return.
-/
import Derived.Test.YtiolflofkoeffaaDoorPoly9
namespace Go.Proofs.YtiolflofkoeffaaDoor
open Go.RowKit
open Go.Lib (hid)

namespace Px
/-- The tag of a text x: the last block, if there is one, is added. -/
def tagOf (r s x : List Nat) : List Nat :=
  low (plus (least (if x.length % 16 = 0 then sumN r x (x.length / 16) else added r (sumN r x (x.length / 16)) (restOf x) (x.length % 16))) s)
theorem tagOf_length (r s x : List Nat) : (tagOf r s x).length = 16 := low_length _
theorem tagOf_lt (r s x : List Nat) : ∀ c ∈ tagOf r s x, c < 256 := low_lt _
end Px

theorem KeptB.setNew {b z : Nat} {u w : World} (h : KeptB b u w) (hz : u.heap.size ≤ z) (cs : Array Value) : KeptB b u (w.setRow z cs) :=
  ⟨h.os, h.tape, h.output, by simpa using h.size, fun k hk hb => (setRow_other w z k cs (by omega)).trans (h.block k hk hb)⟩
/-- What stays while a tag is made. -/
def TgS (w : World) (b z : Nat) (r s m q : List Nat) (c : Nat) (u : World) : Prop := PAt u b r s m q c ∧ Row u z .u8 37 (List.replicate 16 0) ∧ KeptB b w u
theorem TgS.keep {w : World} {b z : Nat} {r s m q : List Nat} {c : Nat} {u u' : World} (h : TgS w b z r s m q c u) (hb : Below u.heap.size u u') : TgS w b z r s m q c u' :=
  ⟨h.1.below hb, h.2.1.below hb h.2.1.lt, h.2.2.trans (KeptB.of_below hb)⟩

set_option maxHeartbeats 2000000 in
set_option maxRecDepth 100000 in
theorem ptag_any (b : Nat) (r s x : List Nat) (hr : r.length = 5) (hs : s.length = 5) (or : Px.Ok r) (os : Px.Ok s) (hx : ∀ c ∈ x, c < 256) (w : World) (h : PSt w b r s x) :
    Calls Tryd.prog 36 #[.pointer (some ⟨b, 0, none⟩)] w fun e w' => e = .returned (.agg (ints .u8 (Px.tagOf r s x))) ∧ KeptB b w w' := by
  have k := pst_ok hr hs or os hx
  have hp : PAt w b r s (Px.sumN r x (x.length / 16)) (Px.restOf x) (x.length % 16) := h
  have HTE : Hid (∀ _ : Nat, Px.tagOf r s x = Px.low (Px.plus (Px.least (if x.length % 16 = 0 then Px.sumN r x (x.length / 16) else Px.added r (Px.sumN r x (x.length / 16)) (Px.restOf x) (x.length % 16))) s)) := fun _ => rfl
  have hts : (ints .u8 (Px.tagOf r s x)).size = 16 := by rw [ints_size, Px.tagOf_length]
  generalize Px.tagOf r s x = T at *
  have hml := Px.sumN_length r x (x.length / 16)
  have hmo := Px.ok_sumN r x (x.length / 16)
  generalize Px.sumN r x (x.length / 16) = M at *
  generalize Px.restOf x = Q at *
  generalize x.length % 16 = c at *
  have HADD := hid (fun wx (hx : PAt wx b r s M Q c) => padd_any b r s M Q c k wx hx)
  have hal := Px.added_length r M Q c
  have hao := Px.ok_added r M Q c
  generalize Px.added r M Q c = A at *
  clear h hx
  go_enter Tryd.func36, Tryd.ntmps36
  go_upto_region 1 with (fail)
  generalize hw0 : w.alloc _ = w0
  have HZ0 := hid (show Row w0 w.heap.size .u8 37 (List.replicate 16 0) from by rw [← hw0]; exact heap_alloc_new _ _)
  have hb0 : Below w.heap.size w w0 := by rw [← hw0]; exact (Below.refl _ _).alloc (Nat.le_refl _) _
  have hp0 := hp.below hb0
  have HKE0 := hid (KeptB.of_below (b := b) hb0)
  have hblt := hp.lt
  clear hw0 hp hb0
  have cc := hp0.cc k
  by_cases hc : c = 0
  · subst hc
    rw [if_pos rfl] at HTE
    have HS1 := hid (show TgS w b w.heap.size r s M Q 0 w0 from ⟨hp0, HZ0.out, HKE0.out⟩)
    clear hp0 HADD hal hao HZ0 HKE0
    generalize hN : M = N at *
    generalize hq : Q = q1 at *
    obtain ⟨c1, hc1⟩ : ∃ c1, c1 = 0 := ⟨_, rfl⟩
    have k1 := k
    rw [← hc1] at k1 HS1
    clear hN hq k
    go_upto_region 3 with (fail)
    clear cc hc1
    have HNL := hid k1.lm
    have HK1 := hid k1
    have HLE := hid (fun wx => least_any N k1.lm k1.om wx)
    have HPL := hid (fun wx => plus_any (Px.least N) s (by rw [Px.least_length, k1.lm]) hs wx)
    have HLO := hid (fun wx => low_any (Px.plus (Px.least N) s) (by rw [Px.plus_length, Px.least_length, k1.lm]) (k1.om.least.plus s) wx)
    rw [← HTE.out 0] at HLO
    generalize Px.plus (Px.least N) s = P1 at *
    generalize Px.least N = L1 at *
    clear k1 HTE
    refine wp_region_noPanic ?_
    refine wp_region_hd (TgS w b w.heap.size r s N q1 c1) 11 1 rfl (by kernel_rfl) (by kernel_rfl) (HS1.out.keep ((Below.refl _ _).drew)) (fun _ _ _ _ _ h => h) ?_
    intro Z φ hne hSφ hφ
    have HSZ := hid hSφ
    have HM := hid (show ∀ u : World, (∃ z, u = φ z) → u.rangeAt b 10 (ints .u64 N).toList from fun u ⟨z, hz⟩ => by rw [hz]; exact (hSφ z).1.rm HK1.out)
    have HSS := hid (show ∀ u : World, (∃ z, u = φ z) → u.rangeAt b 5 (ints .u64 s).toList from fun u ⟨z, hz⟩ => by rw [hz]; exact (hSφ z).1.rs HK1.out)
    have IM := hid (show (Tryd.prog.info? 66).map (·.size) = some (ints .u64 N).toList.length from by rw [ints_llen, HNL.out]; exact info77)
    have IS := hid (show (Tryd.prog.info? 66).map (·.size) = some (ints .u64 s).toList.length from by rw [ints_llen, hs]; exact info77)
    have C1 := hid (fun z => calls_class hφ ((HLE.out (φ z)).mono fun e w' h => ⟨h.1, (hSφ z).keep h.2⟩))
    have C2 := hid (fun z => calls_class hφ ((HPL.out (φ z)).mono fun e w' h => ⟨h.1, (hSφ z).keep h.2⟩))
    have C3 := hid (fun z => calls_class hφ ((HLO.out (φ z)).mono fun e w' h => ⟨h.1, (hSφ z).keep h.2⟩))
    clear hSφ hφ
    simp only [List.take_succ_cons, List.take_zero, List.drop_succ_cons, List.drop_zero]
    repeat (first
      | (refine wpQuiet_load_arr rfl _ _ rfl b 10 rfl _ _ HM.out Tryd.underlying66 rfl IM.out ?_; simp only [Act.put, List.setIfInBounds_toArray, List.set_cons_zero, List.set_cons_succ])
      | (refine wpQuiet_load_arr rfl _ _ rfl b 5 rfl _ _ HSS.out Tryd.underlying66 rfl IS.out ?_; simp only [Act.put, List.setIfInBounds_toArray, List.set_cons_zero, List.set_cons_succ])
      | go_big_quiet_step (first | (go_at_call 54; exact C1.out _) | (go_at_call 55; exact C2.out _) | (go_at_call 56; exact C3.out _)))
    refine wpQuiet_nil ?_
    intro z
    have hrz := (HSZ.out z).2.1
    have HKZ := hid (HSZ.out z).2.2
    clear HSZ HM HSS C1 C2 C3
    generalize φ z = w2 at *
    go_wp2_with (refine wpList_store_row rfl _ _ _ rfl w.heap.size _ rfl rfl _ _ hrz (by rw [hts]; exact info48) (by rw [hts, ints_size, List.length_replicate]) (ints_one _ _) ?_)
    refine NoPanic.normal ?_
    go_wp2
    exact bodyPost_ret (v := .agg (ints .u8 T))
      (results_cell_row Tryd.results36 _ _ w.heap.size _ _ _ _ rfl (setRow_heap w2 w.heap.size _ _ _ _ hrz) Tryd.underlying37 rfl (by rw [hts]; exact info48))
      rfl ⟨rfl, HKZ.out.setNew (Nat.le_refl _) _⟩
  · rw [if_neg hc] at HTE
    have hcp : (0 : Int) < (c : Int) := by omega
    have k1 : POk r s A (List.replicate 17 0) 0 := ⟨hr, hs, hal, by simp, or, os, hao, fun x hx => by rw [List.eq_of_mem_replicate hx]; omega, by omega⟩
    have HP0 := hid hp0
    clear hp0
    go_upto_region 3 with (go_at_call 53; refine (HADD.out _ HP0.out).mono ?_; rintro e w1 ⟨rfl, hp1, hk1⟩)
    have HS1 := hid (show TgS w b w.heap.size r s A (List.replicate 17 0) 0 w1 from ⟨hp1, HZ0.out.keptB hk1 (by omega), HKE0.out.trans hk1⟩)
    clear hp1 hk1 HADD HP0 HZ0 HKE0 cc k
    generalize hN : A = N at *
    generalize hq : List.replicate 17 0 = q1 at *
    obtain ⟨c1, hc1⟩ : ∃ c1, c1 = 0 := ⟨_, rfl⟩
    rw [← hc1] at k1 HS1
    clear hN hq hc1
    have HNL := hid k1.lm
    have HK1 := hid k1
    have HLE := hid (fun wx => least_any N k1.lm k1.om wx)
    have HPL := hid (fun wx => plus_any (Px.least N) s (by rw [Px.least_length, k1.lm]) hs wx)
    have HLO := hid (fun wx => low_any (Px.plus (Px.least N) s) (by rw [Px.plus_length, Px.least_length, k1.lm]) (k1.om.least.plus s) wx)
    rw [← HTE.out 0] at HLO
    generalize Px.plus (Px.least N) s = P1 at *
    generalize Px.least N = L1 at *
    clear k1 HTE
    refine wp_region_noPanic ?_
    refine wp_region_hd (TgS w b w.heap.size r s N q1 c1) 11 1 rfl (by kernel_rfl) (by kernel_rfl) (HS1.out.keep ((Below.refl _ _).drew)) (fun _ _ _ _ _ h => h) ?_
    intro Z φ hne hSφ hφ
    have HSZ := hid hSφ
    have HM := hid (show ∀ u : World, (∃ z, u = φ z) → u.rangeAt b 10 (ints .u64 N).toList from fun u ⟨z, hz⟩ => by rw [hz]; exact (hSφ z).1.rm HK1.out)
    have HSS := hid (show ∀ u : World, (∃ z, u = φ z) → u.rangeAt b 5 (ints .u64 s).toList from fun u ⟨z, hz⟩ => by rw [hz]; exact (hSφ z).1.rs HK1.out)
    have IM := hid (show (Tryd.prog.info? 66).map (·.size) = some (ints .u64 N).toList.length from by rw [ints_llen, HNL.out]; exact info77)
    have IS := hid (show (Tryd.prog.info? 66).map (·.size) = some (ints .u64 s).toList.length from by rw [ints_llen, hs]; exact info77)
    have C1 := hid (fun z => calls_class hφ ((HLE.out (φ z)).mono fun e w' h => ⟨h.1, (hSφ z).keep h.2⟩))
    have C2 := hid (fun z => calls_class hφ ((HPL.out (φ z)).mono fun e w' h => ⟨h.1, (hSφ z).keep h.2⟩))
    have C3 := hid (fun z => calls_class hφ ((HLO.out (φ z)).mono fun e w' h => ⟨h.1, (hSφ z).keep h.2⟩))
    clear hSφ hφ
    simp only [List.take_succ_cons, List.take_zero, List.drop_succ_cons, List.drop_zero]
    repeat (first
      | (refine wpQuiet_load_arr rfl _ _ rfl b 10 rfl _ _ HM.out Tryd.underlying66 rfl IM.out ?_; simp only [Act.put, List.setIfInBounds_toArray, List.set_cons_zero, List.set_cons_succ])
      | (refine wpQuiet_load_arr rfl _ _ rfl b 5 rfl _ _ HSS.out Tryd.underlying66 rfl IS.out ?_; simp only [Act.put, List.setIfInBounds_toArray, List.set_cons_zero, List.set_cons_succ])
      | go_big_quiet_step (first | (go_at_call 54; exact C1.out _) | (go_at_call 55; exact C2.out _) | (go_at_call 56; exact C3.out _)))
    refine wpQuiet_nil ?_
    intro z
    have hrz := (HSZ.out z).2.1
    have HKZ := hid (HSZ.out z).2.2
    clear HSZ HM HSS C1 C2 C3
    generalize φ z = w2 at *
    go_wp2_with (refine wpList_store_row rfl _ _ _ rfl w.heap.size _ rfl rfl _ _ hrz (by rw [hts]; exact info48) (by rw [hts, ints_size, List.length_replicate]) (ints_one _ _) ?_)
    refine NoPanic.normal ?_
    go_wp2
    exact bodyPost_ret (v := .agg (ints .u8 T))
      (results_cell_row Tryd.results36 _ _ w.heap.size _ _ _ _ rfl (setRow_heap w2 w.heap.size _ _ _ _ hrz) Tryd.underlying37 rfl (by rw [hts]; exact info48))
      rfl ⟨rfl, HKZ.out.setNew (Nat.le_refl _) _⟩
end Go.Proofs.YtiolflofkoeffaaDoor
