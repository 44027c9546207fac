/-
  Layer 9, law DiskEvicts.
-/
import Derived.Test.YtkbmkgpjjibolaaDk18
namespace Go.Proofs.Ytkbmkgpjjibolaa
open Go.ChangeShapes Go.WideShapes Go.ChangeAt Go.RowKit Go.Shelf
open Go.Conc
open Go.Lib (hid)

attribute [local go_sem] Oper.semAt_some

namespace DiskEvicts
def actsC (l : List Dv.A) : List Value := (l.map fun a => (actC a).toList).flatten
theorem infoAct : (Try.prog.info? 36).map (fun i => (i.zero, i.size, i.bytes)) = some (some (.agg #[.int .i64 0, .int .i64 0, .int .i64 0, .int .u64 0, .string ByteArray.empty]), 5, 48) := by kernel_rfl
theorem infoAct' : (Try.prog.info? 36).map (·.size) = some 5 := by kernel_rfl
theorem ownsRow_at' {w w' : World} {base : Nat} {e : TypeId} {size n : Nat} {v : Value} {xs : List Value} (h : w.ownsRow base e size v n xs) (hk : ∀ (g : Nat) (cs : Array Value), w.heap[g]? = some (Obj.cells cs e (0, 0)) → w'.heap[g]? = w.heap[g]?) : w'.ownsRow base e size v n xs := by
  obtain ⟨h1, h2 | ⟨g, cap, cur, hv, hg, hh, rest⟩⟩ := h
  · exact ⟨h1, Or.inl h2⟩
  · exact ⟨h1, Or.inr ⟨g, cap, cur, hv, hg, (hk g cur hh).trans hh, rest⟩⟩
theorem ownsRow_below {w w' : World} {base : Nat} {e : TypeId} {size n : Nat} {v : Value} {xs : List Value} (h : w.ownsRow base e size v n xs) (hb : Below w.heap.size w w') : w'.ownsRow base e size v n xs :=
  ownsRow_at' h fun g _ hg => hb.block g (Array.getElem?_eq_some_iff.1 hg).1
def blank16 : Array Value := (List.replicate 16 (.string ByteArray.empty)).toArray
def fillN (j : Nat) : List ByteArray := List.replicate j Dv.zs ++ List.replicate (16 - j) ByteArray.empty
theorem fillN_length (j : Nat) (h : j ≤ 16) : (fillN j).length = 16 := by simp [fillN]; omega
theorem fillN_set (j : Nat) (h : j < 16) : (fillN j).set j Dv.zs = fillN (j + 1) := by
  unfold fillN
  rw [List.set_append_right _ _ (by simp), List.length_replicate, Nat.sub_self, show 16 - j = (16 - (j + 1)) + 1 from by omega, List.replicate_succ, List.set_cons_zero, List.replicate_succ', List.append_assoc]
  rfl
theorem actsC_get (M : List Dv.A) : ∀ (i : Nat), i < M.length → ∀ (j : Nat) (v : Value), (actC (M.getD i Dv.A.z)).toList[j]? = some v → (actsC M)[i * 5 + j]? = some v := by
  induction M with
  | nil => intro i hi; simp at hi
  | cons a M ih =>
    intro i hi j v hj
    have hj5 : j < 5 := (List.getElem?_eq_some_iff.1 hj).1
    cases i with
    | zero =>
      simp only [actsC, List.map_cons, List.flatten_cons, Nat.zero_mul, Nat.zero_add]
      rw [List.getElem?_append_left (by simpa [actC] using hj5)]
      exact hj
    | succ i =>
      have h5 : (actC a).toList.length = 5 := rfl
      have := ih i (by simpa using hi) j v hj
      simp only [actsC, List.map_cons, List.flatten_cons]
      rw [List.getElem?_append_right (by rw [h5]; omega), h5, show (i + 1) * 5 + j - 5 = i * 5 + j from by omega]
      exact this
theorem actsC_length (M : List Dv.A) : (actsC M).length = M.length * 5 := by
  induction M with
  | nil => rfl
  | cons a M ih => simp only [actsC, List.map_cons, List.flatten_cons, List.length_append, List.length_cons] at ih ⊢; rw [ih]; simp [actC]; omega
theorem own_acts {w : World} {base : Nat} {ao : Option Addr} {cap : Nat} {M : List Dv.A} (h : w.ownsRow base 36 5 (.slice ao M.length cap) M.length (actsC M)) (hM : 0 < M.length) :
    ∃ g, ao = some ⟨g, 0, none⟩ ∧ base ≤ g ∧ M.length ≤ cap ∧ ∀ i, i < M.length → w.rangeAt g (i * 5) (actC (M.getD i Dv.A.z)).toList := by
  obtain ⟨hl, ⟨h0, h1⟩ | ⟨g, cap', cur, hv, hg, hh, hn, hc, hs, ht⟩⟩ := h
  · omega
  · simp only [Value.slice.injEq] at hv
    obtain ⟨rfl, _, rfl⟩ := hv
    refine ⟨g, rfl, hg, hn, fun i hi j v hj => ?_⟩
    have h2 := actsC_get M i hi j v hj
    have hlt : i * 5 + j < (actsC M).length := (List.getElem?_eq_some_iff.1 h2).1
    rw [hl] at hlt
    rw [← ht, List.getElem?_take, if_pos hlt, Array.getElem?_toList] at h2
    rw [cell_of_row w g (i * 5 + j) cur _ _ hh]
    exact h2
theorem put_take (M : List Dv.A) (j : Nat) (hj : j < M.length) (P : List ByteArray) : ((M.map Dv.opOf).take (j + 1)).foldl Dv.put P = (((M.map Dv.opOf).take j).foldl Dv.put P).set (M.getD j Dv.A.z).p.toNat (M.getD j Dv.A.z).t := by
  have hl : j < (M.map Dv.opOf).length := by rw [List.length_map]; exact hj
  rw [List.take_succ_eq_append_getElem hl, List.foldl_append, List.getElem_map, List.getD_eq_getElem?_getD, List.getElem?_eq_getElem hj]
  rfl
structure S (w : World) (d gs c cc : Nat) (M : List Dv.A) (lv vv : Value) (D : Dv.D) (wr : World) : Prop where
  ev : Dv.Evs 16 cc M D
  disk : IsD wr d gs c vv D
  base : ∀ b, dkB d gs c vv b → w.heap.size ≤ b
  own : wr.ownsRow w.heap.size 36 5 lv M.length (actsC M)
  pos : ∀ a ∈ M, 0 ≤ a.p ∧ a.p < 16
  bel : Below w.heap.size w wr
theorem S.below {w : World} {d gs c cc : Nat} {M : List Dv.A} {lv vv : Value} {D : Dv.D} {wr w' : World} (h : S w d gs c cc M lv vv D wr) (hb : Below wr.heap.size wr w') : S w d gs c cc M lv vv D w' :=
  ⟨h.ev, h.disk.below hb, h.base, ownsRow_below h.own hb, h.pos, h.bel.trans (hb.mono h.bel.size)⟩
theorem disk_notAct {d gs c : Nat} {vv : Value} {D : Dv.D} {wr : World} (h : IsD wr d gs c vv D) {k : Nat} {cs : Array Value} (hk : wr.heap[k]? = some (.cells cs 36 (0, 0))) : ¬ dkB d gs c vv k := by
  rintro (rfl | rfl | rfl | hv)
  · have := h.row; rw [hk] at this; injection this with e; injection e with _ e _; exact absurd e (by decide)
  · obtain ⟨ex, hg⟩ := h.st; rw [hk] at hg; injection hg with e; injection e with _ e _; exact absurd e (by decide)
  · obtain ⟨s, r, hc⟩ := h.ch; rw [hk] at hc; cases hc
  · obtain ⟨cs', hv⟩ := h.vblock hv; rw [hk] at hv; injection hv with e; injection e with _ e _; exact absurd e (by decide)
theorem S.notAct {w : World} {d gs c cc : Nat} {M : List Dv.A} {lv vv : Value} {D : Dv.D} {wr : World} (h : S w d gs c cc M lv vv D wr) {k : Nat} {cs : Array Value} (hk : wr.heap[k]? = some (.cells cs 36 (0, 0))) : ¬ dkB d gs c vv k := disk_notAct h.disk hk
theorem S.step {w : World} {d gs c cc : Nat} {M : List Dv.A} {lv vv vv' : Value} {D : Dv.D} {wr w' : World} (h : S w d gs c cc M lv vv D wr) (D' : Dv.D) (hd : IsD w' d gs c vv' D') (hto : DkTo wr d gs c vv w' vv') :
    IsD w' d gs c vv' D' ∧ (∀ b, dkB d gs c vv' b → w.heap.size ≤ b) ∧ w'.ownsRow w.heap.size 36 5 lv M.length (actsC M) ∧ Below w.heap.size w w' := by
  refine ⟨hd, fun b hb => ?_, ownsRow_at' h.own fun g cs hg => (hto.1.block g (Array.getElem?_eq_some_iff.1 hg).1 (h.notAct hg)), h.bel.trans (hto.1.below h.base h.bel.size)⟩
  rcases hb with hb | hb | hb | hb
  · exact h.base b (Or.inl hb)
  · exact h.base b (Or.inr (Or.inl hb))
  · exact h.base b (Or.inr (Or.inr (Or.inl hb)))
  · rcases hto.2 b hb with h1 | h1
    · exact h.base b (Or.inr (Or.inr (Or.inr h1)))
    · exact Nat.le_trans h.bel.size h1
set_option maxHeartbeats 1000000 in
set_option maxRecDepth 100000 in
theorem walk (ao : Option Addr) (L : List Dv.A) (cap : Nat) (cache : Int) (w : World) (hR : ActsD w ao L) (hL : L.length ≤ maxLen) (hb : ∀ i, i < L.length → (L.getD i Dv.A.z).t.size ≤ maxLen) :
    Calls Try.prog 8 #[.slice ao L.length cap, .int .i64 cache] w fun e w' => e = .returned (.bool true) ∧ Below w.heap.size w w' := by
  have haw := awake_any w
  obtain ⟨j7, hj7, hand7⟩ := and_le cache 7 (by decide)
  have hand7' : bits .and .i64 cache 7 = (j7 : Int) := hand7
  obtain ⟨cc, hcc⟩ : ∃ cc, cc = 1 + j7 := ⟨_, rfl⟩
  have hcc1 : 1 ≤ cc ∧ cc ≤ 8 := by omega
  have hadd : (1 : Int) + (j7 : Int) = (cc : Int) := by omega
  have hj7i : (j7 : Int) ≤ 7 := by omega
  have hcci : (1 : Int) ≤ cc ∧ (cc : Int) ≤ 8 := by omega
  clear hcc
  have HNEW := hid (fun (wx : World) => new_any 16 (cc : Int) 16 cc rfl (by omega) wx)
  go_enter Try.func8, Try.ntmps8
  go_upto_region 7 with (first
    | (go_at_call 9; refine haw.mono ?_; rintro e w1 ⟨rfl, hb1⟩)
    | (go_at_call 10; refine (HNEW.out _).mono ?_; rintro e w2 ⟨d, gs, c, pc, rfl, hd2, hb2, hld, hlg, hlc⟩))
  have HS2 := hid (show S w d gs c cc [] (.slice none 0 0) (.slice none 0 0) (Dv.new 16 cc pc) w2 from by
    have hsz := hb1.size
    refine ⟨Dv.Evs.new 16 cc pc, hd2, fun b hb => ?_, World.ownsRow_nil _ _ _ _, fun a ha => (by simp at ha), hb1.trans (hb2.mono hsz)⟩
    rcases hb with rfl | rfl | rfl | hb
    · omega
    · omega
    · omega
    · cases hb)
  clear hd2 hb1 hb2 haw hand7 hand7' hadd HNEW
  go_wp2
  go_loopw [6, 7] (fun lv i wr => ∃ (M : List Dv.A) (vv : Value) (D : Dv.D), i = .int .i64 (M.length : Nat) ∧ M.length ≤ L.length ∧ M.length ≤ 40 ∧ S w d gs c cc M lv vv D wr)
    (fun _ i _ => L.length - (intOf i).toNat)
  case atStart => exact ⟨[], _, _, rfl, by simp, by simp, HS2.out⟩
  case round =>
    obtain ⟨M, vv, D, rfl, hML, hM40, hs⟩ := hrel
    have HS := hid hs
    obtain ⟨al, cl, hlv⟩ := ownsRow_slice hs.own
    clear hs HS2
    obtain ⟨k, hk⟩ : ∃ k, k = M.length := ⟨_, rfl⟩
    rw [← hk] at hlv hML hM40
    subst hlv
    rw [← hk]
    have HK := hid hk
    clear hk
    by_cases hlt : k < L.length ∧ k < 40
    · have g1 : (k : Int) < L.length := by omega
      have g2 : (k : Int) < 40 := by omega
      obtain ⟨sb, so, rfl, hra⟩ := hR k hlt.1
      have hbk := hb k hlt.1
      generalize L.getD k Dv.A.z = a at *
      have hra2 := rangeAt_below hra HS.out.bel (by simp [actC])
      obtain ⟨ak, ap, an, am, at_⟩ := a
      go_upto_region 11 with (fail)
      refine wp_region_to ?_
      refine listTo_wp (pre := [_, _, _]) (post := [_, _, _]) ?_
      go_wp2
      refine listTo_of ?_
      refine wpList_load_mid rfl _ _ rfl sb (so + k * 5) rfl _ _ hra2 Try.underlying36 rfl infoAct' ?_
      unfold actC
      go_upto_region 12 with (fail)
      obtain ⟨pj, hpj, hand15⟩ := and_le ap 15 (by decide)
      have hand15' : bits .and .i64 ap 15 = (pj : Int) := hand15
      have hpji : (pj : Int) ≤ 15 := by omega
      have HCU := hid (fun (wx : World) => (cut_any at_ 20 wx hbk (by decide)).mono (R' := fun e w' => e = .returned (.string (str ((nums at_).take 20))) ∧ w' = wx) (fun e w' ⟨he, hw⟩ => ⟨he, hw.symm⟩))
      have hpsz : (str ((nums at_).take 20)).size ≤ 1000 := by rw [str_size, List.length_take]; omega
      have HPA := hid (fun (wx : World) => (page_any (str ((nums at_).take 20)) hpsz wx).mono (R' := fun e w' => e = .returned (.string (Dv.page (str ((nums at_).take 20)))) ∧ w' = wx) (fun e w' ⟨he, hw⟩ => ⟨he, hw.symm⟩))
      have HPZ := hid (Dv.page_size (str ((nums at_).take 20)))
      clear hpsz hand15
      generalize str ((nums at_).take 20) = tx at *
      generalize Dv.page tx = pg at *
      have hbl : Below wr.heap.size wr (wr.alloc (.cells #[.int .i64 ak, .int .i64 ap, .int .i64 an, .int .u64 am, .string at_] 36)) := (Below.refl _ _).alloc (Nat.le_refl _) _
      have hrw := heap_alloc_new wr (.cells #[.int .i64 ak, .int .i64 ap, .int .i64 an, .int .u64 am, .string at_] 36)
      generalize wr.alloc (.cells #[.int .i64 ak, .int .i64 ap, .int .i64 an, .int .u64 am, .string at_] 36) = w3 at *
      have z1 : w3.cell? ⟨wr.heap.size, 1, none⟩ = some (.int .i64 ap) := by rw [cell_of_row _ _ _ _ _ _ hrw]; rfl
      have z4 : w3.cell? ⟨wr.heap.size, 4, none⟩ = some (.string at_) := by rw [cell_of_row _ _ _ _ _ _ hrw]; rfl
      have y1 : w3.frozen? ⟨wr.heap.size, 1, none⟩ = false := frozen_of_row _ _ _ _ _ hrw
      have y4 : w3.frozen? ⟨wr.heap.size, 4, none⟩ = false := frozen_of_row _ _ _ _ _ hrw
      refine wp_region_noPanic ?_
      refine wp_region_hd1 8 3 rfl (by kernel_rfl) (by kernel_rfl) (fun _ _ _ _ _ h => h) ?_
      simp only [List.take_succ_cons, List.take_zero, List.drop_succ_cons, List.drop_zero]
      repeat (go_big_quiet_step (first | (go_at_call 16; exact Calls.quiet_of_same (HCU.out _)) | (go_at_call 15; exact Calls.quiet_of_same (HPA.out _))))
      refine wpQuiet_nil ?_
      intro m
      go_wp2
      refine NoPanic.normal ?_
      have hr4 : (((w3.drewN m).setCell ⟨wr.heap.size, 1, none⟩ (.int .i64 (pj : Int))).setCell ⟨wr.heap.size, 4, none⟩ (.string pg)).heap[wr.heap.size]? = some (.cells (actC ⟨ak, pj, an, am, pg⟩) 36 (0, 0)) := by
        rw [heap_setCell_same _ _ 4 _ _ _ (heap_setCell_same _ _ 1 _ _ _ (show (w3.drewN m).heap[wr.heap.size]? = _ from hrw))]
        rfl
      have hb4 : Below wr.heap.size wr (((w3.drewN m).setCell ⟨wr.heap.size, 1, none⟩ (.int .i64 (pj : Int))).setCell ⟨wr.heap.size, 4, none⟩ (.string pg)) := by
        have k1 : KeptQ (fun k => k = wr.heap.size) wr w3 := KeptQ.of_below hbl
        have k2a : KeptQ (fun k => k = wr.heap.size) w3 ((w3.drewN m).setCell ⟨wr.heap.size, 1, none⟩ (.int .i64 (pj : Int))) := (KeptQ.drewN w3 m).trans (KeptQ.setCell _ _ _ rfl)
        have k2 : KeptQ (fun k => k = wr.heap.size) w3 (((w3.drewN m).setCell ⟨wr.heap.size, 1, none⟩ (.int .i64 (pj : Int))).setCell ⟨wr.heap.size, 4, none⟩ (.string pg)) := k2a.trans (KeptQ.setCell _ _ _ rfl)
        exact (k1.trans k2).below (fun k hk => by omega) (Nat.le_refl _)
      generalize ((w3.drewN m).setCell ⟨wr.heap.size, 1, none⟩ (.int .i64 (pj : Int))).setCell ⟨wr.heap.size, 4, none⟩ (.string pg) = w4 at *
      have HS4 := hid (HS.out.below hb4)
      have HR4 := hid hr4
      obtain ⟨hw0, hev⟩ := HS.out.ev.write (by omega) ⟨ak, pj, an, am, pg⟩ pj rfl (by omega) HPZ.out
      have HEV := hid hev
      have HWR := hid (write_any (HS.out.ev.fit (by rw [← HK.out]; omega)) (by rw [HS.out.ev.cap]; omega) (pj : Int) pg w4 HS4.out.disk)
      rw [show (Dv.write D (pj : Int) pg).2 = 0 from hw0] at HWR
      have x1 : w4.cell? ⟨wr.heap.size, 1, none⟩ = some (.int .i64 (pj : Int)) := by rw [cell_of_row _ _ _ _ _ _ hr4]; rfl
      have x4 : w4.cell? ⟨wr.heap.size, 4, none⟩ = some (.string pg) := by rw [cell_of_row _ _ _ _ _ _ hr4]; rfl
      generalize (Dv.write D (pj : Int) pg).1 = D5 at *
      clear hr4 hb4 hrw z1 z4 y1 y4 hbl HCU HPA hra hra2 hbk hw0 hev hand15'
      go_upto_region 15 with (go_at_call 17; refine HWR.out.mono ?_; rintro e w5 ⟨vv5, rfl, hd5, hk5⟩)
      have hr5 : w5.heap[wr.heap.size]? = some (.cells (actC ⟨ak, pj, an, am, pg⟩) 36 (0, 0)) := (hk5.1.block _ (Array.getElem?_eq_some_iff.1 HR4.out).1 (HS4.out.notAct HR4.out)).trans HR4.out
      obtain ⟨q1, q2, q3, q4⟩ := HS4.out.step D5 hd5 hk5
      have HD5 := hid q1
      have HBA5 := hid q2
      have HO5 := hid q3
      have HB5 := hid q4
      have HR5 := hid hr5
      clear q1 q2 q3 q4 hd5 hk5 HS4 HR4 HWR x1 x4
      obtain ⟨iA, hiA, hA0, hA1, hA2⟩ := info_parts infoAct
      refine wp_region_to ?_
      refine listTo_wp (pre := [_, _, _]) (post := [_, _]) ?_
      have v0 : w5.cell? ⟨wr.heap.size, 0, none⟩ = some (.int .i64 ak) := by rw [cell_of_row _ _ _ _ _ _ hr5]; rfl
      have v1 : w5.cell? ⟨wr.heap.size, 1, none⟩ = some (.int .i64 (pj : Int)) := by rw [cell_of_row _ _ _ _ _ _ hr5]; rfl
      have v2 : w5.cell? ⟨wr.heap.size, 2, none⟩ = some (.int .i64 an) := by rw [cell_of_row _ _ _ _ _ _ hr5]; rfl
      have v3 : w5.cell? ⟨wr.heap.size, 3, none⟩ = some (.int .u64 am) := by rw [cell_of_row _ _ _ _ _ _ hr5]; rfl
      have v4 : w5.cell? ⟨wr.heap.size, 4, none⟩ = some (.string pg) := by rw [cell_of_row _ _ _ _ _ _ hr5]; rfl
      go_wp2
      refine listTo_of ?_
      have hb6 : Below w5.heap.size w5 (w5.alloc (.cells #[.int .i64 ak, .int .i64 (pj : Int), .int .i64 an, .int .u64 am, .string pg] 36)) := (Below.refl _ _).alloc (Nat.le_refl _) _
      have hn6 := heap_alloc_new w5 (.cells #[.int .i64 ak, .int .i64 (pj : Int), .int .i64 an, .int .u64 am, .string pg] 36)
      have hn6' : (w5.alloc (.cells #[.int .i64 ak, .int .i64 (pj : Int), .int .i64 an, .int .u64 am, .string pg] 36)).heap[w5.heap.size]? = some (.cells (actC ⟨ak, pj, an, am, pg⟩) 36 (0, 0)) := hn6
      clear hn6
      generalize w5.alloc (.cells #[.int .i64 ak, .int .i64 (pj : Int), .int .i64 an, .int .u64 am, .string pg] 36) = w6 at *
      have HO6 := hid (ownsRow_below HO5.out hb6)
      have hkc : k ≤ 40 := hM40
      have hsz5 := HB5.out.size
      refine wpList_append_own _ rfl _ _ 22 rfl w.heap.size 36 iA _ 5 48 Try.underlying22 hiA hA0 hA1 hA2 rfl (by decide) (.slice al k cl) M.length (actsC M) rfl HO6.out ⟨w5.heap.size, 0, none⟩ 1 1 (actC ⟨ak, pj, an, am, pg⟩).toList rfl rfl (fun j u hj => by rw [Addr.add_lit, Nat.zero_add, cell_of_row _ _ _ _ _ _ hn6', ← Array.getElem?_toList]; exact hj) (fun u hu => ?_) (by unfold maxLen; have := HK.out; omega) (by have := HK.out; omega) (by have := hb6.size; omega) ?_
      · simp only [actC, List.mem_cons, List.not_mem_nil, or_false] at hu
        rcases hu with rfl | rfl | rfl | rfl | rfl <;> rfl
      intro lv' w7 ho7 hg7 _
      obtain ⟨M', hM'⟩ : ∃ M', M' = M ++ [⟨ak, pj, an, am, pg⟩] := ⟨_, rfl⟩
      have hM'l : M'.length = k + 1 := by rw [hM', List.length_append, List.length_singleton, HK.out]
      have HS7 := hid (show S w d gs c cc M' lv' vv5 D5 w7 from by
        have hd6 := HD5.out.below hb6
        have hk7 : KeptQ (fun b => some b = (Value.slice al k cl).ownBlock) w6 w7 := ⟨hg7.os, hg7.tape, hg7.output, hg7.size, fun i hi hp => hg7.block i hi hp⟩
        have hown : ∀ b, some b = (Value.slice al k cl).ownBlock → (∃ cs, w6.heap[b]? = some (.cells cs 36 (0, 0))) ∧ w.heap.size ≤ b := by
          intro b hb
          obtain ⟨_, ⟨h0, _⟩ | ⟨g, cap', cur, hv, hg, hh, _⟩⟩ := HO6.out
          · rw [h0] at hb; cases hb
          · rw [hv] at hb
            simp only [Value.ownBlock, Option.some.injEq] at hb
            subst hb
            exact ⟨⟨cur, hh⟩, hg⟩
        refine ⟨by rw [hM']; exact HEV.out, hd6.kept hk7 (fun b hb he => ?_), HBA5.out, ?_, ?_, ?_⟩
        · obtain ⟨⟨cs, hcs⟩, _⟩ := hown b he
          exact disk_notAct hd6 hcs hb
        · rw [hM', List.length_append, List.length_singleton]
          simpa [actsC] using ho7
        · intro a' ha
          rw [hM'] at ha
          rcases List.mem_append.1 ha with h | h
          · exact HS.out.pos a' h
          · simp only [List.mem_singleton] at h
            rw [h]
            simp only
            omega
        · exact ((HB5.out.trans (hb6.mono hsz5)).grown hg7 (by have := hb6.size; omega) (fun b hb => (hown b hb.symm).2)))
      have HM' := hid hM'
      have HML := hid hM'l
      have HSS := hid HS.out
      clear hb6 hn6' ho7 hg7 HO6 HO5 HBA5 HB5 HR5 HD5 HEV hr5 v0 v1 v2 v3 v4 HS hM' hM'l
      obtain ⟨al', cl', hlv'⟩ := ownsRow_slice HS7.out.own
      rw [HML.out] at hlv'
      subst hlv'
      have hcd : (D5.Q.length : Int) = min ((k : Int) + 1) (cc : Int) := by have := HS7.out.ev.cached; rw [HML.out] at this; omega
      have HCA := hid (cached_any HS7.out.disk)
      rw [hcd] at HCA
      have hmk : ∀ w : World, (Instr.makeSlice 26 (.int .i64 16) (.int .i64 16)).run Try.prog w = .ok (.slice (some ⟨w.heap.size, 0, none⟩) 16 16) (w.alloc (.cells blank16 9)) := fun w => run_mkS w 16 (by decide)
      have hk40 : (k : Int) ≤ 40 := by omega
      clear hcd
      go_wp2_with (fail)
      refine HCA.out.mono ?_
      rintro e w8 ⟨rfl, hw8⟩
      subst hw8
      have hb9 : Below w8.heap.size w8 (w8.alloc (.cells blank16 9)) := (Below.refl _ _).alloc (Nat.le_refl _) _
      have hn9 : TRow (w8.alloc (.cells blank16 9)) w8.heap.size (fillN 0) := ⟨[], by rw [heap_alloc_new]; rfl⟩
      go_upto_region 19 with (fail)
      generalize w8.alloc (.cells blank16 9) = w9 at *
      have HB9 := hid hb9
      have HN9 := hid hn9
      have HPE := hid (fun (wx : World) => page_any ⟨#[]⟩ (by decide) wx)
      rw [show Dv.page ⟨#[]⟩ = Dv.zs from Dv.page_nil] at HPE
      clear hb9 hn9 hmk HCA
      go_wp2
      generalize hgw : w8.heap.size = gw at *
      go_loopw [68] (fun i wq => ∃ j : Nat, j ≤ 16 ∧ i = .int .i64 (j : Nat) ∧ TRow wq gw (fillN j) ∧ Below gw w8 wq)
        (fun i _ => 16 - (intOf i).toNat)
      case atStart => exact ⟨0, by omega, rfl, HN9.out, HB9.out⟩
      case round =>
        obtain ⟨j, hj, rfl, ht, hbq⟩ := hrel
        have HT := hid ht
        have HBQ := hid hbq
        clear ht hbq
        by_cases hj16 : j < 16
        · have g3 : (j : Int) < 16 := by omega
          have hc3 := HT.out.cell j (by rw [fillN_length j hj]; omega)
          have hf3 := HT.out.free j
          go_wp2_with (go_at_call 15; refine (HPE.out _).mono ?_; rintro e wz ⟨rfl, hwz⟩; subst hwz)
          have hk3 : KeptQ (fun b => b = gw) wr (wr.setCell ⟨gw, j, none⟩ (.string Dv.zs)) := KeptQ.setCell _ _ _ rfl
          have hgwr : gw ≤ wr.heap.size := Nat.le_of_lt HT.out.lt
          refine ⟨⟨j + 1, by omega, congrArg (Value.int .i64) (by omega), ?_, HBQ.out.trans (hk3.below (fun b hb => by omega) hgwr)⟩, by simp only [intOf]; omega⟩
          rw [← fillN_set j hj16]
          exact HT.out.set j (by rw [fillN_length j hj]; exact hj16) Dv.zs
        · obtain rfl : j = 16 := by omega
          go_upto_region 24 with (fail)
          obtain ⟨z, hz⟩ : ∃ z, z = k + 1 - cc := ⟨_, rfl⟩
          have hmx : max 0 ((k : Int) + 1 - (cc : Int)) = (z : Int) := by omega
          have hzk : z ≤ k := by omega
          have HS8 := hid (HS7.out.below (by rw [hgw]; exact HBQ.out))
          obtain ⟨gl, rfl, hgl, hclc, hra⟩ := own_acts (M := M') (ao := al') (cap := cl') (by have := HS7.out.own; rw [HML.out] at this ⊢; exact this) (by rw [HML.out]; omega)
          rw [HML.out] at hclc hra
          have hzc : (z : Int) ≤ (cl' : Int) := by omega
          have HRA := hid hra
          have HT16 := hid (show TRow wr gw (List.replicate 16 Dv.zs) from by have := HT.out; simpa [fillN] using this)
          have HZ := hid hz
          clear hz hra HT HN9 HB9
          go_wp2
          go_loopw [84] (fun i wq => ∃ j : Nat, j ≤ z ∧ i = .int .i64 (j : Nat) ∧ TRow wq gw (((M'.map Dv.opOf).take j).foldl Dv.put (List.replicate 16 Dv.zs)) ∧ Below gw w8 wq)
            (fun i _ => z - (intOf i).toNat)
          case atStart => exact ⟨0, by omega, rfl, HT16.out, HBQ.out⟩
          case round =>
            clear HT16 HBQ HS8
            obtain ⟨j, hj, rfl, ht, hbq⟩ := hrel
            have HT := hid ht
            have HBQ := hid hbq
            clear ht hbq
            by_cases hjz : j < z
            · have g5 : (j : Int) < z := by omega
              have hjM : j < M'.length := by rw [HML.out]; omega
              have hrj := rangeAt_below (HRA.out j (by omega)) (by rw [hgw]; exact HBQ.out) (by simp [actC])
              have hpos := HS7.out.pos (M'.getD j Dv.A.z) (by rw [List.getD_eq_getElem?_getD, List.getElem?_eq_getElem hjM]; exact List.getElem_mem hjM)
              have hpt := put_take M' j hjM (List.replicate 16 Dv.zs)
              generalize M'.getD j Dv.A.z = b at *
              obtain ⟨bk, bp, bn, bm, bt⟩ := b
              obtain ⟨bpn, rfl⟩ : ∃ n : Nat, bp = n := ⟨bp.toNat, by have := hpos.1; simp only at this; omega⟩
              simp only [Int.toNat_natCast] at hpt hpos
              have HPT := hid hpt
              have hb16 : (bpn : Int) < 16 := hpos.2
              clear hpt hpos
              go_upto_region 26 with (fail)
              refine wp_region_to ?_
              refine listTo_wp (pre := [_]) (post := [_, _, _]) ?_
              go_wp2
              refine listTo_of ?_
              refine wpList_load_mid rfl _ _ rfl gl (j * 5) (by simp [Act.eval]) _ _ hrj Try.underlying36 rfl infoAct' ?_
              unfold actC
              go_upto_region 27 with (fail)
              have hbl3 : Below wr.heap.size wr (wr.alloc (.cells #[.int .i64 bk, .int .i64 (bpn : Int), .int .i64 bn, .int .u64 bm, .string bt] 36)) := (Below.refl _ _).alloc (Nat.le_refl _) _
              have hrw3 := heap_alloc_new wr (.cells #[.int .i64 bk, .int .i64 (bpn : Int), .int .i64 bn, .int .u64 bm, .string bt] 36)
              generalize wr.alloc (.cells #[.int .i64 bk, .int .i64 (bpn : Int), .int .i64 bn, .int .u64 bm, .string bt] 36) = wy at *
              have z1 : wy.cell? ⟨wr.heap.size, 1, none⟩ = some (.int .i64 (bpn : Int)) := by rw [cell_of_row _ _ _ _ _ _ hrw3]; rfl
              have z4 : wy.cell? ⟨wr.heap.size, 4, none⟩ = some (.string bt) := by rw [cell_of_row _ _ _ _ _ _ hrw3]; rfl
              have HTY := hid (HT.out.at (hbl3.block gw HT.out.lt))
              have hpl : (((M'.map Dv.opOf).take j).foldl Dv.put (List.replicate 16 Dv.zs)).length = 16 := by rw [Dv.foldl_put_length]; simp
              have hcw := HTY.out.cell bpn (by rw [hpl]; omega)
              have hfw := HTY.out.free bpn
              have hgwr : gw ≤ wr.heap.size := Nat.le_of_lt HT.out.lt
              have HBY := hid (HBQ.out.trans (hbl3.mono hgwr))
              have hszy := hbl3.size
              clear hbl3 hrw3 hrj
              go_wp2
              have hk3 : KeptQ (fun b => b = gw) wy (wy.setCell ⟨gw, bpn, none⟩ (.string bt)) := KeptQ.setCell _ _ _ rfl
              have hT' : TRow (wy.setCell ⟨gw, bpn, none⟩ (.string bt)) gw (((M'.map Dv.opOf).take (j + 1)).foldl Dv.put (List.replicate 16 Dv.zs)) := by
                rw [HPT.out]
                exact HTY.out.set bpn (by rw [hpl]; omega) bt
              have hB' : Below gw w8 (wy.setCell ⟨gw, bpn, none⟩ (.string bt)) := HBY.out.trans (hk3.below (fun b hb => by omega) (by omega))
              have hjj : (j : Int) + 1 = ((j + 1 : Nat) : Int) := by omega
              refine ⟨?_, ?_⟩
              · skip
                first
                  | exact ⟨j + 1, by omega, congrArg (Value.int .i64) hjj, hT', hB'⟩
                  | ((repeat apply Exists.intro); refine ⟨?_, rfl⟩; exact ⟨j + 1, by omega, congrArg (Value.int .i64) hjj, hT', hB'⟩)
              · simp [intOf]
                omega
            · obtain rfl : j = z := by omega
              have HS8 := hid (HS7.out.below (by rw [hgw]; exact HBQ.out))
              have hPP : D5.P = ((M'.map Dv.opOf).take j).foldl Dv.put (List.replicate 16 Dv.zs) := by rw [HS7.out.ev.p, HML.out, HZ.out]
              have HPP := hid hPP
              have hpl : D5.P.length = 16 := HS7.out.ev.len
              have HSTB := hid (stable_any HS8.out.disk (by rw [hpl]; omega))
              have HT5 := hid (show TRow wr gw D5.P from by rw [hPP]; exact HT.out)
              clear hPP HT HRA
              go_upto_region 30 with (go_at_call 21; refine HSTB.out.mono ?_; rintro e wS ⟨vS, rfl, hvS, hbS⟩; obtain ⟨gS, cS, rfl, hgS, htS⟩ := hvS)
              have HTS := hid htS
              have HTW := hid (HT5.out.at (hbS.block gw HT5.out.lt))
              have HSS2 := hid (HS8.out.below hbS)
              have hpl2 : ∀ i, i < 16 → i < D5.P.length := fun i hi => by rw [hpl]; exact hi
              clear hbS htS HS8 HT5 HSTB HPP hgS HBQ
              go_loopw [98] (fun i wq => wq = wS ∧ ∃ q : Nat, q ≤ 16 ∧ i = .int .i64 (q : Nat))
                (fun i _ => 16 - (intOf i).toNat)
              case atStart => exact ⟨rfl, 0, by omega, rfl⟩
              case round =>
                obtain ⟨rfl, q, hq, rfl⟩ := hrel
                by_cases hq16 : q < 16
                · have g6 : (q : Int) < 16 := by omega
                  have ca := HTS.out.cell q (hpl2 q hq16)
                  have cb := HTW.out.cell q (hpl2 q hq16)
                  go_wp2
                  exact ⟨⟨trivial, q + 1, by omega, congrArg (Value.int .i64) (by omega)⟩, by simp only [intOf]; omega⟩
                · obtain rfl : q = 16 := by omega
                  go_wp2
                  have hml := HML.out
                  refine ⟨⟨M', vv5, D5, congrArg (Value.int .i64) (by omega), by omega, by omega, HSS2.out⟩, by simp only [intOf]; omega⟩
    · have hpl : D.P.length = 16 := HS.out.ev.len
      have hpg := pages_any HS.out.disk
      rw [hpl] at hpg
      have HPG := hid hpg
      clear hpg
      by_cases hkl : k < L.length
      · have hk40 : k = 40 := by omega
        have g1 : (k : Int) < L.length := by omega
        have g2 : ¬ (k : Int) < 40 := by omega
        go_wp2_with (go_at_call 30; refine HPG.out.mono ?_; rintro e wz ⟨rfl, hwz⟩; subst hwz)
        exact bodyPost_ret (results_tmp rfl _ _ _) rfl ⟨rfl, HS.out.bel⟩
      · have hkl2 : k = L.length := by omega
        have g1 : ¬ (k : Int) < L.length := by omega
        go_wp2_with (go_at_call 30; refine HPG.out.mono ?_; rintro e wz ⟨rfl, hwz⟩; subst hwz)
        exact bodyPost_ret (results_tmp rfl _ _ _) rfl ⟨rfl, HS.out.bel⟩
/-- A world for the witnesses: the settled one. -/
noncomputable def laidWorld (os : Os) : World := World.holding Try.prog os ⟨#[], #[], []⟩

set_option maxRecDepth 100000 in
theorem contract (H : Type) (enc : TypeId × Value → H) (W : World) (base : Nat) (args : Array Value) (ds gs : List (DataW H)) (before : List MemPlace)
    (hval : ∀ (j : Nat) t v, Try.f8.params[j]? = some t → args[j]? = some v → Value.okWide Try.prog W .any base t v)
    (hW : DataW.Whole enc Try.prog Try.f8.params.toList Rows.diskEvictsSpec.vars false W args.toList ds gs before) (hL : laidMetH Try.prog Rows.diskEvictsRow.laid W) :
    Calls Try.prog 8 args W fun e W' => ∃ v, e = .returned v ∧ Rows.diskEvictsSpec.post enc Try.prog Try.f8 false true false false W args v W' := by
  have hW' := hW
  obtain ⟨p, q, hA0, hV, rfl, hfz, hnd⟩ := hW
  have hA : DataW.TrodAll enc Try.prog W 0 (fun _ => true) true Try.f8.params.toList args.toList ds p := hA0
  rw [Try.params8] at hA hval
  obtain ⟨v0, vs0, d0, ds0, p0, q0, hargs, rfl, rfl, h0, r0⟩ := trodAll_cons hA
  obtain ⟨v1, vs1, d1, ds1, p1, q1, rfl, rfl, rfl, h1, r1⟩ := trodAll_cons r0
  obtain ⟨rfl, rfl, rfl⟩ := trodAll_nil r1
  obtain rfl : args = #[v0, v1] := by cases args; simp_all
  obtain ⟨ao0, L0, cap0, rfl, hR0, hL0, hb0⟩ := open_acts9 (hval 0 22 v0 rfl rfl) h0
  obtain ⟨n1, rfl, rfl, rfl, wn1⟩ := open_int Try.underlying3 (hval 1 3 v1 rfl rfl) h1
  refine (walk ao0 L0 cap0 n1 W hR0 hL0 hb0).mono fun e W' ⟨he, hb⟩ => ?_
  subst he
  exact ⟨_, rfl, law_post rfl rfl (by rw [Try.params8]; decide +kernel) hW' rfl hb⟩

theorem laid_met (os : Os) : laidMet Try.prog Rows.diskEvictsRow.laid ((laidWorld os).forCall (fun _ _ => 0) ⟨#[], #[.slice none 0 0, .int .i64 0], []⟩).memory :=
  laidMet_of_run' 8 (by kernel_rfl) (by kernel_rfl)
theorem reads (os : Os) {H : Type} (enc : TypeId × Value → H) : ∃ places, DataW.whole enc Try.prog ((laidWorld os).forCall (fun _ _ => 0) ⟨#[], #[.slice none 0 0, .int .i64 0], []⟩).memory Try.f8.params.toList Rows.diskEvictsSpec.vars false (#[.slice none 0 0, .int .i64 0] : Array Value).toList 8
    = some ([.nil, .lit (.int .i64 0)], [], places) :=
  ⟨[], by kernel_rfl⟩

set_option maxRecDepth 100000 in
theorem lifted (os : Os) (started : os.Started) (H : Type) (enc : TypeId × Value → H) (F : Stop.Interp) :
    ReturnsInHanded {} Try.checked os 8 .any ((OpenSpec.ofChange Rows.diskEvictsSpec).preRow enc Try.prog Try.f8 Rows.diskEvictsRow.domain false Rows.diskEvictsRow.laid) (((OpenSpec.ofChange Rows.diskEvictsSpec).at F).post enc Try.prog Try.f8 false true false false) := by
  obtain ⟨places, hx⟩ := reads os enc
  refine returnsInHanded_of_row (C := Try.checked) (s := OpenSpec.ofChange Rows.diskEvictsSpec) own started (by kernel_rfl) Try.func8
    (witness_row_at (enc := enc) (C := Try.checked) false (laidWorld os) #[.slice none 0 0, .int .i64 0] rfl (by kernel_rfl) (by kernel_rfl) (by kernel_rfl)
      (OpenSpec.preRow_of_cond 8 hx (by kernel_rfl) (fun k hk => by cases hk) (by kernel_rfl) (laid_met os))) ?_
  intro W base args ds gs before hval hW _ _ _ hL _ _
  exact contract H enc W base args ds gs before hval hW hL

theorem said : Rows.DiskEvictsSaid :=
  OpenClaim.holds_of_cond 8 Try.f8 rfl rfl rfl rfl rfl rfl rfl ⟨rfl, rfl, rfl, rfl, rfl⟩ rfl rfl rfl rfl rfl (by kernel_rfl) Try.func8 (by kernel_rfl)
    (of_decide_eq_true (by kernel_rfl)) (by unfold Func.isWrapper; first | (rw [if_pos (by decide +kernel)]; kernel_rfl) | (rw [if_neg (by decide +kernel)]; exact ⟨rfl, rfl⟩))
    (fun os started H enc _ F => by rw [OpenClaim.pre_eq_preRow]; exact lifted os started H enc F)


end DiskEvicts
theorem diskEvicts_said : Rows.DiskEvictsSaid := DiskEvicts.said
end Go.Proofs.Ytkbmkgpjjibolaa
