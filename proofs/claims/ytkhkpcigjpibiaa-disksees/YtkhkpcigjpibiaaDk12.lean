/-
  Layer 9: Stable; a text as a page.
-/
import Derived.Test.YtkhkpcigjpibiaaDk11
namespace Go.Proofs.Ytkhkpcigjpibiaa
open Go.ChangeShapes Go.WideShapes Go.ChangeAt Go.RowKit Go.Shelf
open Go.Conc
open Go.Lib (hid)

attribute [local go_sem] Oper.semAt_some

/-- A slice of texts. -/
def TSl (w : World) (v : Value) (base : Nat) (L : List ByteArray) : Prop := ∃ g cap, v = .slice (some ⟨g, 0, none⟩) L.length cap ∧ base ≤ g ∧ TRow w g L
theorem infoS : (Try.prog.info? 9).map (fun i => (i.zero, i.size, i.bytes)) = some (some (.string ByteArray.empty), 1, 16) := by kernel_rfl
theorem own_empty (w : World) : (w.alloc (.cells #[] 9)).ownsRow w.heap.size 9 1 (.slice (some ⟨w.heap.size, 0, none⟩) 0 0) 0 [] :=
  ⟨rfl, Or.inr ⟨w.heap.size, 0, #[], rfl, Nat.le_refl _, heap_alloc_new _ _, Nat.le_refl _, by unfold maxLen; omega, by simp, by simp⟩⟩
theorem TRow.news {w : World} {g : Nat} {L : List ByteArray} (h : TRow w g L) (j : Nat) (u : Value) (hj : (L.map Value.string)[j]? = some u) : w.cell? ((⟨g, 0, none⟩ : Addr).add j) = some u := by
  have hlt : j < L.length := by simpa using (List.getElem?_eq_some_iff.1 hj).1
  rw [Addr.add_lit, Nat.zero_add, h.cell j hlt, ← hj, List.getElem?_map, List.getD_eq_getElem?_getD, List.getElem?_eq_getElem hlt]
  rfl
set_option maxHeartbeats 1000000 in
set_option maxRecDepth 100000 in
theorem clone_any (w : World) (g cap : Nat) (L : List ByteArray) (h : TRow w g L) (hl : 0 < L.length) (hl2 : L.length ≤ 5000) :
    Calls Try.prog 43 #[.slice (some ⟨g, 0, none⟩) L.length cap] w fun e w' => ∃ v, e = .returned v ∧ TSl w' v w.heap.size L ∧ Below w.heap.size w w' := by
  have hnil := fun (w : World) => Go.Lib.run_eql_slice_nil (P := Try.prog) w 26 9 (some ⟨g, 0, none⟩) L.length cap 0 0 Try.underlying26
  go_enter Try.func43, Try.ntmps43
  obtain ⟨i, hi, hz0, hz1, hz2⟩ := info_parts infoS
  have HOE := hid (own_empty w)
  have hb1 : Below w.heap.size w (w.alloc (.cells #[] 9)) := (Below.refl _ w).alloc (Nat.le_refl _) _
  have HNW := hid (show TRow (w.alloc (.cells #[] 9)) g L from h.at (hb1.block g h.lt))
  have HONE := hid (show ∀ u ∈ L.map Value.string, u.oneCell' = true from by
    intro u hu
    obtain ⟨x, _, rfl⟩ := List.mem_map.1 hu
    rfl)
  have HB1 := hid hb1
  clear hb1
  go_upto_region 3 with (fail)
  refine wp_region_to ?_
  refine listTo_wp (pre := [_, _]) (post := [_, _]) ?_
  go_wp2
  refine listTo_of ?_
  refine wpList_append_own _ rfl _ _ 26 rfl w.heap.size 9 i _ 1 16 Try.underlying26 hi hz0 hz1 hz2 rfl (by decide) _ 0 [] rfl HOE.out ⟨g, 0, none⟩ L.length cap (L.map Value.string) rfl (by simp) (fun j u hj => HNW.out.news j u hj) HONE.out (by unfold maxLen; omega) (by omega) (by rw [World.size_alloc]; omega) ?_
  intro v' w' ho hg hv
  go_wp2
  rw [Nat.zero_add, List.nil_append] at ho
  have hb : Below w.heap.size w w' := by
    refine HB1.out.grown hg (by rw [World.size_alloc]; omega) ?_
    intro k hk
    have hk' : some w.heap.size = some k := hk
    simp only [Option.some.injEq] at hk'
    omega
  refine bodyPost_ret (results_tmp rfl _ _ _) rfl ⟨_, rfl, ?_, hb⟩
  obtain ⟨_, ⟨_, h0⟩ | ⟨g', cap', cur, hvv, hg1, hh, hn, hc, hs, ht⟩⟩ := ho
  · omega
  · refine ⟨g', cap', hvv, hg1, cur.toList.drop L.length, ?_⟩
    rw [hh]
    congr 2
    rw [Nat.mul_one] at ht
    rw [← ht, List.take_append_drop]
section
variable {w : World} {d gs c : Nat} {vv : Value} {D : Dv.D}
set_option maxRecDepth 100000 in
theorem stable_any (h : IsD w d gs c vv D) (hl : 0 < D.P.length) : Calls Try.prog 21 #[.pointer (some ⟨d, 0, none⟩)] w fun e w' => ∃ v, e = .returned v ∧ TSl w' v w.heap.size D.P ∧ Below w.heap.size w w' := by
  have hcl := clone_any w gs D.pc D.P h.st hl (by have := h.pages; omega)
  obtain ⟨c0, c1, c2, c3, c4, c5, c6, c7⟩ := dkC_cells h.row
  clear h
  go_enter Try.func21, Try.ntmps21
  go_wp2_with (go_at_call 43; refine hcl.mono ?_; rintro e w1 ⟨v, rfl, hv, hb⟩)
  exact bodyPost_ret (results_tmp rfl _ _ _) rfl ⟨v, rfl, hv, hb⟩
end
end Go.Proofs.Ytkhkpcigjpibiaa
