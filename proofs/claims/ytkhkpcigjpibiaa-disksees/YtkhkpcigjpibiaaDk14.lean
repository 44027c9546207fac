/-
  Layer 9: New.
-/
import Derived.Test.YtkhkpcigjpibiaaDk13
import Derived.Test.YtkhkpcigjpibiaaShelf
import Derived.OrdersHeld
import Derived.Deep.RegionHeld
import Derived.Conc.SmallLaws
namespace Go.Proofs.Ytkhkpcigjpibiaa
open Go.ChangeShapes Go.WideShapes Go.ChangeAt Go.RowKit Go.Shelf
open Go.Conc
open Go.Lib (hid)

attribute [local go_sem] Oper.semAt_some

namespace Dv
def zs : ByteArray := ⟨(Lib.repeatL [0] 256).toArray⟩
def new (np nc pc : Nat) : D := { P := List.replicate np zs, pc := pc, Q := [], cap := nc, crashed := false, left := -1, mask := 0, steps := 0, view := [], saved := .slice none 0 0 }
end Dv
theorem TSl.at {w w' : World} {v : Value} {base base' : Nat} {L : List ByteArray} (h : TSl w v base L) (hb : Below w.heap.size w w') (hle : base' ≤ base) : TSl w' v base' L := by
  obtain ⟨g, cap, h1, h2, h3⟩ := h
  exact ⟨g, cap, h1, Nat.le_trans hle h2, h3.at (hb.block g h3.lt)⟩
theorem infoOpT : ∃ i, Try.prog.info? 78 = some i ∧ i.bytes = 32 := by
  obtain ⟨i, hi, _, _, hz⟩ := info_parts infoOp
  exact ⟨i, hi, hz⟩
set_option maxHeartbeats 1000000 in
set_option maxRecDepth 100000 in
theorem new_any (pages cache : Int) (np nc : Nat) (hnp : max 1 (min pages 4096) = (np : Int)) (hnc : max 1 (min cache 256) = (nc : Int)) (w : World) :
    Calls Try.prog 10 #[.int .i64 pages, .int .i64 cache] w fun e w' => ∃ d gs c pc, e = .returned (.pointer (some ⟨d, 0, none⟩)) ∧ IsD w' d gs c (.slice none 0 0) (Dv.new np nc pc) ∧ Below w.heap.size w w' ∧ w.heap.size ≤ d ∧ w.heap.size ≤ gs ∧ w.heap.size ≤ c := by
  have hp1 : 1 ≤ np ∧ np ≤ 4096 := by omega
  have hc1 : 1 ≤ nc ∧ nc ≤ 256 := by omega
  have hrp := Try.strings_Repeat (⟨#[0]⟩ : ByteArray) 256 w (by omega) (by show 1 * 256 ≤ _; omega)
  have HMUL := hid (fun (x y : Nat) (w : World) (hx : x < 18446744073709551616) (hy : y < 18446744073709551616) => Try.bits_Mul x y hx hy w)
  obtain ⟨iO, hiO, hbO⟩ := infoOpT
  have hmc := fun (w : World) => run_makeChan (P := Try.prog) (w := w) Try.underlying63 hiO .i64 nc (by omega) (by rw [hbO]; omega)
  go_enter Try.func10, Try.ntmps10
  go_upto_region 4 with (go_at_call 32; refine hrp.mono ?_; rintro e w1 ⟨rfl, hb1⟩)
  have hS1 : Below w.heap.size w w1.drew := ⟨hb1.os, hb1.tape, hb1.output, hb1.size, hb1.block⟩
  refine wp_region_noPanic ?_
  refine wp_region_held_drew (S := fun W : World => Below w.heap.size w W) (by kernel_rfl) (⟨hb1.os, hb1.tape, hb1.output, hb1.size, hb1.block⟩) (fun hS0 => ?_)
  change wpAnyH _ _ _ _ _ 9 _ _ _
  refine wpAnyH_take (i := 0) (oi := ?oi2) (v := .string Dv.zs) ?hi2 (by kernel_rfl) (by kernel_rfl) (by kernel_rfl) (fun _ _ _ h => h) ?hy2 hS0 ?rest2
  case hi2 => simp only [List.getElem?_toArray, List.getElem?_cons_zero]; rfl
  case hy2 => exact Or.inl ⟨rfl, fun _ hSw => rfl⟩
  simp only [Act.put, List.setIfInBounds_toArray, List.set_cons_zero, List.set_cons_succ]
  refine wpAnyH_take (i := 2) (oi := ?oi3) (v := .int .i64 (np : Int)) ?hi3 (by kernel_rfl) (by kernel_rfl) (by kernel_rfl) (fun _ _ _ h => h) ?hy3 hS0 ?rest3
  case hi3 => simp only [List.getElem?_toArray, List.getElem?_cons_succ, List.getElem?_cons_zero]; rfl
  case hy3 => exact Or.inl ⟨rfl, fun _ hSw => rfl⟩
  simp only [Act.put, List.setIfInBounds_toArray, List.set_cons_zero, List.set_cons_succ]
  refine wpAnyH_take (i := 4) (oi := ?oi4) (v := .int .i64 (nc : Int)) ?hi4 (by kernel_rfl) (by kernel_rfl) (by kernel_rfl) (fun _ _ _ h => h) ?hy4 hS0 ?rest4
  case hi4 => simp only [List.getElem?_toArray, List.getElem?_cons_succ, List.getElem?_cons_zero]; rfl
  case hy4 => exact Or.inl ⟨rfl, fun _ hSw => rfl⟩
  simp only [Act.put, List.setIfInBounds_toArray, List.set_cons_zero, List.set_cons_succ]
  refine wpAnyH_ready (rs := [1, 5]) (by kernel_rfl) (by simp) ?_
  refine AllReadyH.cons (o := ?oia_1) ?hia_1 ?stepa_1 (AllReadyH.cons (o := ?oia_5) ?hia_5 ?stepa_5 AllReadyH.nil)
  case hia_1 => simp only [List.getElem?_toArray, List.getElem?_cons_succ, List.getElem?_cons_zero]; rfl
  case hia_5 => simp only [List.getElem?_toArray, List.getElem?_cons_succ, List.getElem?_cons_zero]; rfl
  · intro K hK
    go_simp
    have hb2 : Below w1.heap.size w1 (w1.alloc (.cells #[.string Dv.zs] 9)).drew := ((Below.refl _ _).alloc (Nat.le_refl _) _).drew
    have hz2 : TRow (w1.alloc (.cells #[.string Dv.zs] 9)).drew w1.heap.size [Dv.zs] := ⟨[], heap_alloc_new w1 (.cells #[.string Dv.zs] 9)⟩
    generalize (w1.alloc (.cells #[.string Dv.zs] 9)).drew = w2 at *
    have hS2 : Below w.heap.size w w2 := hb1.trans (hb2.mono hb1.size)
    refine hK.out _ _ hS2 (fun _ => ?_)
    clear hK K
    try simp only [Act.put, List.setIfInBounds_toArray, List.set_cons_zero, List.set_cons_succ]
    refine wpAnyH_ready (rs := [3, 5]) (by kernel_rfl) (by simp) ?_
    refine AllReadyH.cons (o := ?oib_3) ?hib_3 ?stepb_3 (AllReadyH.cons (o := ?oib_5) ?hib_5 ?stepb_5 AllReadyH.nil)
    case hib_3 => simp only [List.getElem?_toArray, List.getElem?_cons_succ, List.getElem?_cons_zero]; rfl
    case hib_5 => simp only [List.getElem?_toArray, List.getElem?_cons_succ, List.getElem?_cons_zero]; rfl
    · intro K hK
      go_simp
      refine (repeat_any (fun x y w hx hy => HMUL.out x y w hx hy) w2 w1.heap.size 1 np Dv.zs hz2 (by omega) (by omega)).mono ?_
      rintro e w3 ⟨v, rfl, hv, hb3⟩
      have hS3 : Below w.heap.size w w3 := hS2.trans (hb3.mono hS2.size)
      refine hK.out _ _ hS3 (fun _ => ?_)
      clear hK K
      try simp only [Act.put, List.setIfInBounds_toArray, List.set_cons_zero, List.set_cons_succ]
      refine wpAnyH_ready (rs := [5]) (by kernel_rfl) (by simp) ?_
      refine AllReadyH.cons (o := ?oic_5) ?hic_5 ?stepc_5 AllReadyH.nil
      case hic_5 => simp only [List.getElem?_toArray, List.getElem?_cons_succ, List.getElem?_cons_zero]; rfl
      intro K hK
      have hmc' := hmc w3
      go_simp
      have hb4 : Below w3.heap.size w3 (w3.alloc (.chan nc #[] false 0 0 false)) := (Below.refl _ _).alloc (Nat.le_refl _) _
      have hc4 := heap_alloc_new w3 (.chan nc #[] false 0 0 false)
      generalize hcF0 : w3.heap.size = cF at *
      have hvF : TSl (w3.alloc (.chan nc #[] false 0 0 false)) v w.heap.size (List.replicate np Dv.zs) := hv.at (by rw [hcF0]; exact hb4) hS2.size
      generalize w3.alloc (.chan nc #[] false 0 0 false) = wf at *
      have hSF : Below w.heap.size w wf := hS3.trans (hb4.mono (by rw [← hcF0]; exact hS3.size))
      have hcF : wf.heap[cF]? = some (.chan nc #[] false 0 0 false) := hc4
      have hcB : w.heap.size ≤ cF := by rw [← hcF0]; exact hS3.size
      refine hK.out _ _ hSF (fun _ => ?_)
      clear hK K
      try simp only [Act.put, List.setIfInBounds_toArray, List.set_cons_zero, List.set_cons_succ]
      refine wpAnyH_ready (rs := [6]) (by kernel_rfl) (by simp) ?_
      refine AllReadyH.cons (o := ?oiu8_6) ?hiu8_6 ?stepu8_6 AllReadyH.nil
      case hiu8_6 => simp only [List.getElem?_toArray, List.getElem?_cons_succ, List.getElem?_cons_zero]; rfl
      intro K hK
      obtain ⟨gF, capF, rfl, hgF, hrF⟩ := hvF
      go_simp
      refine hK.out _ _ hSF (fun _ => ?_)
      clear hK K
      try simp only [Act.put, List.setIfInBounds_toArray, List.set_cons_zero, List.set_cons_succ]
      refine wpAnyH_ready (rs := [7]) (by kernel_rfl) (by simp) ?_
      refine AllReadyH.cons (o := ?oiu9_7) ?hiu9_7 ?stepu9_7 AllReadyH.nil
      case hiu9_7 => simp only [List.getElem?_toArray, List.getElem?_cons_succ, List.getElem?_cons_zero]; rfl
      intro K hK
      go_simp
      have hdk : dkC gF cF (.slice none 0 0) (Dv.new np nc capF) = #[.slice (some ⟨gF, 0, none⟩) np capF, .chan (some cF), .bool false, .int .i64 (-1), .int .u64 0, .int .i64 0, .slice none 0 0, .slice none 0 0] := by simp [dkC, Dv.new]
      have hbX : Below wf.heap.size wf (wf.alloc (.cells #[.slice (some ⟨gF, 0, none⟩) np capF, .chan (some cF), .bool false, .int .i64 (-1), .int .u64 0, .int .i64 0, .slice none 0 0, .slice none 0 0] 65)) := (Below.refl _ _).alloc (Nat.le_refl _) _
      have hrX := heap_alloc_new wf (.cells #[.slice (some ⟨gF, 0, none⟩) np capF, .chan (some cF), .bool false, .int .i64 (-1), .int .u64 0, .int .i64 0, .slice none 0 0, .slice none 0 0] 65)
      generalize hwx : wf.alloc (.cells #[.slice (some ⟨gF, 0, none⟩) np capF, .chan (some cF), .bool false, .int .i64 (-1), .int .u64 0, .int .i64 0, .slice none 0 0, .slice none 0 0] 65) = wx at *
      have hrY : wx.heap[wf.heap.size]? = some (.cells (dkC gF cF (.slice none 0 0) (Dv.new np nc capF)) 65 (0, 0)) := by rw [hrX, hdk]
      have hSX : Below w.heap.size w wx := hSF.trans (hbX.mono hSF.size)
      have hDX : IsD wx wf.heap.size gF cF (.slice none 0 0) (Dv.new np nc capF) := by
        refine ⟨hrY, hrF.at (hbX.block gF hrF.lt), ⟨0, 0, (hbX.block cF (Array.getElem?_eq_some_iff.1 hcF).1).trans hcF⟩, World.ownsRow_nil _ _ _ _, Nat.zero_le _, hc1.2, by simp [Dv.new]; omega, fun o ho => by cases ho⟩
      have HDX := hid hDX
      have HSX := hid hSX
      have hszF := hSF.size
      refine hK.out _ _ hSX (fun _ => ?_)
      clear hK K hrX hrY hdk hbX hwx
      try simp only [Act.put, List.setIfInBounds_toArray, List.set_cons_zero, List.set_cons_succ]
      refine wpAnyH_take (i := 8) (oi := ?oi10) (v := .pointer (some ⟨wf.heap.size, 0, none⟩)) ?hi10 (by kernel_rfl) (by kernel_rfl) (by kernel_rfl) (fun _ _ _ h => h) ?hy10 hSX ?rest10
      case hi10 => simp only [List.getElem?_toArray, List.getElem?_cons_succ, List.getElem?_cons_zero]; rfl
      case hy10 => exact Or.inl ⟨rfl, fun _ hSw => rfl⟩
      simp only [Act.put, List.setIfInBounds_toArray, List.set_cons_zero, List.set_cons_succ]
      refine wpAnyH_done (by kernel_rfl) ?_ _
      refine NoPanic.normal ?_
      clear hDX hSX
      go_wp2
      exact bodyPost_ret (results_tmp rfl _ _ _) rfl ⟨wf.heap.size, gF, cF, capF, rfl, HDX.out, HSX.out, hszF, hgF, hcB⟩
    · intro K hK
      have hmc' := hmc w2
      go_simp
      have hb3 : Below w2.heap.size w2 (w2.alloc (.chan nc #[] false 0 0 false)) := (Below.refl _ _).alloc (Nat.le_refl _) _
      have hc3 := heap_alloc_new w2 (.chan nc #[] false 0 0 false)
      generalize hcF0 : w2.heap.size = cF at *
      generalize w2.alloc (.chan nc #[] false 0 0 false) = w3 at *
      have hz3 : TRow w3 w1.heap.size [Dv.zs] := hz2.at (hb3.block _ (by rw [← hcF0]; exact hz2.lt))
      have hS3 : Below w.heap.size w w3 := hS2.trans (hb3.mono (by rw [← hcF0]; exact hS2.size))
      refine hK.out _ _ hS3 (fun _ => ?_)
      clear hK K
      try simp only [Act.put, List.setIfInBounds_toArray, List.set_cons_zero, List.set_cons_succ]
      refine wpAnyH_ready (rs := [3]) (by kernel_rfl) (by simp) ?_
      refine AllReadyH.cons (o := ?oid_3) ?hid_3 ?stepd_3 AllReadyH.nil
      case hid_3 => simp only [List.getElem?_toArray, List.getElem?_cons_succ, List.getElem?_cons_zero]; rfl
      intro K hK
      go_simp
      refine (repeat_any (fun x y w hx hy => HMUL.out x y w hx hy) w3 w1.heap.size 1 np Dv.zs hz3 (by omega) (by omega)).mono ?_
      rintro e wf ⟨v, rfl, hv, hb4⟩
      have hSF : Below w.heap.size w wf := hS3.trans (hb4.mono hS3.size)
      have hvF : TSl wf v w.heap.size (List.replicate np Dv.zs) := hv.at (Below.refl _ _) hS3.size
      have hcF : wf.heap[cF]? = some (.chan nc #[] false 0 0 false) := (hb4.block _ (Array.getElem?_eq_some_iff.1 hc3).1).trans hc3
      have hcB : w.heap.size ≤ cF := by rw [← hcF0]; exact hS2.size
      refine hK.out _ _ hSF (fun _ => ?_)
      clear hK K
      try simp only [Act.put, List.setIfInBounds_toArray, List.set_cons_zero, List.set_cons_succ]
      refine wpAnyH_ready (rs := [6]) (by kernel_rfl) (by simp) ?_
      refine AllReadyH.cons (o := ?oiu13_6) ?hiu13_6 ?stepu13_6 AllReadyH.nil
      case hiu13_6 => simp only [List.getElem?_toArray, List.getElem?_cons_succ, List.getElem?_cons_zero]; rfl
      intro K hK
      obtain ⟨gF, capF, rfl, hgF, hrF⟩ := hvF
      go_simp
      refine hK.out _ _ hSF (fun _ => ?_)
      clear hK K
      try simp only [Act.put, List.setIfInBounds_toArray, List.set_cons_zero, List.set_cons_succ]
      refine wpAnyH_ready (rs := [7]) (by kernel_rfl) (by simp) ?_
      refine AllReadyH.cons (o := ?oiu14_7) ?hiu14_7 ?stepu14_7 AllReadyH.nil
      case hiu14_7 => simp only [List.getElem?_toArray, List.getElem?_cons_succ, List.getElem?_cons_zero]; rfl
      intro K hK
      go_simp
      have hdk : dkC gF cF (.slice none 0 0) (Dv.new np nc capF) = #[.slice (some ⟨gF, 0, none⟩) np capF, .chan (some cF), .bool false, .int .i64 (-1), .int .u64 0, .int .i64 0, .slice none 0 0, .slice none 0 0] := by simp [dkC, Dv.new]
      have hbX : Below wf.heap.size wf (wf.alloc (.cells #[.slice (some ⟨gF, 0, none⟩) np capF, .chan (some cF), .bool false, .int .i64 (-1), .int .u64 0, .int .i64 0, .slice none 0 0, .slice none 0 0] 65)) := (Below.refl _ _).alloc (Nat.le_refl _) _
      have hrX := heap_alloc_new wf (.cells #[.slice (some ⟨gF, 0, none⟩) np capF, .chan (some cF), .bool false, .int .i64 (-1), .int .u64 0, .int .i64 0, .slice none 0 0, .slice none 0 0] 65)
      generalize hwx : wf.alloc (.cells #[.slice (some ⟨gF, 0, none⟩) np capF, .chan (some cF), .bool false, .int .i64 (-1), .int .u64 0, .int .i64 0, .slice none 0 0, .slice none 0 0] 65) = wx at *
      have hrY : wx.heap[wf.heap.size]? = some (.cells (dkC gF cF (.slice none 0 0) (Dv.new np nc capF)) 65 (0, 0)) := by rw [hrX, hdk]
      have hSX : Below w.heap.size w wx := hSF.trans (hbX.mono hSF.size)
      have hDX : IsD wx wf.heap.size gF cF (.slice none 0 0) (Dv.new np nc capF) := by
        refine ⟨hrY, hrF.at (hbX.block gF hrF.lt), ⟨0, 0, (hbX.block cF (Array.getElem?_eq_some_iff.1 hcF).1).trans hcF⟩, World.ownsRow_nil _ _ _ _, Nat.zero_le _, hc1.2, by simp [Dv.new]; omega, fun o ho => by cases ho⟩
      have HDX := hid hDX
      have HSX := hid hSX
      have hszF := hSF.size
      refine hK.out _ _ hSX (fun _ => ?_)
      clear hK K hrX hrY hdk hbX hwx
      try simp only [Act.put, List.setIfInBounds_toArray, List.set_cons_zero, List.set_cons_succ]
      refine wpAnyH_take (i := 8) (oi := ?oi15) (v := .pointer (some ⟨wf.heap.size, 0, none⟩)) ?hi15 (by kernel_rfl) (by kernel_rfl) (by kernel_rfl) (fun _ _ _ h => h) ?hy15 hSX ?rest15
      case hi15 => simp only [List.getElem?_toArray, List.getElem?_cons_succ, List.getElem?_cons_zero]; rfl
      case hy15 => exact Or.inl ⟨rfl, fun _ hSw => rfl⟩
      simp only [Act.put, List.setIfInBounds_toArray, List.set_cons_zero, List.set_cons_succ]
      refine wpAnyH_done (by kernel_rfl) ?_ _
      refine NoPanic.normal ?_
      clear hDX hSX
      go_wp2
      exact bodyPost_ret (results_tmp rfl _ _ _) rfl ⟨wf.heap.size, gF, cF, capF, rfl, HDX.out, HSX.out, hszF, hgF, hcB⟩
  · intro K hK
    have hmc' := hmc w1.drew
    go_simp
    have hb2 : Below w1.heap.size w1 (w1.alloc (.chan nc #[] false 0 0 false)).drew := ((Below.refl _ _).alloc (Nat.le_refl _) _).drew
    have hc2 : (w1.alloc (.chan nc #[] false 0 0 false)).drew.heap[w1.heap.size]? = some (.chan nc #[] false 0 0 false) := heap_alloc_new w1 (.chan nc #[] false 0 0 false)
    generalize (w1.alloc (.chan nc #[] false 0 0 false)).drew = w2 at *
    generalize hcF0 : w1.heap.size = cF at *
    have hcB : w.heap.size ≤ cF := by rw [← hcF0]; exact hb1.size
    have hS2 : Below w.heap.size w w2 := hb1.trans (hb2.mono hcB)
    refine hK.out _ _ hS2 (fun _ => ?_)
    clear hK K
    try simp only [Act.put, List.setIfInBounds_toArray, List.set_cons_zero, List.set_cons_succ]
    refine wpAnyH_ready (rs := [1]) (by kernel_rfl) (by simp) ?_
    refine AllReadyH.cons (o := ?oie_1) ?hie_1 ?stepe_1 AllReadyH.nil
    case hie_1 => simp only [List.getElem?_toArray, List.getElem?_cons_succ, List.getElem?_cons_zero]; rfl
    intro K hK
    go_simp
    have hb3 : Below w2.heap.size w2 (w2.alloc (.cells #[.string Dv.zs] 9)).drew := ((Below.refl _ _).alloc (Nat.le_refl _) _).drew
    have hb3' : Below w2.heap.size w2 (w2.alloc (.cells #[.string Dv.zs] 9)) := ((Below.refl _ _).alloc (Nat.le_refl _) _)
    have hz3 : TRow (w2.alloc (.cells #[.string Dv.zs] 9)) w2.heap.size [Dv.zs] := ⟨[], heap_alloc_new w2 (.cells #[.string Dv.zs] 9)⟩
    clear hb3
    generalize w2.alloc (.cells #[.string Dv.zs] 9) = w3 at *
    have hS3 : Below w.heap.size w w3 := hS2.trans (hb3'.mono hS2.size)
    have hc3 : w3.heap[cF]? = some (.chan nc #[] false 0 0 false) := (hb3'.block _ (Array.getElem?_eq_some_iff.1 hc2).1).trans hc2
    refine hK.out _ _ hS3 (fun _ => ?_)
    clear hK K
    try simp only [Act.put, List.setIfInBounds_toArray, List.set_cons_zero, List.set_cons_succ]
    refine wpAnyH_ready (rs := [3]) (by kernel_rfl) (by simp) ?_
    refine AllReadyH.cons (o := ?oif_3) ?hif_3 ?stepf_3 AllReadyH.nil
    case hif_3 => simp only [List.getElem?_toArray, List.getElem?_cons_succ, List.getElem?_cons_zero]; rfl
    intro K hK
    go_simp
    refine (repeat_any (fun x y w hx hy => HMUL.out x y w hx hy) w3 w2.heap.size 1 np Dv.zs hz3 (by omega) (by omega)).mono ?_
    rintro e wf ⟨v, rfl, hv, hb4⟩
    have hSF : Below w.heap.size w wf := hS3.trans (hb4.mono hS3.size)
    have hvF : TSl wf v w.heap.size (List.replicate np Dv.zs) := hv.at (Below.refl _ _) hS3.size
    have hcF : wf.heap[cF]? = some (.chan nc #[] false 0 0 false) := (hb4.block _ (Array.getElem?_eq_some_iff.1 hc3).1).trans hc3
    refine hK.out _ _ hSF (fun _ => ?_)
    clear hK K
    try simp only [Act.put, List.setIfInBounds_toArray, List.set_cons_zero, List.set_cons_succ]
    refine wpAnyH_ready (rs := [6]) (by kernel_rfl) (by simp) ?_
    refine AllReadyH.cons (o := ?oiu19_6) ?hiu19_6 ?stepu19_6 AllReadyH.nil
    case hiu19_6 => simp only [List.getElem?_toArray, List.getElem?_cons_succ, List.getElem?_cons_zero]; rfl
    intro K hK
    obtain ⟨gF, capF, rfl, hgF, hrF⟩ := hvF
    go_simp
    refine hK.out _ _ hSF (fun _ => ?_)
    clear hK K
    try simp only [Act.put, List.setIfInBounds_toArray, List.set_cons_zero, List.set_cons_succ]
    refine wpAnyH_ready (rs := [7]) (by kernel_rfl) (by simp) ?_
    refine AllReadyH.cons (o := ?oiu20_7) ?hiu20_7 ?stepu20_7 AllReadyH.nil
    case hiu20_7 => simp only [List.getElem?_toArray, List.getElem?_cons_succ, List.getElem?_cons_zero]; rfl
    intro K hK
    go_simp
    have hdk : dkC gF cF (.slice none 0 0) (Dv.new np nc capF) = #[.slice (some ⟨gF, 0, none⟩) np capF, .chan (some cF), .bool false, .int .i64 (-1), .int .u64 0, .int .i64 0, .slice none 0 0, .slice none 0 0] := by simp [dkC, Dv.new]
    have hbX : Below wf.heap.size wf (wf.alloc (.cells #[.slice (some ⟨gF, 0, none⟩) np capF, .chan (some cF), .bool false, .int .i64 (-1), .int .u64 0, .int .i64 0, .slice none 0 0, .slice none 0 0] 65)) := (Below.refl _ _).alloc (Nat.le_refl _) _
    have hrX := heap_alloc_new wf (.cells #[.slice (some ⟨gF, 0, none⟩) np capF, .chan (some cF), .bool false, .int .i64 (-1), .int .u64 0, .int .i64 0, .slice none 0 0, .slice none 0 0] 65)
    generalize hwx : wf.alloc (.cells #[.slice (some ⟨gF, 0, none⟩) np capF, .chan (some cF), .bool false, .int .i64 (-1), .int .u64 0, .int .i64 0, .slice none 0 0, .slice none 0 0] 65) = wx at *
    have hrY : wx.heap[wf.heap.size]? = some (.cells (dkC gF cF (.slice none 0 0) (Dv.new np nc capF)) 65 (0, 0)) := by rw [hrX, hdk]
    have hSX : Below w.heap.size w wx := hSF.trans (hbX.mono hSF.size)
    have hDX : IsD wx wf.heap.size gF cF (.slice none 0 0) (Dv.new np nc capF) := by
      refine ⟨hrY, hrF.at (hbX.block gF hrF.lt), ⟨0, 0, (hbX.block cF (Array.getElem?_eq_some_iff.1 hcF).1).trans hcF⟩, World.ownsRow_nil _ _ _ _, Nat.zero_le _, hc1.2, by simp [Dv.new]; omega, fun o ho => by cases ho⟩
    have HDX := hid hDX
    have HSX := hid hSX
    have hszF := hSF.size
    refine hK.out _ _ hSX (fun _ => ?_)
    clear hK K hrX hrY hdk hbX hwx
    try simp only [Act.put, List.setIfInBounds_toArray, List.set_cons_zero, List.set_cons_succ]
    refine wpAnyH_take (i := 8) (oi := ?oi21) (v := .pointer (some ⟨wf.heap.size, 0, none⟩)) ?hi21 (by kernel_rfl) (by kernel_rfl) (by kernel_rfl) (fun _ _ _ h => h) ?hy21 hSX ?rest21
    case hi21 => simp only [List.getElem?_toArray, List.getElem?_cons_succ, List.getElem?_cons_zero]; rfl
    case hy21 => exact Or.inl ⟨rfl, fun _ hSw => rfl⟩
    simp only [Act.put, List.setIfInBounds_toArray, List.set_cons_zero, List.set_cons_succ]
    refine wpAnyH_done (by kernel_rfl) ?_ _
    refine NoPanic.normal ?_
    clear hDX hSX
    go_wp2
    exact bodyPost_ret (results_tmp rfl _ _ _) rfl ⟨wf.heap.size, gF, cF, capF, rfl, HDX.out, HSX.out, hszF, hgF, hcB⟩
end Go.Proofs.Ytkhkpcigjpibiaa
