/-
  Layer 5: what aead.tagOf returns.
-/
import Derived.Test.YtgjkkcggcljcdaaDoorAead1
namespace Go.Proofs.YtgjkkcggcljcdaaDoor
open Go.RowKit
open Go.Lib (hid)

namespace Ax
/-- The key that is used once. -/
def once (key nonce : List Nat) : List Nat := (Cx.block key 0 nonce).take 32
/-- What the tag is of. -/
def said (ad h : List Nat) : List Nat := [ad, fill ad, h, fill h, sizes [ad, h]].flatten
def tag (key nonce ad h : List Nat) : List Nat := Px.of (once key nonce) (said ad h)
theorem tag_length (key nonce ad h : List Nat) : (tag key nonce ad h).length = 16 := Px.of_length _ _
theorem tag_lt (key nonce ad h : List Nat) : ∀ x ∈ tag key nonce ad h, x < 256 := Px.of_lt _ _
end Ax
theorem slice_64 (w : World) (b : Nat) : (Instr.sliceAt 100 (.pointer (some ⟨b, 0, none⟩)) none none none).run Tryd.prog w = .ok (.slice (some ⟨b, 0, none⟩) 64 64) w :=
  slice_all w 100 5 64 b Tryd.underlying100 (by omega) info5'
theorem slice_32 (w : World) (b : Nat) : (Instr.sliceAt 36 (.pointer (some ⟨b, 0, none⟩)) none none none).run Tryd.prog w = .ok (.slice (some ⟨b, 0, none⟩) 32 32) w :=
  slice_all w 36 5 32 b Tryd.underlying36 (by omega) info5'
/-- copy of more bytes than there is room for. -/
theorem wpList_copy_full {w : World} {ops : Array Oper} {rest : List Oper} {o : Oper} {a : Act} {Q : Exit → Act → World → Prop} (hgd : o.guard = none) (d s : Operand)
    (ho : o.op = .call { callee := .builtin .copy, args := #[d, s], argTypes := #[46, 46] })
    (g dLen dCap : Nat) (t : TypeId) (old : List Nat) (sb so sLen sCap : Nat) (y : List Nat) (hd : a.eval d = .slice (some ⟨g, 0, none⟩) dLen dCap) (hs : a.eval s = .slice (some ⟨sb, so, none⟩) sLen sCap)
    (hrow : Row w g .u8 t old) (hsrc : w.rangeAt sb so (ints .u8 y).toList) (hl : y.length = dLen) (hsl : dLen ≤ sLen) (ho2 : dLen = old.length)
    (h : wpList Tryd.prog ops Q rest (a.put o.dst (goInt (y.length : Int))) (w.setRow g (ints .u8 y))) : wpList Tryd.prog ops Q (o :: rest) a w := by
  refine wpList_plain hgd fun K hK => ?_
  have hyl : (ints .u8 y).toList.length = y.length := ints_llen _ _
  have hrun := run_copy_row (P := Tryd.prog) w 46 46 o.type 5 g 0 dLen dCap ⟨sb, so, none⟩ sLen sCap (ints .u8 old) t (ints .u8 y).toList Tryd.underlying46 info5' hrow
    (by rw [hyl, hl]; exact (Nat.min_eq_right hsl).symm) (fun j v hv => by rw [Addr.add_mid]; exact hsrc j v hv) (by rw [hyl, ints_size]; omega) (fun v hv => (Array.all_eq_true_iff_forall_mem.1 (ints_one .u8 y)) v (by simpa using hv))
  have e : ((ints .u8 old).toList.take 0 ++ (ints .u8 y).toList ++ (ints .u8 old).toList.drop (0 + (ints .u8 y).toList.length)).toArray = ints .u8 y := by
    apply Array.toList_inj.1
    rw [hyl, List.drop_of_length_le (by rw [ints_llen]; omega)]
    simp
  rw [e, hyl] at hrun
  unfold Oper.wp
  simp [execOp, ho, resolve, invoke, builtin, hd, hs, hrun, Result.andThen]
  exact hK _ _ h
theorem strs_five (w : World) (x y z u v : List Nat) (t : TypeId) : Strs (w.alloc (.cells #[.string (str x), .string (str y), .string (str z), .string (str u), .string (str v)] t)) (some ⟨w.heap.size, 0, none⟩) [x, y, z, u, v] := by
  intro i hi
  obtain rfl | rfl | rfl | rfl | rfl : i = 0 ∨ i = 1 ∨ i = 2 ∨ i = 3 ∨ i = 4 := by simp at hi; omega
  all_goals exact ⟨_, _, rfl, cell_of_row _ _ _ _ _ _ (heap_alloc_new _ _)⟩

/-- What stays while the tag is made. -/
def TaS (w : World) (o : List Nat) (u : World) : Prop :=
  Row u (w.heap.size + 1 + 1 + 1) .u8 36 o ∧ (∃ l : List Nat, l.length = 16 ∧ Row u (w.heap.size + 1 + 1) .u8 89 l) ∧ TabK u ∧ Below w.heap.size w u
theorem TaS.size {w : World} {o : List Nat} {u : World} (h : TaS w o u) : w.heap.size ≤ u.heap.size := h.2.2.2.size
theorem TaS.keep {w : World} {o : List Nat} {u u' : World} (h : TaS w o u) (hb : Below u.heap.size u u') : TaS w o u' := by
  obtain ⟨h1, ⟨l, hl, h2⟩, h3, h4⟩ := h
  exact ⟨h1.below hb h1.lt, ⟨l, hl, h2.below hb h2.lt⟩, h3.below hb (Nat.le_refl _), h4.trans (hb.mono h4.size)⟩
theorem TaS.store {w : World} {o : List Nat} {u : World} (h : TaS w o u) (l : List Nat) (hl : l.length = 16) (hk : 1 < w.heap.size) : TaS w o (u.setRow (w.heap.size + 1 + 1) (ints .u8 l)) := by
  obtain ⟨h1, ⟨l', hl', h2⟩, h3, h4⟩ := h
  refine ⟨?_, ⟨l, hl, setRow_heap _ _ _ _ _ _ h2⟩, ?_, below_setRow h4 (by omega) _⟩
  · unfold Row; rw [setRow_other _ _ _ _ (by omega)]; exact h1
  · intro j v hj
    rw [← h3 j v hj]
    simp only [World.cell?, setRow_other _ _ _ _ (show (1 : Nat) ≠ w.heap.size + 1 + 1 by omega)]

set_option maxHeartbeats 2000000 in
set_option maxRecDepth 100000 in
theorem atag_any (key nonce ad h : List Nat) (hk : ∀ x ∈ key, x < 256) (hkl : key.length = 32) (hn : ∀ x ∈ nonce, x < 256) (hnl : nonce.length = 12) (ha : ∀ x ∈ ad, x < 256) (hal : ad.length ≤ 100000) (hh : ∀ x ∈ h, x < 256) (hhl : h.length ≤ 100000) (w : World) (hT : TabQ w) (hK : TabK w) :
    Calls Tryd.prog 38 #[.agg (ints .u8 key), .agg (ints .u8 nonce), .string (str ad), .string (str h)] w fun e w' => e = .returned (.agg (ints .u8 (Ax.tag key nonce ad h))) ∧ Below w.heap.size w w' := by
  have HBK := hid (fun wx hx => block_any key nonce 0 hk hkl hn hnl (by decide) wx hx)
  have hbl := Cx.block_length key 0 nonce
  have HBB := hid (Cx.block_lt key 0 nonce)
  have HF1 := hid (fun wx => filling_any ad (by omega) wx)
  have HF2 := hid (fun wx => filling_any h (by omega) wx)
  have HT := hid hT
  have HK := hid hK
  have hklt : 1 < w.heap.size := block_lt_of_cell (hK 0 _ (by rw [Array.getElem?_toList, ints_get _ _ _ (by decide)]))
  obtain ⟨O, hO⟩ : ∃ O, O = Ax.once key nonce := ⟨_, rfl⟩
  have hOB : O = (Cx.block key 0 nonce).take 32 := hO
  have hOl : O.length = 32 := by rw [hOB, List.length_take, hbl]; rfl
  have hOb : ∀ x ∈ O, x < 256 := by rw [hOB]; exact fun x hx => HBB.out x (List.mem_of_mem_take hx)
  have HSZ := hid (fun ao wx hx => asizes_any ao [ad, h] 2 wx hx (by simp) (by
    intro k
    match k with
    | 0 => simp; omega
    | 1 => simp; omega
    | _ + 2 => simp))
  rw [show [ad, h].length = 2 from rfl] at HSZ
  have hsb : ∀ x ∈ Ax.said ad h, x < 256 := by
    intro x hx
    simp only [Ax.said, List.flatten_cons, List.flatten_nil, List.append_nil, List.mem_append] at hx
    rcases hx with h1 | h1 | h1 | h1 | h1
    · exact ha x h1
    · rw [List.eq_of_mem_replicate h1]; omega
    · exact hh x h1
    · rw [List.eq_of_mem_replicate h1]; omega
    · exact Ax.sizes_lt _ x h1
  have HOF := hid (fun wb wx hx hy => pof_any O hOb hOl (some ⟨wb, 0, none⟩) [ad, Ax.fill ad, h, Ax.fill h, Ax.sizes [ad, h]] 5 (by simp) hsb wx hx hy)
  rw [show [ad, Ax.fill ad, h, Ax.fill h, Ax.sizes [ad, h]].length = 5 from rfl, show Px.of O [ad, Ax.fill ad, h, Ax.fill h, Ax.sizes [ad, h]].flatten = Ax.tag key nonce ad h from by rw [hO]; rfl] at HOF
  have htl := Ax.tag_length key nonce ad h
  have hts : (ints .u8 (Ax.tag key nonce ad h)).size = 16 := by rw [ints_size, htl]
  generalize Ax.tag key nonce ad h = T at *
  have HSS := hid (fun wx => strs_two wx ad h 9)
  have HS5 := hid (fun wx => strs_five wx ad (Ax.fill ad) h (Ax.fill h) (Ax.sizes [ad, h]) 9)
  generalize str ad = SA at *
  generalize str h = SH at *
  generalize str (Ax.fill ad) = FA at *
  generalize str (Ax.fill h) = FH at *
  generalize str (Ax.sizes [ad, h]) = SS at *
  have hks : (ints .u8 key).size = 32 := by rw [ints_size, hkl]
  have hns : (ints .u8 nonce).size = 12 := by rw [ints_size, hnl]
  have hbs : (ints .u8 (Cx.block key 0 nonce)).size = 64 := by rw [ints_size, hbl]
  generalize Cx.block key 0 nonce = B at *
  clear hT hK hO hk hn ha hh hsb hkl hnl hal hhl
  have HOB := hid hOB
  clear hOB
  rw [show ((0 : Nat) : Int) = 0 from rfl] at HBK
  go_enter Tryd.func38, Tryd.ntmps38
  go_upto_region 2 with (fail)
  generalize hw00 : (((w.alloc _).alloc _).alloc _) = w00
  generalize hw0 : w00.alloc _ = w0
  have s00 : w00.heap.size = w.heap.size + 1 + 1 + 1 := by rw [← hw00]; simp
  have rk : Row w0 w.heap.size .u8 60 key := by rw [← hw0]; refine Row.alloc ?_ _; rw [← hw00]; unfold Row; rw [heap_alloc3_0]
  have rn : Row w0 (w.heap.size + 1) .u8 64 nonce := by rw [← hw0]; refine Row.alloc ?_ _; rw [← hw00]; unfold Row; rw [heap_alloc3_1]
  have rt : Row w0 (w.heap.size + 1 + 1) .u8 89 (List.replicate 16 0) := by rw [← hw0]; refine Row.alloc ?_ _; rw [← hw00]; unfold Row; rw [heap_alloc3_2]; rfl
  have ro : Row w0 (w.heap.size + 1 + 1 + 1) .u8 36 (List.replicate 32 0) := by rw [← hw0, ← s00]; exact heap_alloc_new _ _
  have hb0 : Below w.heap.size w w0 := by
    have h : Below w.heap.size w w00 := by rw [← hw00]; exact (((Below.refl _ _).alloc (Nat.le_refl _) _).alloc (by simp) _).alloc (by simp; omega) _
    rw [← hw0]; exact h.alloc h.size _
  clear hw0 hw00 s00
  have HRT := hid rt
  have HRO := hid ro
  have HB0 := hid hb0
  clear rt ro hb0
  go_upto_region 3 with (first
    | (refine wpList_load_row rfl _ _ rfl w.heap.size rfl _ _ _ _ rk Tryd.underlying60 rfl (by rw [hks]; exact info23) ?_)
    | (refine wpList_load_row rfl _ _ rfl (w.heap.size + 1) rfl _ _ _ _ rn Tryd.underlying64 rfl (by rw [hns]; exact info26) ?_)
    | (go_at_call 55; refine (HBK.out _ (HT.out.below HB0.out (Nat.le_refl _))).mono ?_; rintro e w1 ⟨rfl, k1⟩; have HK1 := hid k1; clear k1)
    | (refine wpList_store_row rfl _ _ _ rfl w1.heap.size _ rfl rfl _ _ (heap_alloc_new _ _) (by rw [hbs]; exact info31) (by rw [hbs]; rfl) (ints_one _ _) ?_))
  generalize hw2 : (w1.alloc _).setRow _ _ = w2
  have HB1 := hid (HB0.out.trans (HK1.out.mono HB0.out.size))
  have HO1 := hid (HRO.out.below HK1.out HRO.out.lt)
  have HT1 := hid (HRT.out.below HK1.out HRT.out.lt)
  have hq : w.heap.size + 1 + 1 + 1 < w1.heap.size := HO1.out.lt
  have HRB := hid (show Row w2 w1.heap.size .u8 100 B from by rw [← hw2]; exact setRow_heap _ _ _ _ _ _ (heap_alloc_new _ _))
  have HO2 := hid (show Row w2 (w.heap.size + 1 + 1 + 1) .u8 36 (List.replicate 32 0) from by
    rw [← hw2]; unfold Row; rw [setRow_other _ _ _ _ (by omega)]; exact HO1.out.alloc _)
  have HT2 := hid (show Row w2 (w.heap.size + 1 + 1) .u8 89 (List.replicate 16 0) from by
    rw [← hw2]; unfold Row; rw [setRow_other _ _ _ _ (by omega)]; exact HT1.out.alloc _)
  have HB2 := hid (show Below w.heap.size w w2 from by rw [← hw2]; exact below_setRow (HB1.out.alloc HB1.out.size _) (by omega) _)
  clear hw2 rk rn HRT HRO HB0 HK1 HB1 HO1 HT1 HBK
  generalize w1.heap.size = q at *
  have hsrc : w2.rangeAt q 0 (ints .u8 O).toList := by
    have e : (ints .u8 B).toList = [] ++ ((ints .u8 O).toList ++ (ints .u8 (B.drop 32)).toList) := by
      rw [HOB.out, List.nil_append]
      simp only [ints]
      rw [← List.map_append, List.take_append_drop]
    exact range_mid HRB.out e rfl
  have HSRC := hid hsrc
  clear hsrc
  have s1 := fun d => slice_32 (w2.drewN d) (w.heap.size + 1 + 1 + 1)
  have s2 := fun d => slice_64 (w2.drewN d) q
  simp only [Act.put]
  refine wp_region_noPanic ?_
  refine wp_region_hd1 2 1 rfl (by kernel_rfl) (by kernel_rfl) (fun _ _ _ _ _ h => h) ?_
  simp only [List.take_succ_cons, List.take_zero, List.drop_succ_cons, List.drop_zero]
  repeat (go_big_quiet_step (fail))
  refine wpQuiet_nil ?_
  intro d
  go_wp2_with (refine wpList_copy_full rfl _ _ rfl (w.heap.size + 1 + 1 + 1) 32 32 _ (List.replicate 32 0) q 0 64 64 O rfl rfl HO2.out HSRC.out hOl (by omega) (by simp) ?_)
  refine NoPanic.normal ?_
  have HS3 := hid (show TaS w O ((w2.drewN d).setRow (w.heap.size + 1 + 1 + 1) (ints .u8 O)) from by
    have hb3 := below_setRow (show Below w.heap.size w (w2.drewN d) from HB2.out.trans ⟨rfl, rfl, rfl, Nat.le_refl _, fun _ _ => rfl⟩) (show w.heap.size ≤ w.heap.size + 1 + 1 + 1 by omega) (ints .u8 O)
    refine ⟨setRow_heap (w2.drewN d) _ _ _ _ _ HO2.out, ⟨List.replicate 16 0, by simp, ?_⟩, HK.out.below hb3 (Nat.le_refl _), hb3⟩
    unfold Row; rw [setRow_other _ _ _ _ (by omega)]; exact HT2.out)
  clear HRB HO2 HT2 HB2 HSRC s1 s2
  generalize (w2.drewN d).setRow _ _ = w3 at *
  go_upto_region 4 with (fail)
  have i22 : (Tryd.prog.info? 36).map (·.size) = some (ints .u8 O).toList.length := by rw [ints_llen, hOl]; exact info22
  refine wp_region_noPanic ?_
  refine wp_region_held_drew (S := TaS w O) (by kernel_rfl) (HS3.out.keep ((Below.refl _ _).drew)) (fun hS1 => ?_)
  change wpAnyH _ _ _ _ _ 14 _ _ _
  refine wpAnyH_take (i := 0) (oi := ?oi2) (v := .agg (ints .u8 O).toList.toArray) ?hi2 (by kernel_rfl) (by kernel_rfl) (by kernel_rfl) (fun _ _ _ h => h) ?hy2 hS1 ?rest2
  case hi2 => simp only [List.getElem?_toArray, List.getElem?_cons_zero]; rfl
  case hy2 => 
    refine yieldsIf_load_mid ?w2 _ ?x2 ?o2 (w.heap.size + 1 + 1 + 1) 0 ?e2 (ints .u8 O).toList _ ?s2 Tryd.underlying36 rfl i22
    case o2 => rfl
    case w2 => rfl
    case e2 => rfl
    case s2 => intro _ hSw; exact row_range0 hSw.1
  simp only [Act.put, List.setIfInBounds_toArray, List.set_cons_zero, List.set_cons_succ, Array.toArray_toList]
  refine wpAnyH_take (i := 1) (oi := ?oi3) (v := .string SA) ?hi3 (by kernel_rfl) (by kernel_rfl) (by kernel_rfl) (fun _ _ _ h => h) ?hy3 hS1 ?rest3
  case hi3 => simp only [List.getElem?_toArray, List.getElem?_cons_succ, List.getElem?_cons_zero]; rfl
  case hy3 => exact Or.inl ⟨rfl, fun _ hSw => rfl⟩
  simp only [Act.put, List.setIfInBounds_toArray, List.set_cons_zero, List.set_cons_succ]
  refine wpAnyH_take (i := 2) (oi := ?oi4) (v := .string SA) ?hi4 (by kernel_rfl) (by kernel_rfl) (by kernel_rfl) (fun _ _ _ h => h) ?hy4 hS1 ?rest4
  case hi4 => simp only [List.getElem?_toArray, List.getElem?_cons_succ, List.getElem?_cons_zero]; rfl
  case hy4 => exact Or.inl ⟨rfl, fun _ hSw => rfl⟩
  simp only [Act.put, List.setIfInBounds_toArray, List.set_cons_zero, List.set_cons_succ]
  refine wpAnyH_take (i := 4) (oi := ?oi5) (v := .string SH) ?hi5 (by kernel_rfl) (by kernel_rfl) (by kernel_rfl) (fun _ _ _ h => h) ?hy5 hS1 ?rest5
  case hi5 => simp only [List.getElem?_toArray, List.getElem?_cons_succ, List.getElem?_cons_zero]; rfl
  case hy5 => exact Or.inl ⟨rfl, fun _ hSw => rfl⟩
  simp only [Act.put, List.setIfInBounds_toArray, List.set_cons_zero, List.set_cons_succ]
  refine wpAnyH_take (i := 5) (oi := ?oi6) (v := .string SH) ?hi6 (by kernel_rfl) (by kernel_rfl) (by kernel_rfl) (fun _ _ _ h => h) ?hy6 hS1 ?rest6
  case hi6 => simp only [List.getElem?_toArray, List.getElem?_cons_succ, List.getElem?_cons_zero]; rfl
  case hy6 => exact Or.inl ⟨rfl, fun _ hSw => rfl⟩
  simp only [Act.put, List.setIfInBounds_toArray, List.set_cons_zero, List.set_cons_succ]
  refine wpAnyH_take (i := 7) (oi := ?oi7) (v := .string SA) ?hi7 (by kernel_rfl) (by kernel_rfl) (by kernel_rfl) (fun _ _ _ h => h) ?hy7 hS1 ?rest7
  case hi7 => simp only [List.getElem?_toArray, List.getElem?_cons_succ, List.getElem?_cons_zero]; rfl
  case hy7 => exact Or.inl ⟨rfl, fun _ hSw => rfl⟩
  simp only [Act.put, List.setIfInBounds_toArray, List.set_cons_zero, List.set_cons_succ]
  refine wpAnyH_take (i := 8) (oi := ?oi8) (v := .string SH) ?hi8 (by kernel_rfl) (by kernel_rfl) (by kernel_rfl) (fun _ _ _ h => h) ?hy8 hS1 ?rest8
  case hi8 => simp only [List.getElem?_toArray, List.getElem?_cons_succ, List.getElem?_cons_zero]; rfl
  case hy8 => exact Or.inl ⟨rfl, fun _ hSw => rfl⟩
  simp only [Act.put, List.setIfInBounds_toArray, List.set_cons_zero, List.set_cons_succ]
  refine wpAnyH_ready (rs := [3, 9]) (by kernel_rfl) (by simp) ?_
  refine AllReadyH.cons (o := ?oia_3) ?hia_3 ?stepa_3 (AllReadyH.cons (o := ?oia_9) ?hia_9 ?stepa_9 AllReadyH.nil)
  case hia_3 => simp only [List.getElem?_toArray, List.getElem?_cons_succ, List.getElem?_cons_zero]; rfl
  case hia_9 => simp only [List.getElem?_toArray, List.getElem?_cons_succ, List.getElem?_cons_zero]; rfl
  case stepa_3 =>
    intro K hK
    go_simp
    refine (HF1.out _).mono ?_
    rintro e w4 ⟨rfl, hb4⟩
    refine hK.out _ _ (hS1.keep hb4) (fun hS2 => ?_)
    clear hK K
    try simp only [Act.put, List.setIfInBounds_toArray, List.set_cons_zero, List.set_cons_succ]
    refine wpAnyH_ready (rs := [6, 9]) (by kernel_rfl) (by simp) ?_
    refine AllReadyH.cons (o := ?oib_6) ?hib_6 ?stepb_6 (AllReadyH.cons (o := ?oib_9) ?hib_9 ?stepb_9 AllReadyH.nil)
    case hib_6 => simp only [List.getElem?_toArray, List.getElem?_cons_succ, List.getElem?_cons_zero]; rfl
    case hib_9 => simp only [List.getElem?_toArray, List.getElem?_cons_succ, List.getElem?_cons_zero]; rfl
    case stepb_6 =>
      intro K hK
      go_simp
      refine (HF2.out _).mono ?_
      rintro e w5 ⟨rfl, hb5⟩
      refine hK.out _ _ (hS2.keep hb5) (fun hS3 => ?_)
      clear hK K
      try simp only [Act.put, List.setIfInBounds_toArray, List.set_cons_zero, List.set_cons_succ]
      refine wpAnyH_ready (rs := [9]) (by kernel_rfl) (by simp) ?_
      refine AllReadyH.cons (o := ?oic_9) ?hic_9 ?stepc_9 AllReadyH.nil
      case hic_9 => simp only [List.getElem?_toArray, List.getElem?_cons_succ, List.getElem?_cons_zero]; rfl
      intro K hK
      go_simp
      refine hK.out _ _ (hS3.keep ((Below.refl _ _).alloc (Nat.le_refl _) _)) (fun hS4 => ?_)
      clear hK K
      try simp only [Act.put, List.setIfInBounds_toArray, List.set_cons_zero, List.set_cons_succ]
      refine wpAnyH_ready (rs := [10]) (by kernel_rfl) (by simp) ?_
      refine AllReadyH.cons (o := ?oi15) ?hi15 ?step15 AllReadyH.nil
      case hi15 => simp only [List.getElem?_toArray, List.getElem?_cons_succ, List.getElem?_cons_zero]; rfl
      intro K hK
      go_simp
      refine (HSZ.out _ _ (HSS.out _)).mono ?_
      rintro e w6 ⟨rfl, hb6⟩
      refine hK.out _ _ (hS4.keep hb6) (fun hSe => ?_)
      clear hK K
      try simp only [Act.put, List.setIfInBounds_toArray, List.set_cons_zero, List.set_cons_succ]
      refine wpAnyH_ready (rs := [11]) (by kernel_rfl) (by simp) ?_
      refine AllReadyH.cons (o := ?oiu16_11) ?hiu16_11 ?stepu16_11 AllReadyH.nil
      case hiu16_11 => simp only [List.getElem?_toArray, List.getElem?_cons_succ, List.getElem?_cons_zero]; rfl
      intro K hK
      go_simp
      refine hK.out _ _ (hSe.keep ((Below.refl _ _).alloc (Nat.le_refl _) _)) (fun hSf => ?_)
      clear hK K
      try simp only [Act.put, List.setIfInBounds_toArray, List.set_cons_zero, List.set_cons_succ]
      refine wpAnyH_ready (rs := [12]) (by kernel_rfl) (by simp) ?_
      refine AllReadyH.cons (o := ?oi18) ?hi18 ?step18 AllReadyH.nil
      case hi18 => simp only [List.getElem?_toArray, List.getElem?_cons_succ, List.getElem?_cons_zero]; rfl
      intro K hK
      go_simp
      refine (HOF.out _ _ hSf.2.2.1 (HS5.out _)).mono ?_
      rintro e w9 ⟨rfl, hb9⟩
      refine hK.out _ _ (hSf.keep hb9) (fun hSg => ?_)
      clear hK K
      try simp only [Act.put, List.setIfInBounds_toArray, List.set_cons_zero, List.set_cons_succ]
      refine wpAnyH_ready (rs := [13]) (by kernel_rfl) (by simp) ?_
      refine AllReadyH.cons (o := ?oiu19_13) ?hiu19_13 ?stepu19_13 AllReadyH.nil
      case hiu19_13 => simp only [List.getElem?_toArray, List.getElem?_cons_succ, List.getElem?_cons_zero]; rfl
      intro K hK
      refine Eq.mpr (if_pos (by rfl)) ?_
      obtain ⟨l, hll, hrl⟩ := hSg.2.1
      refine wp_store_row _ _ _ rfl (w.heap.size + 1 + 1) _ rfl rfl _ _ hrl (by rw [hts]; exact info48) (by rw [hts, ints_size, hll]) (ints_one _ _) ?_
      refine hK.out _ _ (hSg.store T htl hklt) (fun hSh => ?_)
      clear hK K
      refine wpAnyH_done (by kernel_rfl) ?_ _
      refine NoPanic.normal ?_
      go_wp2
      exact bodyPost_ret (v := .agg (ints .u8 T))
        (results_cell_row Tryd.results38 _ _ (w.heap.size + 1 + 1) _ _ _ _ rfl (setRow_heap _ (w.heap.size + 1 + 1) _ _ _ _ hrl) Tryd.underlying89 rfl (by rw [hts]; exact info48))
        rfl ⟨rfl, hSh.2.2.2⟩
    case stepb_9 =>
      intro K hK
      go_simp
      refine hK.out _ _ (hS2.keep ((Below.refl _ _).alloc (Nat.le_refl _) _)) (fun hS3 => ?_)
      clear hK K
      try simp only [Act.put, List.setIfInBounds_toArray, List.set_cons_zero, List.set_cons_succ]
      refine wpAnyH_ready (rs := [6]) (by kernel_rfl) (by simp) ?_
      refine AllReadyH.cons (o := ?oid_6) ?hid_6 ?stepd_6 AllReadyH.nil
      case hid_6 => simp only [List.getElem?_toArray, List.getElem?_cons_succ, List.getElem?_cons_zero]; rfl
      intro K hK
      go_simp
      refine (HF2.out _).mono ?_
      rintro e w5 ⟨rfl, hb5⟩
      refine hK.out _ _ (hS3.keep hb5) (fun hS4 => ?_)
      clear hK K
      try simp only [Act.put, List.setIfInBounds_toArray, List.set_cons_zero, List.set_cons_succ]
      refine wpAnyH_ready (rs := [10]) (by kernel_rfl) (by simp) ?_
      refine AllReadyH.cons (o := ?oi24) ?hi24 ?step24 AllReadyH.nil
      case hi24 => simp only [List.getElem?_toArray, List.getElem?_cons_succ, List.getElem?_cons_zero]; rfl
      intro K hK
      go_simp
      refine (HSZ.out _ _ ((HSS.out _).below hb5)).mono ?_
      rintro e w6 ⟨rfl, hb6⟩
      refine hK.out _ _ (hS4.keep hb6) (fun hSe => ?_)
      clear hK K
      try simp only [Act.put, List.setIfInBounds_toArray, List.set_cons_zero, List.set_cons_succ]
      refine wpAnyH_ready (rs := [11]) (by kernel_rfl) (by simp) ?_
      refine AllReadyH.cons (o := ?oiu25_11) ?hiu25_11 ?stepu25_11 AllReadyH.nil
      case hiu25_11 => simp only [List.getElem?_toArray, List.getElem?_cons_succ, List.getElem?_cons_zero]; rfl
      intro K hK
      go_simp
      refine hK.out _ _ (hSe.keep ((Below.refl _ _).alloc (Nat.le_refl _) _)) (fun hSf => ?_)
      clear hK K
      try simp only [Act.put, List.setIfInBounds_toArray, List.set_cons_zero, List.set_cons_succ]
      refine wpAnyH_ready (rs := [12]) (by kernel_rfl) (by simp) ?_
      refine AllReadyH.cons (o := ?oi27) ?hi27 ?step27 AllReadyH.nil
      case hi27 => simp only [List.getElem?_toArray, List.getElem?_cons_succ, List.getElem?_cons_zero]; rfl
      intro K hK
      go_simp
      refine (HOF.out _ _ hSf.2.2.1 (HS5.out _)).mono ?_
      rintro e w9 ⟨rfl, hb9⟩
      refine hK.out _ _ (hSf.keep hb9) (fun hSg => ?_)
      clear hK K
      try simp only [Act.put, List.setIfInBounds_toArray, List.set_cons_zero, List.set_cons_succ]
      refine wpAnyH_ready (rs := [13]) (by kernel_rfl) (by simp) ?_
      refine AllReadyH.cons (o := ?oiu28_13) ?hiu28_13 ?stepu28_13 AllReadyH.nil
      case hiu28_13 => simp only [List.getElem?_toArray, List.getElem?_cons_succ, List.getElem?_cons_zero]; rfl
      intro K hK
      refine Eq.mpr (if_pos (by rfl)) ?_
      obtain ⟨l, hll, hrl⟩ := hSg.2.1
      refine wp_store_row _ _ _ rfl (w.heap.size + 1 + 1) _ rfl rfl _ _ hrl (by rw [hts]; exact info48) (by rw [hts, ints_size, hll]) (ints_one _ _) ?_
      refine hK.out _ _ (hSg.store T htl hklt) (fun hSh => ?_)
      clear hK K
      refine wpAnyH_done (by kernel_rfl) ?_ _
      refine NoPanic.normal ?_
      go_wp2
      exact bodyPost_ret (v := .agg (ints .u8 T))
        (results_cell_row Tryd.results38 _ _ (w.heap.size + 1 + 1) _ _ _ _ rfl (setRow_heap _ (w.heap.size + 1 + 1) _ _ _ _ hrl) Tryd.underlying89 rfl (by rw [hts]; exact info48))
        rfl ⟨rfl, hSh.2.2.2⟩
  case stepa_9 =>
    intro K hK
    go_simp
    refine hK.out _ _ (hS1.keep ((Below.refl _ _).alloc (Nat.le_refl _) _)) (fun hS2 => ?_)
    clear hK K
    try simp only [Act.put, List.setIfInBounds_toArray, List.set_cons_zero, List.set_cons_succ]
    refine wpAnyH_ready (rs := [3]) (by kernel_rfl) (by simp) ?_
    refine AllReadyH.cons (o := ?oie_3) ?hie_3 ?stepe_3 AllReadyH.nil
    case hie_3 => simp only [List.getElem?_toArray, List.getElem?_cons_succ, List.getElem?_cons_zero]; rfl
    intro K hK
    go_simp
    refine (HF1.out _).mono ?_
    rintro e w4 ⟨rfl, hb4⟩
    refine hK.out _ _ (hS2.keep hb4) (fun hS3 => ?_)
    clear hK K
    try simp only [Act.put, List.setIfInBounds_toArray, List.set_cons_zero, List.set_cons_succ]
    refine wpAnyH_ready (rs := [6]) (by kernel_rfl) (by simp) ?_
    refine AllReadyH.cons (o := ?oif_6) ?hif_6 ?stepf_6 AllReadyH.nil
    case hif_6 => simp only [List.getElem?_toArray, List.getElem?_cons_succ, List.getElem?_cons_zero]; rfl
    intro K hK
    go_simp
    refine (HF2.out _).mono ?_
    rintro e w5 ⟨rfl, hb5⟩
    refine hK.out _ _ (hS3.keep hb5) (fun hS4 => ?_)
    clear hK K
    try simp only [Act.put, List.setIfInBounds_toArray, List.set_cons_zero, List.set_cons_succ]
    refine wpAnyH_ready (rs := [10]) (by kernel_rfl) (by simp) ?_
    refine AllReadyH.cons (o := ?oi35) ?hi35 ?step35 AllReadyH.nil
    case hi35 => simp only [List.getElem?_toArray, List.getElem?_cons_succ, List.getElem?_cons_zero]; rfl
    intro K hK
    go_simp
    refine (HSZ.out _ _ (((show Strs ((w3.alloc (.cells #[.string SA, .string SH] 9)).drew) (some ⟨w3.heap.size, 0, none⟩) [ad, h] from HSS.out w3).below hb4).below hb5)).mono ?_
    rintro e w6 ⟨rfl, hb6⟩
    refine hK.out _ _ (hS4.keep hb6) (fun hSe => ?_)
    clear hK K
    try simp only [Act.put, List.setIfInBounds_toArray, List.set_cons_zero, List.set_cons_succ]
    refine wpAnyH_ready (rs := [11]) (by kernel_rfl) (by simp) ?_
    refine AllReadyH.cons (o := ?oiu36_11) ?hiu36_11 ?stepu36_11 AllReadyH.nil
    case hiu36_11 => simp only [List.getElem?_toArray, List.getElem?_cons_succ, List.getElem?_cons_zero]; rfl
    intro K hK
    go_simp
    refine hK.out _ _ (hSe.keep ((Below.refl _ _).alloc (Nat.le_refl _) _)) (fun hSf => ?_)
    clear hK K
    try simp only [Act.put, List.setIfInBounds_toArray, List.set_cons_zero, List.set_cons_succ]
    refine wpAnyH_ready (rs := [12]) (by kernel_rfl) (by simp) ?_
    refine AllReadyH.cons (o := ?oi38) ?hi38 ?step38 AllReadyH.nil
    case hi38 => simp only [List.getElem?_toArray, List.getElem?_cons_succ, List.getElem?_cons_zero]; rfl
    intro K hK
    go_simp
    refine (HOF.out _ _ hSf.2.2.1 (HS5.out _)).mono ?_
    rintro e w9 ⟨rfl, hb9⟩
    refine hK.out _ _ (hSf.keep hb9) (fun hSg => ?_)
    clear hK K
    try simp only [Act.put, List.setIfInBounds_toArray, List.set_cons_zero, List.set_cons_succ]
    refine wpAnyH_ready (rs := [13]) (by kernel_rfl) (by simp) ?_
    refine AllReadyH.cons (o := ?oiu39_13) ?hiu39_13 ?stepu39_13 AllReadyH.nil
    case hiu39_13 => simp only [List.getElem?_toArray, List.getElem?_cons_succ, List.getElem?_cons_zero]; rfl
    intro K hK
    refine Eq.mpr (if_pos (by rfl)) ?_
    obtain ⟨l, hll, hrl⟩ := hSg.2.1
    refine wp_store_row _ _ _ rfl (w.heap.size + 1 + 1) _ rfl rfl _ _ hrl (by rw [hts]; exact info48) (by rw [hts, ints_size, hll]) (ints_one _ _) ?_
    refine hK.out _ _ (hSg.store T htl hklt) (fun hSh => ?_)
    clear hK K
    refine wpAnyH_done (by kernel_rfl) ?_ _
    refine NoPanic.normal ?_
    go_wp2
    exact bodyPost_ret (v := .agg (ints .u8 T))
      (results_cell_row Tryd.results38 _ _ (w.heap.size + 1 + 1) _ _ _ _ rfl (setRow_heap _ (w.heap.size + 1 + 1) _ _ _ _ hrl) Tryd.underlying89 rfl (by rw [hts]; exact info48))
      rfl ⟨rfl, hSh.2.2.2⟩
end Go.Proofs.YtgjkkcggcljcdaaDoor
