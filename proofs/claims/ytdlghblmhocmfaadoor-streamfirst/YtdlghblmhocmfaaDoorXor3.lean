/-
  Layer 3: what stream.Bytes returns.
-/
import Derived.Test.YtdlghblmhocmfaaDoorXor2
namespace Go.Proofs.YtdlghblmhocmfaaDoor
open Go.RowKit
open Go.Lib (hid)

/-- Noughts that were made, as a text. -/
theorem conv_made (z : Nat) (u : World) : (convert 34 9 (.slice (some ⟨u.heap.size, 0, none⟩) z z)).run Tryd.prog (u.alloc (.cells (ints .u8 (List.replicate z 0)) 5)).drew = .ok (.string (str (List.replicate z 0))) (u.alloc (.cells (ints .u8 (List.replicate z 0)) 5)).drew := by
  have := run_str (u.alloc (.cells (ints .u8 (List.replicate z 0)) 5)).drew u.heap.size 0 z z 5 (List.replicate z 0) (show (u.alloc (.cells (ints .u8 (List.replicate z 0)) 5)).heap[u.heap.size]? = _ from heap_alloc_new _ _) (by simp)
  rwa [List.drop_zero, List.take_of_length_le (by simp)] at this
theorem row_range {w : World} {b : Nat} {k : IntKind} {t : TypeId} {l : List Nat} (h : Row w b k t l) : w.rangeAt b 0 (ints k l).toList := by
  intro j v hj
  rw [Nat.zero_add, cell_of_row w b j _ _ _ h, ← Array.getElem?_toList]; exact hj

/-- What stays while the bytes are made. -/
def KnS (w : World) (key nonce : List Nat) (u : World) : Prop :=
  Row u w.heap.size .u8 23 key ∧ Row u (w.heap.size + 1) .u8 26 nonce ∧ TabQ u ∧ Below w.heap.size w u ∧ w.heap.size ≤ u.heap.size
theorem KnS.keep {w : World} {key nonce : List Nat} {u u' : World} (h : KnS w key nonce u) (hb : Below u.heap.size u u') : KnS w key nonce u' :=
  ⟨h.1.below hb h.1.lt, h.2.1.below hb h.2.1.lt, h.2.2.1.below hb (Nat.le_refl _), h.2.2.2.1.trans (hb.mono h.2.2.2.2), Nat.le_trans h.2.2.2.2 hb.size⟩

set_option maxHeartbeats 2000000 in
set_option maxRecDepth 100000 in
theorem sbytes_any (key nonce : List Nat) (c : Nat) (n : Int) (z : Nat) (hk : ∀ x ∈ key, x < 256) (hkl : key.length = 32) (hn : ∀ x ∈ nonce, x < 256) (hnl : nonce.length = 12) (hc : c < Sx.M) (hz : max 0 (min n 65536) = (z : Int)) (w : World) (hT : TabQ w) :
    Calls Tryd.prog 5 #[.agg (ints .u8 key), .int .u32 (c : Int), .agg (ints .u8 nonce), .int .i64 n] w fun e w' => e = .returned (.string (str (Cx.xors key c nonce (List.replicate z 0)))) ∧ Below w.heap.size w w' := by
  have hz1 : z ≤ 65536 := by omega
  have HX := hid (fun wx hx => xor_any key nonce (List.replicate z 0) c hk hkl hn hnl hc (by intro x hx; rw [List.mem_replicate] at hx; omega) (by simp; omega) wx hx)
  have HT := hid hT
  have i1 : (Tryd.prog.info? 23).map (·.size) = some (ints .u8 key).toList.length := by rw [ints_llen, hkl]; exact info23
  have i2 : (Tryd.prog.info? 26).map (·.size) = some (ints .u8 nonce).toList.length := by rw [ints_llen, hnl]; exact info26
  have hmk := fun wx => run_made z (by omega) wx
  have hcv := fun wx => conv_made z wx
  generalize str (Cx.xors key c nonce (List.replicate z 0)) = SX at *
  generalize str (List.replicate z 0) = SZ at *
  clear hT hk hn
  go_enter Tryd.func5, Tryd.ntmps5
  go_upto_region 1 with (fail)
  generalize hw0 : ((w.alloc _).alloc _) = w0
  have rk : Row w0 w.heap.size .u8 23 key := by rw [← hw0]; unfold Row; rw [heap_alloc2_old]
  have rn : Row w0 (w.heap.size + 1) .u8 26 nonce := by rw [← hw0]; unfold Row; rw [heap_alloc2_new]
  have hb0 : Below w.heap.size w w0 := by rw [← hw0]; exact (((Below.refl _ _).alloc (Nat.le_refl _) _).alloc (by simp) _)
  have HS0 := hid (show KnS w key nonce w0 from ⟨rk, rn, HT.out.below hb0 (Nat.le_refl _), hb0, hb0.size⟩)
  clear hw0 rk rn hb0
  go_upto_region 2 with (fail)
  refine wp_region_noPanic ?_
  refine wp_region_held_drew (S := KnS w key nonce) (by kernel_rfl) (HS0.out.keep ((Below.refl _ _).drew)) (fun hS1 => ?_)
  change wpAnyH _ _ _ _ _ 8 _ _ _
  refine wpAnyH_take (i := 0) (oi := ?oi2) (v := .agg (ints .u8 key).toList.toArray) ?hi2 (by kernel_rfl) (by kernel_rfl) (by kernel_rfl) (fun _ _ _ h => h) ?hy2 hS1 ?rest2
  case hi2 => simp only [List.getElem?_toArray, List.getElem?_cons_zero]; rfl
  case hy2 => 
    refine yieldsIf_load_mid ?w2 _ ?x2 ?o2 w.heap.size 0 ?e2 (ints .u8 key).toList _ ?s2 Tryd.underlying23 rfl i1
    case o2 => rfl
    case w2 => rfl
    case e2 => rfl
    case s2 => intro _ hSw; exact row_range hSw.1
  simp only [Act.put, List.setIfInBounds_toArray, List.set_cons_zero, List.set_cons_succ, Array.toArray_toList]
  refine wpAnyH_take (i := 1) (oi := ?oi3) (v := .int .u32 (c : Int)) ?hi3 (by kernel_rfl) (by kernel_rfl) (by kernel_rfl) (fun _ _ _ h => h) ?hy3 hS1 ?rest3
  case hi3 => simp only [List.getElem?_toArray, List.getElem?_cons_succ, List.getElem?_cons_zero]; rfl
  case hy3 => exact Or.inl ⟨rfl, fun _ hSw => rfl⟩
  simp only [Act.put, List.setIfInBounds_toArray, List.set_cons_zero, List.set_cons_succ]
  refine wpAnyH_take (i := 2) (oi := ?oi4) (v := .agg (ints .u8 nonce).toList.toArray) ?hi4 (by kernel_rfl) (by kernel_rfl) (by kernel_rfl) (fun _ _ _ h => h) ?hy4 hS1 ?rest4
  case hi4 => simp only [List.getElem?_toArray, List.getElem?_cons_succ, List.getElem?_cons_zero]; rfl
  case hy4 => 
    refine yieldsIf_load_mid ?w4 _ ?x4 ?o4 (w.heap.size + 1) 0 ?e4 (ints .u8 nonce).toList _ ?s4 Tryd.underlying26 rfl i2
    case o4 => rfl
    case w4 => rfl
    case e4 => rfl
    case s4 => intro _ hSw; exact row_range hSw.2.1
  simp only [Act.put, List.setIfInBounds_toArray, List.set_cons_zero, List.set_cons_succ, Array.toArray_toList]
  refine wpAnyH_take (i := 3) (oi := ?oi5) (v := .int .i64 (z : Int)) ?hi5 (by kernel_rfl) (by kernel_rfl) (by kernel_rfl) (fun _ _ _ h => h) ?hy5 hS1 ?rest5
  case hi5 => simp only [List.getElem?_toArray, List.getElem?_cons_succ, List.getElem?_cons_zero]; rfl
  case hy5 => exact Or.inl ⟨rfl, fun _ hSw => rfl⟩
  simp only [Act.put, List.setIfInBounds_toArray, List.set_cons_zero, List.set_cons_succ]
  refine wpAnyH_ready (rs := [4]) (by kernel_rfl) (by simp) ?_
  refine AllReadyH.cons (o := ?oiu6_4) ?hiu6_4 ?stepu6_4 AllReadyH.nil
  case hiu6_4 => simp only [List.getElem?_toArray, List.getElem?_cons_succ, List.getElem?_cons_zero]; rfl
  intro K hK
  go_simp
  refine hK.out _ _ (hS1.keep ((Below.refl _ _).alloc (Nat.le_refl _) _)) (fun hS2 => ?_)
  clear hK K
  try simp only [Act.put, List.setIfInBounds_toArray, List.set_cons_zero, List.set_cons_succ]
  refine wpAnyH_ready (rs := [5]) (by kernel_rfl) (by simp) ?_
  refine AllReadyH.cons (o := ?oiu8_5) ?hiu8_5 ?stepu8_5 AllReadyH.nil
  case hiu8_5 => simp only [List.getElem?_toArray, List.getElem?_cons_succ, List.getElem?_cons_zero]; rfl
  intro K hK
  go_simp
  refine hK.out _ _ (hS2) (fun hS3 => ?_)
  clear hK K
  try simp only [Act.put, List.setIfInBounds_toArray, List.set_cons_zero, List.set_cons_succ]
  refine wpAnyH_ready (rs := [6]) (by kernel_rfl) (by simp) ?_
  refine AllReadyH.cons (o := ?oi10) ?hi10 ?step10 AllReadyH.nil
  case hi10 => simp only [List.getElem?_toArray, List.getElem?_cons_succ, List.getElem?_cons_zero]; rfl
  intro K hK
  go_simp
  refine (HX.out _ hS3.2.2.1).mono ?_
  rintro e w3 ⟨rfl, hb3⟩
  refine hK.out _ _ (hS3.keep hb3) (fun hS4 => ?_)
  clear hK K
  try simp only [Act.put, List.setIfInBounds_toArray, List.set_cons_zero, List.set_cons_succ]
  refine wpAnyH_take (i := 7) (oi := ?oi11) (v := .string SX) ?hi11 (by kernel_rfl) (by kernel_rfl) (by kernel_rfl) (fun _ _ _ h => h) ?hy11 hS4 ?rest11
  case hi11 => simp only [List.getElem?_toArray, List.getElem?_cons_succ, List.getElem?_cons_zero]; rfl
  case hy11 => exact Or.inl ⟨rfl, fun _ hSw => rfl⟩
  simp only [Act.put, List.setIfInBounds_toArray, List.set_cons_zero, List.set_cons_succ]
  refine wpAnyH_done (by kernel_rfl) ?_ _
  refine NoPanic.normal ?_
  go_wp2
  go_ret
  exact ⟨rfl, hS4.2.2.2.1⟩
end Go.Proofs.YtdlghblmhocmfaaDoor
