/-
  Layer 7: what tree.Holds returns.
-/
import Derived.Test.YtnhecallffkedabDoorBase
import Derived.Test.YtnhecallffkedabDoorTree9
namespace Go.Proofs.YtnhecallffkedabDoor
open Go.RowKit
open Go.Lib (hid)

namespace Tx
/-- The sum up to which the way comes. -/
def top (i : Nat) (t : List Nat) (l : List (List Nat)) : List Nat := Sx.digest ((wayN i t l l.length).getD l.length [])
theorem top_length (i : Nat) (t : List Nat) (l : List (List Nat)) : (top i t l).length = 32 := digest_length _
theorem top_lt (i : Nat) (t : List Nat) (l : List (List Nat)) : ∀ x ∈ top i t l, x < 256 := digest_lt _
def holds (root : List Nat) (i : Int) (t : List Nat) (l : List (List Nat)) : Bool := isPos i l.length && (top i.toNat t l == root)
end Tx
def HoS (w : World) (root : List Nat) (u : World) : Prop := Row u w.heap.size .u8 27 root ∧ Below w.heap.size w u
theorem HoS.keep {w : World} {root : List Nat} {u u' : World} (h : HoS w root u) (hb : Below u.heap.size u u') : HoS w root u' := ⟨h.1.below hb h.1.lt, h.2.trans (hb.mono h.2.size)⟩

set_option maxHeartbeats 2000000 in
set_option maxRecDepth 100000 in
theorem holds_any (root : List Nat) (hrl : root.length = 32) (hrb : ∀ x ∈ root, x < 256) (i : Int) (t : List Nat) (ht : ∀ x ∈ t, x < 256) (htl : t.length ≤ 10000000) (l : List (List Nat)) (hl : ∀ f ∈ l, f.length = 32) (hlb : ∀ f ∈ l, ∀ x ∈ f, x < 256) (hll : l.length ≤ 1000) (ao : Option Addr) (cap : Nat) (w : World) (hT : Tabs w) (hS : Sums w (.slice ao l.length cap) l) :
    Calls Tryd.prog 11 #[.agg (ints .u8 root), .int .i64 i, .string (str t), .slice ao l.length cap] w fun e w' => e = .returned (.bool (Tx.holds root i t l)) ∧ Below w.heap.size w w' := by
  have HIP := hid (fun wx => isPos_any i l.length (by omega) wx)
  have HT := hid hT
  have HSM := hid hS
  have hsr : (ints .u8 root).size = 32 := by rw [ints_size, hrl]
  by_cases hp : Tx.isPos i l.length = true
  · have h0 : 0 ≤ i ∧ i < ((2 ^ l.length : Nat) : Int) ∧ l.length ≤ 16 := by
      simp only [Tx.isPos, Bool.and_eq_true, decide_eq_true_eq] at hp
      exact ⟨hp.1.2, hp.2, hp.1.1⟩
    obtain ⟨n, rfl⟩ : ∃ n : Nat, i = (n : Int) := ⟨i.toNat, by omega⟩
    have hn : n < 65536 := by
      have : 2 ^ l.length ≤ 2 ^ 16 := Nat.pow_le_pow_right (by decide) h0.2.2
      omega
    have HRI := hid (fun wx hx hy => rise_any n hn t ht htl l hl hlb hll (.slice ao l.length cap) wx hx hy)
    have hwl := Tx.wayN_length n t l l.length
    have HRT := hid (fun v wx hx => wroot_any v (Tx.wayN n t l l.length) (by omega) (by omega) wx hx)
    rw [show (Tx.wayN n t l l.length).length - 1 = l.length from by omega, show Sx.digest ((Tx.wayN n t l l.length).getD l.length []) = Tx.top n t l from rfl] at HRT
    have HEQ := hid (fun wx => eql_sums wx (Tx.top n t l) root (Tx.top_lt _ _ _) hrb (Tx.top_length _ _ _) hrl)
    have HRES := hid (show Tx.holds root (n : Int) t l = (Tx.top n t l == root) from by unfold Tx.holds; rw [hp]; simp)
    rw [hp] at HIP
    clear ht hl hlb hrb hT hS h0 hp
    generalize Tx.top n t l = D at *
    generalize (D == root) = E at *
    generalize Tx.wayN n t l l.length = W at *
    generalize Tx.holds root (n : Int) t l = R at *
    go_enter Tryd.func11, Tryd.ntmps11
    go_upto_region 1 with (fail)
    generalize hw0 : w.alloc _ = w0
    have HC0 := hid (show HoS w root w0 from by rw [← hw0]; exact ⟨by unfold Row; rw [heap_alloc_new], (Below.refl _ _).alloc (Nat.le_refl _) _⟩)
    clear hw0
    have i27 : (Tryd.prog.info? 27).map (·.size) = some (ints .u8 root).toList.length := by rw [Array.length_toList, hsr]; exact info27
    refine wp_region_noPanic ?_
    refine wp_region_held_drew (S := HoS w root) (by kernel_rfl) (HC0.out.keep ((Below.refl _ _).drew)) (fun hS1 => ?_)
    change wpAnyH _ _ _ _ _ 14 _ _ _
    refine wpAnyH_take (i := 0) (oi := ?oi2) (v := .int .i64 (n : Int)) ?hi2 (by kernel_rfl) (by kernel_rfl) (by kernel_rfl) (fun _ _ _ h => h) ?hy2 hS1 ?rest2
    case hi2 => simp only [List.getElem?_toArray, List.getElem?_cons_zero]; rfl
    case hy2 => exact Or.inl ⟨rfl, fun _ hSw => rfl⟩
    simp only [Act.put, List.setIfInBounds_toArray, List.set_cons_zero, List.set_cons_succ]
    refine wpAnyH_take (i := 1) (oi := ?oi3) (v := .slice ao l.length cap) ?hi3 (by kernel_rfl) (by kernel_rfl) (by kernel_rfl) (fun _ _ _ h => h) ?hy3 hS1 ?rest3
    case hi3 => simp only [List.getElem?_toArray, List.getElem?_cons_succ, List.getElem?_cons_zero]; rfl
    case hy3 => exact Or.inl ⟨rfl, fun _ hSw => rfl⟩
    simp only [Act.put, List.setIfInBounds_toArray, List.set_cons_zero, List.set_cons_succ]
    refine wpAnyH_take (i := 2) (oi := ?oi4) (v := .int .i64 (l.length : Int)) ?hi4 (by kernel_rfl) (by kernel_rfl) (by kernel_rfl) (fun _ _ _ h => h) ?hy4 hS1 ?rest4
    case hi4 => simp only [List.getElem?_toArray, List.getElem?_cons_succ, List.getElem?_cons_zero]; rfl
    case hy4 => exact Or.inl ⟨rfl, fun _ hSw => by go_simp⟩
    simp only [Act.put, List.setIfInBounds_toArray, List.set_cons_zero, List.set_cons_succ]
    refine wpAnyH_ready (rs := [3]) (by kernel_rfl) (by simp) ?_
    refine AllReadyH.cons (o := ?oi5) ?hi5 ?step5 AllReadyH.nil
    case hi5 => simp only [List.getElem?_toArray, List.getElem?_cons_succ, List.getElem?_cons_zero]; rfl
    intro K hK
    go_simp
    refine (HIP.out _).mono ?_
    rintro e w1 ⟨rfl, hw1⟩
    refine hK.out _ _ (by rw [hw1]; exact hS1) (fun hS2 => ?_)
    clear hK K
    try simp only [Act.put, List.setIfInBounds_toArray, List.set_cons_zero, List.set_cons_succ]
    rw [hw1]
    refine wpAnyH_take (i := 4) (oi := ?oi6) (v := .bool true) ?hi6 (by kernel_rfl) (by kernel_rfl) (by kernel_rfl) (fun _ _ _ h => h) ?hy6 hS1 ?rest6
    case hi6 => simp only [List.getElem?_toArray, List.getElem?_cons_succ, List.getElem?_cons_zero]; rfl
    case hy6 => exact Or.inl ⟨rfl, fun _ hSw => rfl⟩
    simp only [Act.put, List.setIfInBounds_toArray, List.set_cons_zero, List.set_cons_succ]
    refine wpAnyH_take (i := 5) (oi := ?oi7) (v := .int .i64 (n : Int)) ?hi7 (by kernel_rfl) (by kernel_rfl) (by kernel_rfl) (fun _ _ _ h => h) ?hy7 hS1 ?rest7
    case hi7 => simp only [List.getElem?_toArray, List.getElem?_cons_succ, List.getElem?_cons_zero]; rfl
    case hy7 => exact Or.inl ⟨rfl, fun _ hSw => rfl⟩
    simp only [Act.put, List.setIfInBounds_toArray, List.set_cons_zero, List.set_cons_succ]
    refine wpAnyH_take (i := 6) (oi := ?oi8) (v := .string (str t)) ?hi8 (by kernel_rfl) (by kernel_rfl) (by kernel_rfl) (fun _ _ _ h => h) ?hy8 hS1 ?rest8
    case hi8 => simp only [List.getElem?_toArray, List.getElem?_cons_succ, List.getElem?_cons_zero]; rfl
    case hy8 => exact Or.inl ⟨rfl, fun _ hSw => rfl⟩
    simp only [Act.put, List.setIfInBounds_toArray, List.set_cons_zero, List.set_cons_succ]
    refine wpAnyH_take (i := 7) (oi := ?oi9) (v := .slice ao l.length cap) ?hi9 (by kernel_rfl) (by kernel_rfl) (by kernel_rfl) (fun _ _ _ h => h) ?hy9 hS1 ?rest9
    case hi9 => simp only [List.getElem?_toArray, List.getElem?_cons_succ, List.getElem?_cons_zero]; rfl
    case hy9 => exact Or.inl ⟨rfl, fun _ hSw => rfl⟩
    simp only [Act.put, List.setIfInBounds_toArray, List.set_cons_zero, List.set_cons_succ]
    refine wpAnyH_take (i := 10) (oi := ?oi10) (v := .agg (ints .u8 root).toList.toArray) ?hi10 (by kernel_rfl) (by kernel_rfl) (by kernel_rfl) (fun _ _ _ h => h) ?hy10 hS1 ?rest10
    case hi10 => simp only [List.getElem?_toArray, List.getElem?_cons_succ, List.getElem?_cons_zero]; rfl
    case hy10 => 
      refine yieldsIf_load_mid ?w10 _ ?x10 ?o10 w.heap.size 0 ?e10 (ints .u8 root).toList _ ?s10 Tryd.underlying27 rfl i27
      case o10 => rfl
      case w10 => rfl
      case e10 => rfl
      case s10 => intro _ hSw; exact range_row hSw.1
    simp only [Act.put, List.setIfInBounds_toArray, List.set_cons_zero, List.set_cons_succ, Array.toArray_toList]
    refine wpAnyH_ready (rs := [8]) (by kernel_rfl) (by simp) ?_
    refine AllReadyH.cons (o := ?oi11) ?hi11 ?step11 AllReadyH.nil
    case hi11 => simp only [List.getElem?_toArray, List.getElem?_cons_succ, List.getElem?_cons_zero]; rfl
    intro K hK
    go_simp
    refine (HRI.out _ (HT.out.below hS1.2 (Nat.le_refl _)) (HSM.out.below hS1.2)).mono ?_
    rintro e w3 ⟨v3, rfl, ho3, hb3⟩
    refine hK.out _ _ (hS1.keep hb3) (fun hS3 => ?_)
    clear hK K
    try simp only [Act.put, List.setIfInBounds_toArray, List.set_cons_zero, List.set_cons_succ]
    refine wpAnyH_ready (rs := [9]) (by kernel_rfl) (by simp) ?_
    refine AllReadyH.cons (o := ?oi12) ?hi12 ?step12 AllReadyH.nil
    case hi12 => simp only [List.getElem?_toArray, List.getElem?_cons_succ, List.getElem?_cons_zero]; rfl
    intro K hK
    go_simp
    refine (HRT.out _ _ ho3.ways).mono ?_
    rintro e w4 ⟨rfl, hb4⟩
    refine hK.out _ _ (hS3.keep hb4) (fun hS4 => ?_)
    clear hK K
    try simp only [Act.put, List.setIfInBounds_toArray, List.set_cons_zero, List.set_cons_succ]
    refine wpAnyH_take (i := 11) (oi := ?oi13) (v := .bool E) ?hi13 (by kernel_rfl) (by kernel_rfl) (by kernel_rfl) (fun _ _ _ h => h) ?hy13 hS4 ?rest13
    case hi13 => simp only [List.getElem?_toArray, List.getElem?_cons_succ, List.getElem?_cons_zero]; rfl
    case hy13 => exact Or.inl ⟨rfl, fun _ hSw => by have hq := HEQ.out; go_simp⟩
    simp only [Act.put, List.setIfInBounds_toArray, List.set_cons_zero, List.set_cons_succ]
    refine wpAnyH_take (i := 12) (oi := ?oi14) (v := .bool E) ?hi14 (by kernel_rfl) (by kernel_rfl) (by kernel_rfl) (fun _ _ _ h => h) ?hy14 hS4 ?rest14
    case hi14 => simp only [List.getElem?_toArray, List.getElem?_cons_succ, List.getElem?_cons_zero]; rfl
    case hy14 => exact Or.inl ⟨rfl, fun _ hSw => rfl⟩
    simp only [Act.put, List.setIfInBounds_toArray, List.set_cons_zero, List.set_cons_succ]
    refine wpAnyH_take (i := 13) (oi := ?oi15) (v := .bool E) ?hi15 (by kernel_rfl) (by kernel_rfl) (by kernel_rfl) (fun _ _ _ h => h) ?hy15 hS4 ?rest15
    case hi15 => simp only [List.getElem?_toArray, List.getElem?_cons_succ, List.getElem?_cons_zero]; rfl
    case hy15 => exact Or.inl ⟨rfl, fun _ hSw => rfl⟩
    simp only [Act.put, List.setIfInBounds_toArray, List.set_cons_zero, List.set_cons_succ]
    refine wpAnyH_done (by kernel_rfl) ?_ _
    refine NoPanic.normal ?_
    go_wp2
    go_ret
    exact ⟨by rw [HRES.out]; rfl, hS4.2⟩
  · have hp' : Tx.isPos i l.length = false := by simpa using hp
    have HRES := hid (show Tx.holds root i t l = false from by unfold Tx.holds; rw [hp']; rfl)
    rw [hp'] at HIP
    clear ht hl hlb hrb hT hS hp hp'
    generalize Tx.holds root i t l = R at *
    go_enter Tryd.func11, Tryd.ntmps11
    go_upto_region 1 with (fail)
    generalize hw0 : w.alloc _ = w0
    have HC0 := hid (show HoS w root w0 from by rw [← hw0]; exact ⟨by unfold Row; rw [heap_alloc_new], (Below.refl _ _).alloc (Nat.le_refl _) _⟩)
    clear hw0
    refine wp_region_class (HoS w root) (by kernel_rfl) (by kernel_rfl) (HC0.out.keep ((Below.refl _ _).drew)) ?_
    intro Z φ hne hSφ hφ
    have HSZ := hid hSφ
    have C1 := hid (fun z => calls_class hφ ((HIP.out (φ z)).mono fun e w' h => ⟨h.1, by rw [h.2]; exact hSφ z⟩))
    clear hSφ hφ
    repeat (go_big_quiet_step ((go_at_call 25; with_reducible exact C1.out _)))
    refine wpQuiet_nil ?_
    intro z
    go_wp2
    go_ret
    exact ⟨by rw [HRES.out]; rfl, (HSZ.out z).2⟩
end Go.Proofs.YtnhecallffkedabDoor
