/-
  Layer 7: the law's fixed fact; a slice of one text, of three.
-/
import Derived.Test.YtabhdjahdhhgiaaDoorTreeM
namespace Go.Proofs.YtabhdjahdhhgiaaDoor
open Go.RowKit
open Go.Lib (hid)

theorem strs_three (w : World) (x y z : List Nat) (t : TypeId) : Strs (w.alloc (.cells #[.string (str x), .string (str y), .string (str z)] t)) (some ⟨w.heap.size, 0, none⟩) [x, y, z] := by
  intro i hi
  obtain rfl | rfl | rfl : i = 0 ∨ i = 1 ∨ i = 2 := by simp at hi; omega
  · exact ⟨_, _, rfl, cell_of_row _ _ _ _ _ _ (heap_alloc_new _ _)⟩
  · exact ⟨_, _, rfl, cell_of_row _ _ _ _ _ _ (heap_alloc_new _ _)⟩
  · exact ⟨_, _, rfl, cell_of_row _ _ _ _ _ _ (heap_alloc_new _ _)⟩
theorem of_three (x y z : List Nat) (hx : ∀ u ∈ x, u < 256) (hy : ∀ u ∈ y, u < 256) (hz : ∀ u ∈ z, u < 256) (hl : x.length + y.length + z.length ≤ 100000000000) (w : World) (hT : Tabs w) (t : TypeId) :
    Calls Tryd.prog 23 #[.slice (some ⟨w.heap.size, 0, none⟩) 3 3] (w.alloc (.cells #[.string (str x), .string (str y), .string (str z)] t)) fun e w' => e = .returned (.agg (ints .u8 (Sx.digest (x ++ (y ++ z))))) ∧ Below w.heap.size w w' := by
  have h := of_any [x, y, z] (some ⟨w.heap.size, 0, none⟩) 3 (by
    simp only [List.flatten_cons, List.flatten_nil, List.append_nil, List.mem_append]
    rintro u (hu | hu | hu)
    · exact hx u hu
    · exact hy u hu
    · exact hz u hu) (w.alloc (.cells #[.string (str x), .string (str y), .string (str z)] t)) (hT.below ((Below.refl _ _).alloc (Nat.le_refl _) _) (Nat.le_refl _)) (strs_three w x y z t) (by simp; omega) (by simp)
  simp only [List.flatten_cons, List.flatten_nil, List.append_nil] at h
  exact h.mono fun e w' ⟨he, hb⟩ => ⟨he, ((Below.refl _ _).alloc (Nat.le_refl _) _).trans (hb.mono (by simp))⟩
theorem root_one (d : Int) (x : List Nat) (hx : ∀ y ∈ x, y < 256) (hl : x.length ≤ 1000000) (w : World) (hT : Tabs w) (t : TypeId) :
    Calls Tryd.prog 11 #[.int .i64 d, .slice (some ⟨w.heap.size, 0, none⟩) 1 1] (w.alloc (.cells #[.string (str x)] t)) fun e w' => e = .returned (.agg (ints .u8 (Tx.root (Tx.limit d) [x]))) ∧ Below w.heap.size w w' := by
  have h := root_any d (some ⟨w.heap.size, 0, none⟩) [x] 1 (by simp) (by simp) (by simp) (by simpa using hx) (by simpa using hl) (w.alloc (.cells #[.string (str x)] t)) (hT.below ((Below.refl _ _).alloc (Nat.le_refl _) _) (Nat.le_refl _)) (strs_one w x t)
  exact h.mono fun e w' ⟨he, hb⟩ => ⟨he, ((Below.refl _ _).alloc (Nat.le_refl _) _).trans (hb.mono (by simp))⟩
theorem Tx.root0 (x : List Nat) : Tx.root (Tx.limit 0) [x] = Sx.digest (Tx.leaf x) := rfl
theorem Tx.root1 (x : List Nat) : Tx.root (Tx.limit 1) [x] = Sx.digest ([78] ++ (Sx.digest (Tx.leaf x) ++ Sx.digest (Tx.leaf []))) := by
  show Tx.sumAt 1 [x] 1 0 = _
  rw [Tx.sumAt_succ, Tx.sumAt_leaf 1 [x] _ (by decide), Tx.sumAt_leaf 1 [x] _ (by decide)]
  rfl

set_option maxHeartbeats 1000000 in
set_option maxRecDepth 100000 in
theorem tawake_any (w : World) (hT : Tabs w) :
    Calls Tryd.prog 8 #[] w fun e w' => e = .returned (.bool true) ∧ Below w.heap.size w w' := by
  have HT := hid hT
  clear hT
  have HR0 := hid (fun wx hx => root_one 0 [97] (by decide) (by decide) wx hx 9)
  have HR1 := hid (fun wx hx => root_one 1 [97] (by decide) (by decide) wx hx 9)
  rw [Tx.root0] at HR0
  rw [Tx.root1] at HR1
  have HOA := hid (fun wx hx => of_one (Tx.leaf [97]) (by decide) (by decide) wx hx 9)
  have HOE := hid (fun wx hx => of_one (Tx.leaf []) (by decide) (by decide) wx hx 9)
  have hda := digest_lt (Tx.leaf [97])
  have hla := digest_length (Tx.leaf [97])
  have hde := digest_lt (Tx.leaf [])
  have hle := digest_length (Tx.leaf [])
  have HO3 := hid (fun wx hx => of_three [78] (Sx.digest (Tx.leaf [97])) (Sx.digest (Tx.leaf [])) (by decide) hda hde (by rw [hla, hle]; decide) wx hx 9)
  have HTA := hid (fun wx => text_any (Sx.digest (Tx.leaf [97])) hla wx)
  have HTE := hid (fun wx => text_any (Sx.digest (Tx.leaf [])) hle wx)
  have HHO := hid (fun wx hx => holds_any (Sx.digest (Tx.leaf [97])) hla hda 0 [97] (by decide) (by decide) [] (by simp) (by simp) (by decide) none 0 wx hx ⟨none, 0, rfl, fun i hi => absurd hi (by simp)⟩)
  rw [show Tx.holds (Sx.digest (Tx.leaf [97])) 0 [97] [] = true from by
    have ht : Tx.top 0 [97] [] = Sx.digest (Tx.leaf [97]) := rfl
    simp [Tx.holds, Tx.isPos, ht]] at HHO
  have hd3 := digest_lt ([78] ++ (Sx.digest (Tx.leaf [97]) ++ Sx.digest (Tx.leaf [])))
  have hl3 := digest_length ([78] ++ (Sx.digest (Tx.leaf [97]) ++ Sx.digest (Tx.leaf [])))
  generalize Sx.digest ([78] ++ (Sx.digest (Tx.leaf [97]) ++ Sx.digest (Tx.leaf []))) = D3 at *
  generalize Sx.digest (Tx.leaf [97]) = DA at *
  generalize Sx.digest (Tx.leaf []) = DE at *
  have hea := fun wx => eql_sums wx DA DA hda hda hla hla
  have hDD : (DA == DA) = true := beq_self_eq_true DA
  rw [hDD] at hea
  have he3 := fun wx => eql_sums wx D3 D3 hd3 hd3 hl3 hl3
  have hD3 : (D3 == D3) = true := beq_self_eq_true D3
  rw [hD3] at he3
  clear hDD hD3 hda hla hde hle hd3 hl3
  go_enter Tryd.func8, Tryd.ntmps8
  go_wp2_with fail
  refine (HR0.out w HT.out).mono ?_
  rintro e w1 ⟨rfl, hb1⟩
  have HT1 := hid (HT.out.below hb1 (Nat.le_refl _))
  go_wp2_with fail
  refine (HOA.out w1 HT1.out).mono ?_
  rintro e w2 ⟨rfl, hb2⟩
  have HT2 := hid (HT1.out.below hb2 (Nat.le_refl _))
  go_wp2_with fail
  refine (HR1.out w2 HT2.out).mono ?_
  rintro e w3 ⟨rfl, hb3⟩
  have HT3 := hid (HT2.out.below hb3 (Nat.le_refl _))
  go_wp2_with fail
  refine (HOA.out w3 HT3.out).mono ?_
  rintro e w4 ⟨rfl, hb4⟩
  have HT4 := hid (HT3.out.below hb4 (Nat.le_refl _))
  go_wp2_with fail
  refine (HTA.out w4).mono ?_
  rintro e w5 ⟨rfl, hb5⟩
  have HT5 := hid (HT4.out.below hb5 (Nat.le_refl _))
  go_wp2_with fail
  refine (HOE.out w5 HT5.out).mono ?_
  rintro e w6 ⟨rfl, hb6⟩
  have HT6 := hid (HT5.out.below hb6 (Nat.le_refl _))
  go_wp2_with fail
  refine (HTE.out w6).mono ?_
  rintro e w7 ⟨rfl, hb7⟩
  have HT7 := hid (HT6.out.below hb7 (Nat.le_refl _))
  go_wp2_with fail
  refine (HO3.out w7 HT7.out).mono ?_
  rintro e w8 ⟨rfl, hb8⟩
  have HT8 := hid (HT7.out.below hb8 (Nat.le_refl _))
  go_wp2_with fail
  refine (HOA.out w8 HT8.out).mono ?_
  rintro e w9 ⟨rfl, hb9⟩
  have HT9 := hid (HT8.out.below hb9 (Nat.le_refl _))
  go_wp2_with fail
  refine (HHO.out w9 HT9.out).mono ?_
  rintro e wa ⟨rfl, hba⟩
  go_wp2_with fail
  go_ret
  exact ⟨rfl, ((((((((hb1.next (Nat.le_refl _) hb2).next (Nat.le_refl _) hb3).next (Nat.le_refl _) hb4).next (Nat.le_refl _) hb5).next (Nat.le_refl _) hb6).next (Nat.le_refl _) hb7).next (Nat.le_refl _) hb8).next (Nat.le_refl _) hb9).next (Nat.le_refl _) hba⟩
end Go.Proofs.YtabhdjahdhhgiaaDoor
