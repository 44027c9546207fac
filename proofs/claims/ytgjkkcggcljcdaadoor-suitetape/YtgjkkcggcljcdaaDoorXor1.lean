/-
  Layer 3: the strings.Builder of stream.Xor: what its Write does where the bytes lie behind the builder.
-/
import Derived.Test.YtgjkkcggcljcdaaDoorRef3c
import Derived.Test.YtgjkkcggcljcdaaDoorShelf
import Derived.Shelf.Strings.Builder1
namespace Go.Proofs.YtgjkkcggcljcdaaDoor
open Go.RowKit
open Go.Lib (hid)

/-- A builder that was written or grown, with these bytes. -/
def Bld (w : World) (B b : Nat) (l : List Nat) : Prop := Lib.BuilderAt 120 5 B b (.pointer (some ⟨b, 0, none⟩)) (ints .u8 l).toList w

theorem infoBld : (Tryd.prog.info? 120).map (·.size) = some 2 := by kernel_rfl

set_option maxHeartbeats 1000000 in
set_option maxRecDepth 100000 in
theorem bcheck_any (b : Nat) (w : World) (h0 : w.cell? ⟨b, 0, none⟩ = some (.pointer (some ⟨b, 0, none⟩))) :
    Calls Tryd.prog 65 #[.pointer (some ⟨b, 0, none⟩)] w fun e w' => e = .returned (.tuple #[]) ∧ w' = w := by
  obtain ⟨j, hj, _⟩ := Option.map_eq_some_iff.1 infoBld
  have hq := Lib.run_neq_ptr_same w ⟨b, 0, none⟩ Tryd.underlying118 hj
  go_enter Tryd.func65, Tryd.ntmps65
  go_wp2
  go_end0
  exact ⟨rfl, rfl⟩

theorem neBld : (120 : TypeId) ≠ 5 := by decide

set_option maxHeartbeats 1000000 in
set_option maxRecDepth 100000 in
theorem bwrite_any (B b : Nat) (l : List Nat) (ad : Addr) (m c : Nat) (news : List Nat) (w : World) (h : Bld w B b l)
    (hm : news.length = m) (hnews : ∀ j, j < m → w.cell? (ad.add j) = some (.int .u8 (news.getD j 0 : Nat))) (hlen : l.length + m ≤ 1000000000000) (hBw : B ≤ w.heap.size) :
    Calls Tryd.prog 56 #[.pointer (some ⟨b, 0, none⟩), .slice (some ad) m c] w fun e w' => e = .returned (.tuple #[.int .i64 m, .nilIface]) ∧ Bld w' B b (l ++ news) ∧ Below B w w' := by
  obtain ⟨hB, v, hbk, hown, hne⟩ := h
  rw [ints_llen] at hown
  have hown1 : Own w B v l := hown
  obtain ⟨i, hi, hz0, hz1, hz2⟩ := info_parts info5
  have c0 : w.cell? ⟨b, 0, none⟩ = some (.pointer (some ⟨b, 0, none⟩)) := by rw [Lib.cell_of_heap hbk]; rfl
  have c1 : w.cell? ⟨b, 1, none⟩ = some v := by rw [Lib.cell_of_heap hbk]; rfl
  have HN := hid hnews
  clear hnews
  go_enter Tryd.func56, Tryd.ntmps56
  go_wp2_with (first
    | (go_at_call 65; refine (bcheck_any b _ c0).mono ?_; rintro e w1 ⟨rfl, hw1⟩; obtain rfl : w = w1 := hw1.symm)
    | (refine wpList_append_own _ rfl _ _ 46 rfl B 5 i (.int .u8 0) 1 1 Tryd.underlying46 hi hz0 hz1 hz2 rfl (by decide) v l.length _ rfl hown ad m c (ints .u8 news).toList rfl (by rw [ints_llen]; omega) ?c1 ?c2 (by unfold maxLen; omega) (by omega) hBw ?_))
  case c1 =>
    intro j u hj
    have hlt : j < news.length := by have := (List.getElem?_eq_some_iff.1 hj).1; rwa [ints_llen] at this
    rw [HN.out j (by omega)]
    rw [Array.getElem?_toList, ints_get _ _ _ hlt] at hj
    exact hj
  case c2 =>
    intro u hu
    simp only [ints, List.mem_map] at hu
    obtain ⟨y, _, rfl⟩ := hu
    rfl
  intro v' w2 hown' hgrow _
  have hlt : b < w.heap.size := (Array.getElem?_eq_some_iff.1 hbk).1
  have hb2 : w2.heap[b]? = some (.cells #[.pointer (some ⟨b, 0, none⟩), v] 120 (0, 0)) := by
    rw [hgrow.block b hlt (fun e => hne e.symm)]
    exact hbk
  have d0 : w2.cell? ⟨b, 0, none⟩ = some (.pointer (some ⟨b, 0, none⟩)) := by rw [Lib.cell_of_heap hb2]; rfl
  have d1 : w2.cell? ⟨b, 1, none⟩ = some v := by rw [Lib.cell_of_heap hb2]; rfl
  have f1 : w2.frozen? ⟨b, 1, none⟩ = false := Lib.frozen_of_heap hb2 1
  obtain ⟨ao, n', cap, rfl⟩ : ∃ ao n' cap, v' = .slice ao n' cap := by
    rcases hown'.2 with ⟨hv, _⟩ | ⟨g, cap, cur, hv, _⟩
    · exact ⟨_, _, _, hv⟩
    · exact ⟨_, _, _, hv⟩
  go_wp2
  go_ret2
  refine ⟨rfl, ?_, ?_⟩
  · refine Lib.BuilderAt.put (T := 120) (e := 5) hB hb2 (bs' := (ints .u8 (l ++ news)).toList) ?_ neBld
    have e : (ints .u8 (l ++ news)).toList = (ints .u8 l).toList ++ (ints .u8 news).toList := by simp [ints]
    rw [ints_llen, List.length_append, hm, e]
    exact hown'
  · exact ((Below.refl B w).grown hgrow hBw (fun k hk => (hown.lt k hk).1)).setCell (p := ⟨b, 1, none⟩) hB _

theorem slice_hi (w : World) (t : TypeId) (e : TypeId) (n l : Nat) (b : Nat) (hu : Tryd.prog.underlying t = some (.array n e)) (hl : l ≤ n) (_hn : n ≠ 0) (hs : (Tryd.prog.info? e).map (·.size) = some 1) :
    (Instr.sliceAt t (.pointer (some ⟨b, 0, none⟩)) none (some (.int .i64 (l : Int))) none).run Tryd.prog w = .ok (.slice (some ⟨b, 0, none⟩) l n) w := by
  obtain ⟨f, hf, _⟩ := Option.map_eq_some_iff.1 hs
  have h0 : (0 : Int) ≤ (l : Int) := by omega
  have h1 : (l : Int) ≤ (n : Int) := by omega
  have hb := run_sliceBound (P := Tryd.prog) w .i64 (l : Int) n .sliceAlen h0 h1
  have h4 : (⟨b, 0, none⟩ : Addr).add 0 = ⟨b, 0, none⟩ := by rw [Addr.add_mid]
  simp [Instr.sliceAt, Instr.sureAddr, run_underlying hu, Instr.sliceBounds, hb, sizeOf, typeInfo, hf, h4]
theorem byteCells_ints (l : List Nat) (h : ∀ x ∈ l, x < 256) : (ints .u8 l).toList = Lib.byteCells (l.map UInt8.ofNat) := by
  unfold ints Lib.byteCells
  simp only [List.map_map]
  apply List.map_congr_left
  intro x hx
  have := h x hx
  simp [Nat.mod_eq_of_lt this]

namespace Cx
/-- The row of a block whose first k numbers are those of T. -/
def mixd (T blk : List Nat) (k : Nat) : List Nat := T.take k ++ blk.drop k
theorem mixd_zero (T blk : List Nat) : mixd T blk 0 = blk := by simp [mixd]
theorem mixd_length (T blk : List Nat) (k : Nat) (h1 : k ≤ T.length) (h2 : k ≤ blk.length) : (mixd T blk k).length = blk.length := by simp [mixd]; omega
theorem mixd_get (T blk : List Nat) (k : Nat) (h1 : k ≤ T.length) : (mixd T blk k).getD k 0 = blk.getD k 0 := by
  unfold mixd
  rw [List.getD_eq_getElem?_getD, List.getElem?_append_right (by simp; omega), List.getD_eq_getElem?_getD, List.getElem?_drop, List.length_take, Nat.min_eq_left h1]
  simp
theorem mixd_set (T blk : List Nat) (k : Nat) (h1 : k < T.length) (h2 : k < blk.length) : (mixd T blk k).set k (T.getD k 0) = mixd T blk (k + 1) := by
  unfold mixd
  rw [List.set_append_right _ _ (by simp; omega), List.length_take, Nat.min_eq_left (by omega), Nat.sub_self, List.drop_eq_getElem_cons h2, List.set_cons_zero, ← take_getD_succ T k h1]
  simp
theorem mixd_take (T blk : List Nat) (k j : Nat) (h1 : k ≤ T.length) (hj : j < k) : (mixd T blk k).getD j 0 = T.getD j 0 := by
  unfold mixd
  rw [List.getD_eq_getElem?_getD, List.getElem?_append_left (by simp; omega), List.getElem?_take_of_lt hj, List.getD_eq_getElem?_getD]
theorem xors_drop (key nonce s : List Nat) (c q j : Nat) (hj : j < 64) (h : 64 * q + j < s.length) :
    ((xors key c nonce s).drop (64 * q)).getD j 0 = (s.drop (64 * q)).getD j 0 ^^^ (block key ((c + q) % Sx.M) nonce).getD j 0 := by
  have e1 : ((xors key c nonce s).drop (64 * q)).getD j 0 = (xors key c nonce s).getD (64 * q + j) 0 := by simp [List.getD_eq_getElem?_getD]
  have e2 : (s.drop (64 * q)).getD j 0 = s.getD (64 * q + j) 0 := by simp [List.getD_eq_getElem?_getD]
  rw [e1, e2, xors_get _ _ _ _ _ h]
  unfold xorB
  rw [show (64 * q + j) / 64 = q from by omega, show (64 * q + j) % 64 = j from by omega]
end Cx
end Go.Proofs.YtgjkkcggcljcdaaDoor
