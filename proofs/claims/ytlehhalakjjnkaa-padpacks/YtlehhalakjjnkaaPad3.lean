/-
  Layer 12: what Unpack returns.
-/
import Derived.Test.YtlehhalakjjnkaaPad2
import Derived.Test.YtlehhalakjjnkaaShelf
namespace Go.Proofs.Ytlehhalakjjnkaa
open Go.RowKit
open Go.Lib (hid)

theorem str_inj {l r : List Nat} (hl : ∀ x ∈ l, x < 256) (hr : ∀ x ∈ r, x < 256) (h : str l = str r) : l = r := by
  rw [← nums_str l hl, h, nums_str r hr]
theorem map_str_inj : ∀ {A B : List (List Nat)}, (∀ x ∈ A.flatten, x < 256) → (∀ x ∈ B.flatten, x < 256) → A.map str = B.map str → A = B
  | [], [], _, _, _ => rfl
  | [], _ :: _, _, _, h => by simp at h
  | _ :: _, [], _, _, h => by simp at h
  | a :: A, b :: B, ha, hb, h => by
    simp only [List.map_cons, List.cons.injEq] at h
    rw [str_inj (fun x hx => ha x (by simp [hx])) (fun x hx => hb x (by simp [hx])) h.1, map_str_inj (fun x hx => ha x (List.mem_append_right _ hx)) (fun x hx => hb x (List.mem_append_right _ hx)) h.2]
theorem inter_nil' : ∀ xs : List (List UInt8), ([] : List UInt8).intercalate xs = xs.flatten
  | [] => rfl
  | [a] => by simp [List.intercalate]
  | a :: b :: l => by
    have h := inter_nil' (b :: l)
    simp only [List.intercalate, List.intersperse] at h ⊢
    simp only [List.flatten_cons, List.nil_append] at h ⊢
    rw [h]
theorem Strs.cell {w : World} {b o : Nat} {L : List (List Nat)} (hA : Strs w (some ⟨b, o, none⟩) L) (j : Nat) (hlt : j < L.length) : w.cell? ⟨b, o + j, none⟩ = some (.string (str (L.getD j []))) := by
  obtain ⟨sb, s2, ha, hc⟩ := hA j hlt
  injection ha with ha
  injection ha with h1 h2 _
  subst h1 h2
  exact hc
/-- The texts, one behind the other. -/
theorem join_any (ao : Option Addr) (L : List (List Nat)) (cap : Nat) (w : World) (hA : Strs w ao L) (hcap : L.length ≤ cap) (hL : L.length ≤ 1000000) (hl : L.flatten.length ≤ 100000000) :
    Calls Try.prog 22 #[.slice ao L.length cap, .string ⟨#[]⟩] w fun e w' => e = .returned (.string (str L.flatten)) ∧ Below w.heap.size w w' := by
  by_cases h0 : L.length = 0
  · obtain rfl : L = [] := List.eq_nil_of_length_eq_zero h0
    refine (Try.strings_Join_none ao cap ⟨#[]⟩ w).mono ?_
    rintro e w' ⟨rfl, hw⟩
    exact ⟨rfl, by rw [hw]; exact Below.refl _ _⟩
  · obtain ⟨bk, so, rfl, hc0⟩ := hA 0 (by omega)
    have hj : Lib.join ((L.map str).map (·.data.toList)) (⟨#[]⟩ : ByteArray).data.toList = L.flatten.map UInt8.ofNat := by
      unfold Lib.join
      rw [List.map_map, List.map_flatten]
      exact inter_nil' _
    have HJ := Try.strings_Join bk so cap (L.map str) (⟨#[]⟩ : ByteArray) w (fun j y hy => by
      have hlt : j < L.length := by have := (List.getElem?_eq_some_iff.1 hy).1; rwa [List.length_map] at this
      rw [hA.cell j hlt]
      rw [List.getElem?_map, List.getElem?_eq_getElem hlt] at hy
      rw [List.getD_eq_getElem?_getD, List.getElem?_eq_getElem hlt]
      simpa using hy) (block_lt_of_cell hc0) (by rw [List.length_map]; omega) (by rw [List.length_map]; omega) (by rw [hj, List.length_map]; omega)
    rw [hj, List.length_map, show (⟨(L.flatten.map UInt8.ofNat).toArray⟩ : ByteArray) = str L.flatten from rfl] at HJ
    exact HJ
/-- Are these the same texts? -/
theorem same_any (a1 : Option Addr) (A : List (List Nat)) (c1 : Nat) (a2 : Option Addr) (B : List (List Nat)) (c2 : Nat) (w : World) (hA : Strs w a1 A) (hB : Strs w a2 B) (ha : ∀ x ∈ A.flatten, x < 256) (hb : ∀ x ∈ B.flatten, x < 256) (hla : A.length ≤ 1000000) (hlb : B.length ≤ 1000000) :
    Calls Try.prog 24 #[.slice a1 A.length c1, .slice a2 B.length c2] w fun e w' => e = .returned (.bool (A == B)) ∧ Below w.heap.size w w' := by
  by_cases hn : A.length = B.length
  · by_cases h0 : A.length = 0
    · obtain rfl : A = [] := List.eq_nil_of_length_eq_zero h0
      obtain rfl : B = [] := List.eq_nil_of_length_eq_zero hn.symm
      refine (Try.slices_Equal_string_empty a1 a2 c1 0 c2 w (by omega)).mono ?_
      rintro e w' ⟨rfl, hw⟩
      exact ⟨rfl, by rw [hw]; exact Below.refl _ _⟩
    · obtain ⟨b1, o1, rfl, _⟩ := hA 0 (by omega)
      obtain ⟨b2, o2, rfl, _⟩ := hB 0 (by omega)
      have hg : ∀ (L : List (List Nat)) (j : Nat), j < L.length → (L.map str).getD j ByteArray.empty = str (L.getD j []) := fun L j hj => by
        simp only [List.getD_eq_getElem?_getD, List.getElem?_map, List.getElem?_eq_getElem hj]; rfl
      refine (Try.slices_Equal_string b1 o1 A.length c1 b2 o2 B.length c2 (A.map str) (B.map str) w (by simp) (by simp) (by omega) (by omega)
        (fun j hj => by rw [List.length_map] at hj; rw [hA.cell j hj, hg A j hj]) (fun j hj => by rw [List.length_map] at hj; rw [hB.cell j hj, hg B j hj])).mono ?_
      rintro e w' ⟨rfl, q, hw⟩
      refine ⟨?_, by rw [hw]; exact ⟨rfl, rfl, rfl, Nat.le_refl _, fun _ _ => rfl⟩⟩
      rw [List.take_of_length_le (by simp), List.take_of_length_le (by simp)]
      congr 2
      rw [Bool.eq_iff_iff]
      simp only [decide_eq_true_eq, beq_iff_eq]
      exact ⟨map_str_inj ha hb, fun h => by rw [h]⟩
  · refine (Try.slices_Equal_string_lens a1 a2 A.length c1 B.length c2 w hn).mono ?_
    rintro e w' ⟨rfl, hw⟩
    refine ⟨?_, by rw [hw]; exact Below.refl _ _⟩
    congr 2
    exact (beq_eq_false_iff_ne.2 fun h => hn (by rw [h])).symm

theorem Pd.un_lt (L : List (List Nat)) (h : ∀ x ∈ L.flatten, x < 256) : ∀ x ∈ Pd.un L, x < 256 := (Wx.itext_lt _ 0 h).2
theorem Pd.un_le (L : List (List Nat)) : (Pd.un L).length ≤ L.flatten.length := by
  have hr : ∀ (s : List Nat) (e n : Int), (Wx.iraw s e n).2.length ≤ s.length ∧ (Wx.iraw s e n).1.1.length ≤ s.length := by
    intro s e n
    unfold Wx.iraw Wx.ifail
    split
    · split <;> simp
    · simp only [List.length_take, List.length_drop]; omega
  have hn : ∀ (s : List Nat) (e : Int), (Wx.inum s e).1.1.length ≤ s.length := by
    intro s e
    have := (hr s e 8).2
    unfold Wx.inum Wx.ifail
    repeat' split
    all_goals simp_all
  unfold Pd.un
  rw [itext_eq]
  exact Nat.le_trans (hr _ _ _).1 (hn _ _)

namespace Pd
/-- What Unpack tells. -/
def out (L : List (List Nat)) : List Nat := if uok L = true then un L else []
theorem out_lt (L : List (List Nat)) (h : ∀ x ∈ L.flatten, x < 256) : ∀ x ∈ out L, x < 256 := by
  unfold out
  split
  · exact un_lt L h
  · simp
theorem out_pages (t : List Nat) (h : 0 < cls t.length) : out (pages t) = t := by
  unfold out
  rw [uok_pages t h, if_pos rfl, un_pages t h]
end Pd

set_option maxHeartbeats 2000000 in
set_option maxRecDepth 100000 in
theorem unpack_any (ao : Option Addr) (L : List (List Nat)) (cap : Nat) (w : World) (hA : Strs w ao L) (hcap : L.length ≤ cap) (hL : L.length ≤ 1000) (hb : ∀ x ∈ L.flatten, x < 256) (hl : L.flatten.length ≤ 900000) :
    Calls Try.prog 12 #[.slice ao L.length cap] w fun e w' => e = .returned (.tuple #[.string (str (Pd.out L)), .bool (Pd.uok L)]) ∧ Below w.heap.size w w' := by
  have HJ := hid (fun wx hx => join_any ao L cap wx hx hcap (by omega) (by omega))
  have HTX := hid (fun b wx hx => itext_any b L.flatten 0 wx hx hb)
  have HPK := hid (fun wx => pack_any (Pd.un L) (Pd.un_lt L hb) (Nat.le_trans (Pd.un_le L) hl) wx)
  have HEQ := hid (fun a1 c1 wx hx hy => same_any a1 (Pd.pages (Pd.un L)) c1 ao L cap wx hx hy (Pd.pages_lt _ (Pd.un_lt L hb)) hb (by rw [Pd.pages_length]; exact Nat.le_trans (Pd.cls_le _) (by omega)) (by omega))
  have HU : Hid (Pd.uok L = (decide (0 < Pd.cls (Pd.un L).length) && (Pd.pages (Pd.un L) == L))) := rfl
  have HOT : Hid (Pd.out L = if Pd.uok L = true then Pd.un L else []) := rfl
  have HA := hid hA
  rw [show (Wx.itext L.flatten 0).2 = Pd.un L from rfl] at HTX
  have HPL := hid (Pd.pages_length (Pd.un L))
  clear hA hb hl hcap
  go_enter Try.func12, Try.ntmps12
  go_wp2_with fail
  refine (HJ.out _ HA.out).mono ?_
  rintro e w1 ⟨rfl, hb1⟩
  go_wp2_with fail
  refine (wof_any _ _).mono ?_
  rintro e w2 ⟨rfl, hw2⟩
  have HI2 := hid (show InAt w2 w1.heap.size (L.flatten, 0) from by rw [hw2]; exact heap_alloc_new _ _)
  have HB2 := hid (show Below w.heap.size w w2 from by rw [hw2]; exact hb1.alloc hb1.size _)
  have hs1 := hb1.size
  clear hw2 hb1
  go_wp2_with fail
  refine (HTX.out _ _ HI2.out).mono ?_
  rintro e w3 ⟨rfl, hi3, hk3⟩
  have HB3 := hid (HB2.out.trans (hk3.below hs1 HB2.out.size))
  clear hi3 hk3 HI2 HB2 HJ HTX
  generalize hun : Pd.un L = u at *
  go_wp2_with fail
  refine (HPK.out _).mono ?_
  rintro e w4 ⟨v, rfl, hown4, hb4⟩
  have HB4 := hid (HB3.out.trans (hb4.mono HB3.out.size))
  obtain ⟨a4, c4, hv4, hst4⟩ := hown4.strs
  have HS4 := hid hst4
  have HA4 := hid (HA.out.below HB4.out)
  clear hb4 hown4 HB3 hst4 HPK HA
  subst hv4
  generalize hdd : decide (0 < Pd.cls u.length) = dd at *
  cases dd with
  | false =>
    go_wp2
    go_ret2
    rw [HU.out] at HOT
    exact ⟨by rw [HOT.out, HU.out]; rfl, HB4.out⟩
  | true =>
    rw [Bool.true_and] at HU
    rw [HU.out] at HOT
    go_wp2_with fail
    refine (HEQ.out _ _ _ HS4.out HA4.out).mono ?_
    rintro e w5 ⟨rfl, hb5⟩
    have HB5 := hid (HB4.out.trans (hb5.mono HB4.out.size))
    clear hb5 HB4 HS4 HA4 HEQ
    generalize (Pd.pages u == L) = q at *
    cases q with
    | false =>
      go_wp2
      go_ret2
      exact ⟨by rw [HOT.out, HU.out]; rfl, HB5.out⟩
    | true =>
      go_wp2
      go_ret2
      exact ⟨by rw [HOT.out, HU.out]; rfl, HB5.out⟩
end Go.Proofs.Ytlehhalakjjnkaa
