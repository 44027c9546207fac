/-
  Layer 9, law DiskEvicts: the pure side.
-/
import Derived.Test.YtkhkpcigjpibiaaDk17
namespace Go.Proofs.Ytkhkpcigjpibiaa
open Go.ChangeShapes Go.WideShapes Go.ChangeAt Go.RowKit Go.Shelf
open Go.Lib (hid)

namespace Dv
/-- The write that an act asks for. -/
def opOf (a : A) : O := (1, a.p.toNat, a.t)
def put (P : List ByteArray) (q : O) : List ByteArray := P.set q.2.1 q.2.2
/-- What an evicting disk is behind these writes. -/
structure Evs (np cc : Nat) (L : List A) (D : D) : Prop where
  q : D.Q = (L.map opOf).drop (L.length - cc)
  p : D.P = ((L.map opOf).take (L.length - cc)).foldl put (List.replicate np zs)
  cap : D.cap = cc
  left : D.left = -1
  cr : D.crashed = false
  steps : D.steps = L.length
  view : D.view.length = L.length
  mask : D.mask = 0
theorem foldl_put_length (l : List O) (P : List ByteArray) : (l.foldl put P).length = P.length := by
  induction l generalizing P with
  | nil => rfl
  | cons q l ih => rw [List.foldl_cons, ih]; simp [put]
theorem Evs.len {np cc : Nat} {L : List A} {D : D} (h : Evs np cc L D) : D.P.length = np := by rw [h.p, foldl_put_length]; simp
theorem Evs.new (np cc pc : Nat) : Evs np cc [] (new np cc pc) := ⟨by simp [Dv.new], by simp [Dv.new], rfl, rfl, rfl, rfl, rfl, rfl⟩
theorem Evs.fit {np cc : Nat} {L : List A} {D : D} (h : Evs np cc L D) (hL : L.length < 4000) : Fit D := ⟨by rw [h.mask]; decide, by rw [h.left]; decide, by rw [h.steps]; exact hL, by rw [h.view, h.steps]⟩
theorem Evs.write {np cc : Nat} {L : List A} {D : D} (h : Evs np cc L D) (hc : 0 < cc) (a : A) (p : Nat) (hp : a.p = p) (hpn : p < np) (hs : a.t.size = 256) :
    (Dv.write D a.p a.t).2 = 0 ∧ Evs np cc (L ++ [a]) (Dv.write D a.p a.t).1 := by
  have h0 : Dv.refuses D a.p = 0 := by
    unfold Dv.refuses
    rw [h.cr, if_neg (by simp), if_pos]
    rw [hp, h.len]
    omega
  have hst : Dv.step D (1, a.p.toNat, a.t) = ({ D with view := D.view ++ [opOf a], steps := D.steps + 1 }, true) := by
    unfold Dv.step
    rw [h.left, if_neg (by decide)]
    rw [if_neg (by decide)]
    rw [← h.left]
    rfl
  have hw : Dv.write D a.p a.t = (add { D with view := D.view ++ [opOf a], steps := D.steps + 1 } (opOf a), 0) := by
    unfold Dv.write
    rw [h0, if_neg (by simp), if_neg (by simp [hs]), hst, if_neg (by simp)]
    rfl
  rw [hw]
  refine ⟨rfl, ?_⟩
  have hq := h.q
  have hp := h.p
  have hlen : D.Q.length = min L.length cc := by
    rw [hq, List.length_drop, List.length_map, Nat.min_def]
    split <;> omega
  by_cases hr : L.length < cc
  · have hD : add { D with view := D.view ++ [opOf a], steps := D.steps + 1 } (opOf a) = { D with view := D.view ++ [opOf a], steps := D.steps + 1, Q := D.Q ++ [opOf a] } := by
      unfold add
      rw [if_pos (by simp only; rw [hlen, h.cap]; omega)]
    rw [hD]
    refine ⟨?_, ?_, h.cap, h.left, h.cr, by simp [h.steps], by simp [h.view], h.mask⟩
    · simp only
      rw [hq, List.map_append, List.length_append, List.length_singleton, show L.length - cc = 0 from by omega, show L.length + 1 - cc = 0 from by omega]
      rfl
    · simp only
      rw [hp, List.length_append, List.length_singleton, show L.length - cc = 0 from by omega, show L.length + 1 - cc = 0 from by omega]
      rfl
  · obtain ⟨z, hz⟩ : ∃ z, L.length = cc + z := ⟨L.length - cc, by omega⟩
    have hzl : z < (L.map opOf).length := by rw [List.length_map]; omega
    have hq2 : D.Q = (L.map opOf)[z] :: (L.map opOf).drop (z + 1) := by
      rw [hq, show L.length - cc = z from by omega, List.drop_eq_getElem_cons hzl]
    have hD : add { D with view := D.view ++ [opOf a], steps := D.steps + 1 } (opOf a) = { D with view := D.view ++ [opOf a], steps := D.steps + 1, P := put D.P (L.map opOf)[z], Q := (L.map opOf).drop (z + 1) ++ [opOf a] } := by
      unfold add
      rw [if_neg (by simp only; rw [hlen, h.cap]; omega)]
      simp only [hq2]
      rfl
    rw [hD]
    refine ⟨?_, ?_, h.cap, h.left, h.cr, by simp [h.steps], by simp [h.view], h.mask⟩
    · simp only
      rw [List.map_append, List.length_append, List.length_singleton, show L.length + 1 - cc = z + 1 from by omega, List.drop_append_of_le_length (by omega)]
      rfl
    · simp only
      rw [hp, List.map_append, List.length_append, List.length_singleton, show L.length + 1 - cc = z + 1 from by omega, show L.length - cc = z from by omega, List.take_append_of_le_length (by omega), List.take_succ_eq_append_getElem hzl, List.foldl_append]
      rfl
theorem Evs.cached {np cc : Nat} {L : List A} {D : D} (h : Evs np cc L D) : D.Q.length = min L.length cc := by
  rw [h.q, List.length_drop, List.length_map, Nat.min_def]
  split <;> omega
end Dv
theorem Dv.page_nil : Dv.page ByteArray.empty = Dv.zs := by
  unfold Dv.page Dv.zs Dv.pk
  rw [if_pos (by rfl)]
  decide +kernel
end Go.Proofs.Ytkhkpcigjpibiaa
