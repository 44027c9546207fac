/-
  For every list of texts: added at once, one by one, or as one text, they have one sum and as many bytes (law ShaAdds); without conditions.
-/
import Derived.Test.YtgjkkcggcljcdaaDoorBase
import Derived.Test.YtgjkkcggcljcdaaDoorShaCut
namespace Go.Proofs.YtgjkkcggcljcdaaDoor
open Go.ChangeShapes Go.WideShapes Go.ChangeAt Go.RowKit
open Go.Lib (hid)

theorem Stt.below {w w' : World} {b : Nat} {t : List Nat} (h : Stt w b t) (hb : Below w.heap.size w w') : Stt w' b t := by
  obtain ⟨a, r, hh, hv⟩ := h
  exact ⟨a, r, by rw [hb.block b (Array.getElem?_eq_some_iff.1 hh).1]; exact hh, hv⟩
theorem Stt.keptB {w w' : World} {b c : Nat} {t : List Nat} (h : Stt w b t) (hk : KeptB c w w') (hne : b ≠ c) : Stt w' b t := by
  obtain ⟨a, r, hh, hv⟩ := h
  exact ⟨a, r, by rw [hk.block b (Array.getElem?_eq_some_iff.1 hh).1 hne]; exact hh, hv⟩
theorem Stt.lt {w : World} {b : Nat} {t : List Nat} (h : Stt w b t) : b < w.heap.size := by
  obtain ⟨a, r, hh, hv⟩ := h
  exact (Array.getElem?_eq_some_iff.1 hh).1

/-- Add of one text. -/
theorem add_one (b : Nat) (t x : List Nat) (hx : ∀ y ∈ x, y < 256) (hl : t.length + x.length ≤ 100000000000) (w : World) (hT : Tabs w) (hb : 2 < b ∧ 3 < b) (hS : Stt w b t) (ty : TypeId) :
    Calls Tryd.prog 46 #[.pointer (some ⟨b, 0, none⟩), .slice (some ⟨w.heap.size, 0, none⟩) 1 1] (w.alloc (.cells #[.string (str x)] ty))
      fun e w' => e = .returned (.pointer (some ⟨b, 0, none⟩)) ∧ Stt w' b (t ++ x) ∧ KeptB b w w' := by
  have hb0 : Below w.heap.size w (w.alloc (.cells #[.string (str x)] ty)) := (Below.refl _ _).alloc (Nat.le_refl _) _
  have h := add_any b t [x] (some ⟨w.heap.size, 0, none⟩) 1 (by simpa using hx) _ (hT.below hb0 (Nat.le_refl _)) hb (hS.below hb0) (strs_one w x ty) (by simp; omega) (by simp)
  simp only [List.flatten_cons, List.flatten_nil, List.append_nil] at h
  exact h.mono fun e w' ⟨he, hs, hk⟩ => ⟨he, hs, (KeptB.of_below hb0).trans hk⟩

namespace ShaAdds
end ShaAdds
end Go.Proofs.YtgjkkcggcljcdaaDoor
