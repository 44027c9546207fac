/-
  The reference of layer 3: what sealwaxref03.left, number and quarter do.
-/
import Derived.Test.YtgjkkcggcljcdaaDoorStr4
namespace Go.Proofs.YtgjkkcggcljcdaaDoor
open Go.RowKit
open Go.Lib (hid)

namespace Cx
theorem rotl_mod (x n : Nat) (hn : n ≤ 32) : x * 2 ^ n % Sx.M = x % 2 ^ (32 - n) * 2 ^ n := by
  have hp : 2 ^ (32 - n) * 2 ^ n = Sx.M := by rw [← Nat.pow_add, show 32 - n + n = 32 from by omega]; rfl
  rw [← hp, Nat.mul_mod_mul_right]
theorem rotl_succ (x n : Nat) (hn : n ≤ 31) (hx : x < Sx.M) : rotl x (n + 1) = 2 * rotl x n % 4294967296 + rotl x n / 2147483648 := by
  have e1 : rotl x (n + 1) = x % 2 ^ (31 - n) * 2 ^ (n + 1) + x / 2 ^ (31 - n) := by
    unfold rotl; rw [rotl_mod x (n + 1) (by omega), show 32 - (n + 1) = 31 - n from by omega]
  have e2 : rotl x n = x % 2 ^ (32 - n) * 2 ^ n + x / 2 ^ (32 - n) := by unfold rotl; rw [rotl_mod x n (by omega)]
  have hP : 2 ^ (32 - n) = 2 ^ (31 - n) * 2 := by rw [← Nat.pow_succ, show (31 - n).succ = 32 - n from by omega]
  have hQ : 2 ^ (31 - n) * 2 ^ n = 2147483648 := by rw [← Nat.pow_add, show 31 - n + n = 31 from by omega]
  have hPp : 0 < 2 ^ (31 - n) := Nat.pow_pos (by omega)
  have hQp : 0 < 2 ^ n := Nat.pow_pos (by omega)
  rw [e1, e2, hP, Nat.mod_mul, ← Nat.div_div_eq_div_mul, Nat.pow_succ]
  have hr0 : x % 2 ^ (31 - n) + 1 ≤ 2 ^ (31 - n) := Nat.mod_lt _ hPp
  have hA : (x % 2 ^ (31 - n) + 1) * 2 ^ n ≤ 2147483648 := by rw [← hQ]; exact Nat.mul_le_mul_right _ hr0
  have hu : x / 2 ^ (31 - n) < 2 * 2 ^ n := by
    apply Nat.div_lt_of_lt_mul
    rw [Nat.mul_comm 2, ← Nat.mul_assoc, hQ]; exact hx
  have hm : (x % 2 ^ (31 - n) + 2 ^ (31 - n) * (x / 2 ^ (31 - n) % 2)) * 2 ^ n = x % 2 ^ (31 - n) * 2 ^ n + x / 2 ^ (31 - n) % 2 * 2147483648 := by
    rw [Nat.add_mul, Nat.mul_right_comm, hQ, Nat.mul_comm 2147483648]
  rw [hm, ← Nat.mul_assoc]
  rw [Nat.add_mul, Nat.one_mul] at hA
  generalize x % 2 ^ (31 - n) * 2 ^ n = A at *
  generalize x / 2 ^ (31 - n) = u at *
  generalize 2 ^ n = q at *
  omega
end Cx

/-- A block's first cells are these numbers. -/
def Pre (w : World) (b : Nat) (k : IntKind) (t : TypeId) (l : List Nat) : Prop := ∃ r : Array Value, w.heap[b]? = some (.cells (ints k l ++ r) t (0, 0))
theorem Pre.cell {w : World} {b : Nat} {k : IntKind} {t : TypeId} {l : List Nat} (h : Pre w b k t l) (i : Nat) (hi : i < l.length) : w.cell? ⟨b, i, none⟩ = some (.int k (l.getD i 0 : Nat)) := by
  obtain ⟨r, h⟩ := h
  rw [cell_of_row w b i _ _ _ h, Array.getElem?_append_left (by rw [ints_size]; exact hi), ints_get k l i hi]
theorem Pre.free {w : World} {b : Nat} {k : IntKind} {t : TypeId} {l : List Nat} (h : Pre w b k t l) (i : Nat) : w.frozen? ⟨b, i, none⟩ = false := by
  obtain ⟨r, h⟩ := h
  exact frozen_of_row w b i _ _ h
theorem Pre.set {w : World} {b : Nat} {k : IntKind} {t : TypeId} {l : List Nat} (h : Pre w b k t l) (i n : Nat) (hi : i < l.length) : Pre (w.setCell ⟨b, i, none⟩ (.int k (n : Int))) b k t (l.set i n) := by
  obtain ⟨r, h⟩ := h
  refine ⟨r, ?_⟩
  rw [heap_setCell_same w b i _ t _ h, Array.setIfInBounds_append_left (by rw [ints_size]; exact hi), ints_set]
theorem Pre.set_other {w : World} {b : Nat} {k : IntKind} {t : TypeId} {l : List Nat} (h : Pre w b k t l) (a : Addr) (v : Value) (hb : b ≠ a.block) : Pre (w.setCell a v) b k t l := by
  obtain ⟨r, h⟩ := h
  exact ⟨r, by rw [heap_setCell_other w a b v hb]; exact h⟩
theorem Pre.lt {w : World} {b : Nat} {k : IntKind} {t : TypeId} {l : List Nat} (h : Pre w b k t l) : b < w.heap.size := by
  obtain ⟨r, h⟩ := h
  exact (Array.getElem?_eq_some_iff.1 h).1
theorem Pre.below {w w' : World} {B b : Nat} {k : IntKind} {t : TypeId} {l : List Nat} (h : Pre w b k t l) (hb : Below B w w') (hlt : b < B) : Pre w' b k t l := by
  obtain ⟨r, h⟩ := h
  exact ⟨r, by rw [hb.block b hlt]; exact h⟩
theorem Pre.keptB {w w' : World} {c b : Nat} {k : IntKind} {t : TypeId} {l : List Nat} (h : Pre w b k t l) (hk : KeptB c w w') (hb : b ≠ c) : Pre w' b k t l := by
  have hlt := h.lt
  obtain ⟨r, h⟩ := h
  exact ⟨r, by rw [hk.block b hlt hb]; exact h⟩
theorem Pre.alloc {w : World} {b : Nat} {k : IntKind} {t : TypeId} {l : List Nat} (h : Pre w b k t l) (o : Obj) : Pre (w.alloc o) b k t l := by
  have hlt := h.lt
  obtain ⟨r, h⟩ := h
  exact ⟨r, by rw [Below.heap_alloc w o b hlt]; exact h⟩
theorem OwnI.pre {w : World} {base : Nat} {v : Value} {l : List Nat} (h : OwnI w base v l) (hl : 0 < l.length) :
    ∃ g cap, v = .slice (some ⟨g, 0, none⟩) l.length cap ∧ base ≤ g ∧ Pre w g .i64 3 l := by
  obtain ⟨h1, ⟨hv, h0⟩ | ⟨g, cap, cur, hv, hg, hh, hn, _, hs, hc⟩⟩ := h
  · omega
  · refine ⟨g, cap, hv, hg, (cur.toList.drop l.length).toArray, ?_⟩
    rw [hh]
    congr 2
    apply Array.toList_inj.1
    rw [Array.toList_append, ← hc, Nat.mul_one, List.take_append_drop]
theorem drewN_kept (b : Nat) (w : World) (m : Nat) : KeptB b w (w.drewN m) := ⟨rfl, rfl, rfl, Nat.le_refl _, fun _ _ _ => rfl⟩


end Go.Proofs.YtgjkkcggcljcdaaDoor
