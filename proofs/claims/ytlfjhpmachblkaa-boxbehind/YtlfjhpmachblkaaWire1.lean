/-
  Layer 6: what lies in a wire.Out, and what its add does.
-/
import Derived.Test.YtlfjhpmachblkaaBase
import Derived.Test.YtlfjhpmachblkaaRg2
import Derived.Lib.Builder
namespace Go.Proofs.Ytlfjhpmachblkaa
open Go.RowKit
open Go.Lib (hid)

/-- The parts from a pointer on, the last first. -/
def PartsAt (w : World) : Option Addr → List (List Nat) → Prop
  | none, [] => True
  | some a, t :: l => ∃ b p, a = ⟨b, 0, none⟩ ∧ t ≠ [] ∧ w.heap[b]? = some (.cells #[.pointer p, .string (str t)] 98 (0, 0)) ∧ PartsAt w p l
  | _, _ => False
/-- The Out at block o has written x. -/
def OutAt (w : World) (o : Nat) (x : List Nat) : Prop :=
  ∃ (p : Option Addr) (ts : List (List Nat)), w.heap[o]? = some (.cells #[.pointer p, .int .i64 (x.length : Int)] 84 (0, 0)) ∧ PartsAt w p ts ∧ ts.reverse.flatten = x
theorem nePart : (84 : TypeId) ≠ 98 := by decide
theorem PartsAt.keptB {w w' : World} {o : Nat} {cs : Array Value} {T : TypeId} (hk : KeptB o w w') (hT : T ≠ 98) (ho : w.heap[o]? = some (.cells cs T (0, 0))) :
    ∀ (ts : List (List Nat)) (p : Option Addr), PartsAt w p ts → PartsAt w' p ts
  | [], none, _ => trivial
  | [], some _, h => h.elim
  | _ :: _, none, h => h.elim
  | t :: l, some a, ⟨b, p, ha, hn, hb, hp⟩ => by
    refine ⟨b, p, ha, hn, ?_, PartsAt.keptB hk hT ho l p hp⟩
    rw [hk.block b (Array.getElem?_eq_some_iff.1 hb).1 (fun e => by
      subst e
      rw [ho] at hb
      injection hb with hb
      injection hb with _ h2 _
      exact hT h2)]
    exact hb
theorem PartsAt.below {w w' : World} (hk : Below w.heap.size w w') : ∀ (ts : List (List Nat)) (p : Option Addr), PartsAt w p ts → PartsAt w' p ts
  | [], none, _ => trivial
  | [], some _, h => h.elim
  | _ :: _, none, h => h.elim
  | t :: l, some a, ⟨b, p, ha, hn, hb, hp⟩ => by
    refine ⟨b, p, ha, hn, ?_, PartsAt.below hk l p hp⟩
    rw [hk.block b (Array.getElem?_eq_some_iff.1 hb).1]
    exact hb
theorem OutAt.below {w w' : World} {o : Nat} {x : List Nat} (h : OutAt w o x) (hk : Below w.heap.size w w') : OutAt w' o x := by
  obtain ⟨p, ts, ho, hp, hx⟩ := h
  exact ⟨p, ts, by rw [hk.block o (Array.getElem?_eq_some_iff.1 ho).1]; exact ho, PartsAt.below hk ts p hp, hx⟩
theorem OutAt.lt {w : World} {o : Nat} {x : List Nat} (h : OutAt w o x) : o < w.heap.size := by
  obtain ⟨p, ts, ho, _⟩ := h
  exact (Array.getElem?_eq_some_iff.1 ho).1
/-- An Out that another one's writing leaves alone. -/
theorem OutAt.keptB {w w' : World} {o o2 : Nat} {x y : List Nat} (h : OutAt w o x) (h2 : OutAt w o2 y) (hk : KeptB o2 w w') (hne : o ≠ o2) : OutAt w' o x := by
  obtain ⟨p, ts, ho, hp, hx⟩ := h
  obtain ⟨p2, ts2, ho2, _⟩ := h2
  exact ⟨p, ts, by rw [hk.block o (Array.getElem?_eq_some_iff.1 ho).1 hne]; exact ho, PartsAt.keptB hk nePart ho2 ts p hp, hx⟩
theorem OutAt.zero (w : World) : OutAt (w.alloc (.cells #[.pointer none, .int .i64 0] 84)) w.heap.size [] :=
  ⟨none, [], heap_alloc_new _ _, trivial, rfl⟩

theorem str_ne_nil (c : Nat) (s : List Nat) : (str (c :: s)).toList.isEmpty = false := by
  rw [str_toList]; rfl

set_option maxHeartbeats 1000000 in
set_option maxRecDepth 100000 in
theorem oadd_any (o : Nat) (x s : List Nat) (w : World) (h : OutAt w o x) (hl : x.length + s.length ≤ 1000000000000) :
    Calls Try.prog 52 #[.pointer (some ⟨o, 0, none⟩), .string (str s)] w fun e w' => e = .returned (.pointer (some ⟨o, 0, none⟩)) ∧ OutAt w' o (x ++ s) ∧ KeptB o w w' := by
  cases s with
  | nil =>
    have h0 : str [] = ⟨#[]⟩ := rfl
    rw [h0, List.append_nil]
    have H := hid h
    clear h
    go_enter Try.func52, Try.ntmps52
    go_wp2
    go_ret
    exact ⟨rfl, H.out, KeptB.refl _ _⟩
  | cons c s' =>
    have hne := str_ne_nil c s'
    have hz := str_size (c :: s')
    have HNE := hid (List.cons_ne_nil c s')
    generalize hs : c :: s' = s at *
    obtain ⟨p, ts, ho, hp, hx⟩ := h
    have c0 : w.cell? ⟨o, 0, none⟩ = some (.pointer p) := by rw [Lib.cell_of_heap ho]; rfl
    have c1 : w.cell? ⟨o, 1, none⟩ = some (.int .i64 (x.length : Int)) := by rw [Lib.cell_of_heap ho]; rfl
    have hlt : o < w.heap.size := (Array.getElem?_eq_some_iff.1 ho).1
    have ho1 := fun O => (Below.heap_alloc w O o hlt).trans ho
    have d0 : ∀ O, (w.alloc O).cell? ⟨o, 0, none⟩ = some (.pointer p) := fun O => by rw [Lib.cell_of_heap (ho1 O)]; rfl
    have e0 : ∀ O, (w.alloc O).frozen? ⟨o, 0, none⟩ = false := fun O => Lib.frozen_of_heap (ho1 O) 0
    have ho2 := fun O v => heap_setCell_same (w.alloc O) o 0 _ _ v (ho1 O)
    have d1 : ∀ O v, ((w.alloc O).setCell ⟨o, 0, none⟩ v).cell? ⟨o, 1, none⟩ = some (.int .i64 (x.length : Int)) := fun O v => by rw [Lib.cell_of_heap (ho2 O v)]; rfl
    have e1 : ∀ O v, ((w.alloc O).setCell ⟨o, 0, none⟩ v).frozen? ⟨o, 1, none⟩ = false := fun O v => Lib.frozen_of_heap (ho2 O v) 1
    have HO2 := hid ho2
    have HLT := hid hlt
    clear ho1 ho2 hlt
    have HP := hid hp
    have HX := hid hx
    have HO := hid ho
    have HZ := hid hz
    clear hp hx ho hs
    go_enter Try.func52, Try.ntmps52
    go_wp2
    go_ret
    have hk : KeptB o w (((w.alloc (.cells #[.pointer p, .string (str s)] 98)).setCell ⟨o, 0, none⟩ (.pointer (some ⟨w.heap.size, 0, none⟩))).setCell ⟨o, 1, none⟩ (.int .i64 ((x.length : Int) + (s.length : Int)))) :=
      ((KeptB.of_below ((Below.refl _ _).alloc (Nat.le_refl _) _)).setCell _).setCell _
    have hlt := HLT.out
    refine ⟨rfl, ⟨some ⟨w.heap.size, 0, none⟩, s :: ts, ?_, ⟨w.heap.size, p, rfl, HNE.out, ?_, PartsAt.keptB hk nePart HO.out ts p HP.out⟩, ?_⟩, hk⟩
    · rw [heap_setCell_same _ o 1 _ _ _ (HO2.out _ _), List.length_append]
      rfl
    · rw [heap_setCell_other _ ⟨o, 1, none⟩ w.heap.size _ (by simp; omega), heap_setCell_other _ ⟨o, 0, none⟩ w.heap.size _ (by simp; omega)]
      exact heap_alloc_new _ _
    · rw [List.reverse_cons, List.flatten_append, HX.out]; simp
end Go.Proofs.Ytlfjhpmachblkaa
