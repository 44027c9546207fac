/-
  Slices of bytes that a call appends to; (Sum).Hex; the law's Text.
-/
import Derived.Test.YtabhdjahdhhgiaaDoorShaApi
namespace Go.Proofs.YtabhdjahdhhgiaaDoor
open Go.RowKit
open Go.Lib (hid)

/-- The slice v of the call's own holds the bytes l. -/
def Own (w : World) (base : Nat) (v : Value) (l : List Nat) : Prop := w.ownsRow base 5 1 v l.length (ints .u8 l).toList
theorem Own.nil (w : World) (base : Nat) : Own w base (.slice none 0 0) [] := World.ownsRow_nil _ _ _ _
theorem Own.made (w : World) (base n : Nat) (hb : base ≤ w.heap.size) (hn : n ≤ 1000000) : Own (w.alloc (.cells (ints .u8 (List.replicate n 0)) 5)) base (.slice (some ⟨w.heap.size, 0, none⟩) 0 n) [] :=
  ⟨rfl, Or.inr ⟨w.heap.size, n, _, rfl, hb, heap_alloc_new _ _, Nat.zero_le _, by unfold maxLen; omega, by rw [ints_size]; simp, rfl⟩⟩
theorem Own.below {w w' : World} {base : Nat} {v : Value} {l : List Nat} (h : Own w base v l) (hb : Below w.heap.size w w') : Own w' base v l := by
  obtain ⟨h1, h2⟩ := h
  refine ⟨h1, ?_⟩
  rcases h2 with h2 | ⟨g, cap, cur, hv, hg, hh, r⟩
  · exact Or.inl h2
  · exact Or.inr ⟨g, cap, cur, hv, hg, by rw [hb.block g (Array.getElem?_eq_some_iff.1 hh).1]; exact hh, r⟩
theorem Own.mono {w : World} {base base' : Nat} {v : Value} {l : List Nat} (h : Own w base v l) (hb : base' ≤ base) : Own w base' v l := by
  obtain ⟨h1, h2⟩ := h
  refine ⟨h1, ?_⟩
  rcases h2 with h2 | ⟨g, cap, cur, hv, hg, hh, r⟩
  · exact Or.inl h2
  · exact Or.inr ⟨g, cap, cur, hv, Nat.le_trans hb hg, hh, r⟩

/-- append(s, x...), s the call's own, x some bytes in memory. -/
theorem wpList_app {w : World} {ops : Array Oper} {rest : List Oper} {o : Oper} {a : Act} {Q : Exit → Act → World → Prop} (hgd : o.guard = none) (s x : Operand)
    (ho : o.op = .call { callee := .builtin .append, args := #[s, x], argTypes := #[57, 57] })
    (base : Nat) (v : Value) (l : List Nat) (hs : a.eval s = v) (hown : Own w base v l)
    (ad : Addr) (m c : Nat) (news : List Nat) (hx : a.eval x = .slice (some ad) m c) (hm : news.length = m) (hnews : ∀ j, j < m → w.cell? (ad.add j) = some (.int .u8 (news.getD j 0 : Nat)))
    (hlen : l.length + m ≤ 1000000000000) (hbase : base ≤ w.heap.size)
    (h : ∀ v' w', Own w' base v' (l ++ news) → Below base w w' → wpList Tryd.prog ops Q rest (a.put o.dst v') w') : wpList Tryd.prog ops Q (o :: rest) a w := by
  obtain ⟨i, hi, hz0, hz1, hz2⟩ := info_parts info5
  refine wpList_append_own w hgd s x 57 ho base 5 i (.int .u8 0) 1 1 Tryd.underlying57 hi hz0 hz1 hz2 rfl (by decide) v l.length _ hs hown ad m c (ints .u8 news).toList hx (by rw [ints_llen]; omega) ?_ ?_ (by unfold maxLen; omega) (by omega) hbase ?_
  · intro j u hj
    have hlt : j < news.length := by have := (List.getElem?_eq_some_iff.1 hj).1; rwa [ints_llen] at this
    rw [hnews j (by omega)]
    rw [Array.getElem?_toList, ints_get _ _ _ hlt] at hj
    exact hj
  · intro u hu
    simp only [ints, List.mem_map] at hu
    obtain ⟨y, _, rfl⟩ := hu
    rfl
  · intro v' w' h2 h3 _
    refine h v' w' ?_ ((Below.refl base w).grown h3 hbase ?_)
    · unfold Own
      rw [List.length_append, hm]
      have e : (ints .u8 (l ++ news)).toList = (ints .u8 l).toList ++ (ints .u8 news).toList := by simp [ints]
      rw [e]; exact h2
    · intro k hk
      obtain ⟨_, h2' | ⟨g, cap, cur, hv, hg, _⟩⟩ := hown
      · rw [h2'.1] at hk; cases hk
      · rw [hv] at hk; simp only [Value.ownBlock, Option.some.injEq] at hk; omega

/-- Bytes of the call's own as a text. -/
theorem run_ownstr {w : World} {base : Nat} {v : Value} {l : List Nat} (h : Own w base v l) : (convert 57 9 v).run Tryd.prog w = .ok (.string (str l)) w := by
  obtain ⟨h1, ⟨hv, h0⟩ | ⟨g, cap, cur, hv, hg, hh, hn, _, hs, hc⟩⟩ := h
  · subst hv
    have hl : l = [] := List.eq_nil_of_length_eq_zero h0
    subst hl
    exact run_convert_bytes_nil w 57 5 Tryd.underlying57 Tryd.underlying5 0 0 9 Tryd.underlying9
  · subst hv
    rw [← strOf_ints]
    refine run_convert_bytes_arg w 57 5 Tryd.underlying57 Tryd.underlying5 g 0 l.length cap _ (by simp) (fun i hi => ?_) 9 Tryd.underlying9
    rw [Nat.zero_add, cell_of_row w g i cur _ _ hh]
    have h2 : cur[i]? = (cur.toList.take (l.length * 1))[i]? := by
      rw [List.getElem?_take, if_pos (by omega), Array.getElem?_toList]
    rw [h2, hc, Array.getElem?_toList, ints_get _ _ _ hi]
    simp [hi]

theorem cells_two (w : World) (x y : Nat) (t : TypeId) : ∀ j, j < 2 → (w.alloc (.cells #[.int .u8 (x : Int), .int .u8 (y : Int)] t)).cell? ((⟨w.heap.size, 0, none⟩ : Addr).add j) = some (.int .u8 ([x, y].getD j 0 : Nat)) := by
  intro j hj
  rw [Addr.add_mid, Nat.zero_add, cell_of_row _ _ _ _ _ _ (heap_alloc_new _ _)]
  obtain rfl | rfl : j = 0 ∨ j = 1 := by omega
  · rfl
  · rfl
theorem cells_one (w : World) (x : Nat) (t : TypeId) : ∀ j, j < 1 → (w.alloc (.cells #[.int .u8 (x : Int)] t)).cell? ((⟨w.heap.size, 0, none⟩ : Addr).add j) = some (.int .u8 ([x].getD j 0 : Nat)) := by
  intro j hj
  rw [Addr.add_mid, Nat.zero_add, cell_of_row _ _ _ _ _ _ (heap_alloc_new _ _)]
  obtain rfl : j = 0 := by omega
  rfl

set_option maxHeartbeats 1000000 in
/-- The law's Text: a sum's bytes. -/
theorem text_any (xs : List Nat) (hl : xs.length = 32) (w : World) :
    Calls Tryd.prog 13 #[.agg (ints .u8 xs)] w fun e w' => e = .returned (.string (str xs)) ∧ Below w.heap.size w w' := by
  have hs : (ints .u8 xs).size = 32 := by rw [ints_size, hl]
  go_enter Tryd.func13, Tryd.ntmps13
  go_upto_region 2 with (fail)
  have hrow : Row (w.alloc (.cells (ints .u8 xs) 27)) w.heap.size .u8 27 xs := heap_alloc_new _ _
  have hb0 : Below w.heap.size w (w.alloc (.cells (ints .u8 xs) 27)) := (Below.refl _ _).alloc (Nat.le_refl _) _
  generalize hw0 : w.alloc _ = w0 at *
  have hs0 : w.heap.size ≤ w0.heap.size := hb0.size
  clear hw0
  have HB0 := hid hb0
  clear hb0
  go_wp2_with (refine wpList_load_row rfl _ _ rfl w.heap.size rfl _ _ _ _ hrow Tryd.underlying27 rfl (by rw [hs]; exact info26) ?_)
  clear hrow
  go_loopw [3, 7] (fun v i wr => ∃ k : Nat, k ≤ 32 ∧ i = .int .i64 k ∧ Own wr w.heap.size v (xs.take k) ∧ Below w.heap.size w wr)
    (fun _ i _ => 32 - (intOf i).toNat)
  case atStart => exact ⟨0, by omega, rfl, Own.nil _ _, HB0.out⟩
  case round =>
    obtain ⟨k, hk, rfl, hown, hbel⟩ := hrel
    by_cases hlt : k < 32
    · have hi := fun wx => run_index_ints (P := Tryd.prog) wx 27 5 32 .u8 xs Tryd.underlying27 Tryd.underlying5 (by kernel_rfl) hl k hlt
      have hsz := hbel.size
      have htl : (xs.take k).length = k := by simp; omega
      have hts : xs.take k ++ [xs.getD k 0] = xs.take (k + 1) := by
        rw [List.take_succ_eq_append_getElem (by omega), List.getD_eq_getElem?_getD, List.getElem?_eq_getElem (by omega)]; rfl
      have HOWN := hid hown
      have HBEL := hid hbel
      have HTL := hid htl
      have HTS := hid hts
      clear hown hbel htl hts
      generalize xs.getD k 0 = x at *
      go_wp2_with (refine wpList_app rfl _ _ rfl w.heap.size _ (xs.take k) rfl (HOWN.out.below ((Below.refl _ _).alloc (Nat.le_refl _) _)) _ 1 1 [x] rfl rfl (cells_one wr x _) (by rw [HTL.out]; omega) (by simp; omega) ?_; intro v' w' hown' hbel')
      go_roundw
      case rel =>
        rw [HTS.out] at hown'
        exact ⟨k + 1, by omega, by go_num, hown', (HBEL.out.alloc hsz _).trans hbel'⟩
      case measure => simp [intOf]; omega
    · obtain rfl : k = 32 := by omega
      have hc := run_ownstr hown
      rw [List.take_of_length_le (by omega)] at hc
      clear hown
      go_wp2
      go_ret
      exact ⟨rfl, hbel⟩

namespace Sx
def hexd (n : Nat) : Nat := if n < 10 then 48 + n else 87 + n
def hexL (l : List Nat) : List Nat := l.flatMap fun b => [hexd (b / 16), hexd (b % 16)]
theorem hexL_length (l : List Nat) : (hexL l).length = 2 * l.length := by
  induction l with
  | nil => rfl
  | cons x t ih => simp only [hexL, List.flatMap_cons, List.length_append, List.length_cons, List.length_nil] at *; omega
theorem hexL_take (l : List Nat) (k : Nat) (h : k < l.length) : hexL (l.take k) ++ [hexd (l.getD k 0 / 16), hexd (l.getD k 0 % 16)] = hexL (l.take (k + 1)) := by
  rw [List.take_succ_eq_append_getElem h, List.getD_eq_getElem?_getD, List.getElem?_eq_getElem h]
  simp only [hexL, List.flatMap_append, List.flatMap_cons, List.flatMap_nil, List.append_nil, Option.getD_some]
end Sx

end Go.Proofs.YtabhdjahdhhgiaaDoor
