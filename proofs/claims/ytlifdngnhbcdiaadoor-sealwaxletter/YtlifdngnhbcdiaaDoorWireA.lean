/-
  Wire1, Wire2, Wire3, Wire4, Wire5, Wire6, Wire7 in one text.
-/
import Derived.Test.YtlifdngnhbcdiaaDoorBase
import Derived.Test.YtlifdngnhbcdiaaDoorRg2
import Derived.Lib.Builder
import Derived.Test.YtlifdngnhbcdiaaDoorShelf
/-
  Layer 6: what lies in a wire.Out, and what its add does.
-/
namespace Go.Proofs.YtlifdngnhbcdiaaDoor
open Go.RowKit
open Go.Lib (hid)

/-- The parts from a pointer on, the last first. -/
def PartsAt (w : World) : Option Addr → List (List Nat) → Prop
  | none, [] => True
  | some a, t :: l => ∃ b p, a = ⟨b, 0, none⟩ ∧ t ≠ [] ∧ w.heap[b]? = some (.cells #[.pointer p, .string (str t)] 64 (0, 0)) ∧ PartsAt w p l
  | _, _ => False
/-- The Out at block o has written x. -/
def OutAt (w : World) (o : Nat) (x : List Nat) : Prop :=
  ∃ (p : Option Addr) (ts : List (List Nat)), w.heap[o]? = some (.cells #[.pointer p, .int .i64 (x.length : Int)] 29 (0, 0)) ∧ PartsAt w p ts ∧ ts.reverse.flatten = x
theorem nePart : (29 : TypeId) ≠ 64 := by decide
theorem PartsAt.keptB {w w' : World} {o : Nat} {cs : Array Value} {T : TypeId} (hk : KeptB o w w') (hT : T ≠ 64) (ho : w.heap[o]? = some (.cells cs T (0, 0))) :
    ∀ (ts : List (List Nat)) (p : Option Addr), PartsAt w p ts → PartsAt w' p ts
  | [], none, _ => trivial
  | [], some _, h => h.elim
  | _ :: _, none, h => h.elim
  | t :: l, some a, ⟨b, p, ha, hn, hb, hp⟩ => by
    refine ⟨b, p, ha, hn, ?_, PartsAt.keptB hk hT ho l p hp⟩
    rw [hk.block b (Array.getElem?_eq_some_iff.1 hb).1 (fun e => by
      subst e
      rw [ho] at hb
      injection hb with hb
      injection hb with _ h2 _
      exact hT h2)]
    exact hb
theorem PartsAt.below {w w' : World} (hk : Below w.heap.size w w') : ∀ (ts : List (List Nat)) (p : Option Addr), PartsAt w p ts → PartsAt w' p ts
  | [], none, _ => trivial
  | [], some _, h => h.elim
  | _ :: _, none, h => h.elim
  | t :: l, some a, ⟨b, p, ha, hn, hb, hp⟩ => by
    refine ⟨b, p, ha, hn, ?_, PartsAt.below hk l p hp⟩
    rw [hk.block b (Array.getElem?_eq_some_iff.1 hb).1]
    exact hb
theorem OutAt.below {w w' : World} {o : Nat} {x : List Nat} (h : OutAt w o x) (hk : Below w.heap.size w w') : OutAt w' o x := by
  obtain ⟨p, ts, ho, hp, hx⟩ := h
  exact ⟨p, ts, by rw [hk.block o (Array.getElem?_eq_some_iff.1 ho).1]; exact ho, PartsAt.below hk ts p hp, hx⟩
theorem OutAt.lt {w : World} {o : Nat} {x : List Nat} (h : OutAt w o x) : o < w.heap.size := by
  obtain ⟨p, ts, ho, _⟩ := h
  exact (Array.getElem?_eq_some_iff.1 ho).1
/-- An Out that another one's writing leaves alone. -/
theorem OutAt.keptB {w w' : World} {o o2 : Nat} {x y : List Nat} (h : OutAt w o x) (h2 : OutAt w o2 y) (hk : KeptB o2 w w') (hne : o ≠ o2) : OutAt w' o x := by
  obtain ⟨p, ts, ho, hp, hx⟩ := h
  obtain ⟨p2, ts2, ho2, _⟩ := h2
  exact ⟨p, ts, by rw [hk.block o (Array.getElem?_eq_some_iff.1 ho).1 hne]; exact ho, PartsAt.keptB hk nePart ho2 ts p hp, hx⟩
theorem OutAt.zero (w : World) : OutAt (w.alloc (.cells #[.pointer none, .int .i64 0] 29)) w.heap.size [] :=
  ⟨none, [], heap_alloc_new _ _, trivial, rfl⟩

theorem str_ne_nil (c : Nat) (s : List Nat) : (str (c :: s)).toList.isEmpty = false := by
  rw [str_toList]; rfl

set_option maxHeartbeats 1000000 in
set_option maxRecDepth 100000 in
theorem oadd_any (o : Nat) (x s : List Nat) (w : World) (h : OutAt w o x) (hl : x.length + s.length ≤ 1000000000000) :
    Calls Tryd.prog 20 #[.pointer (some ⟨o, 0, none⟩), .string (str s)] w fun e w' => e = .returned (.pointer (some ⟨o, 0, none⟩)) ∧ OutAt w' o (x ++ s) ∧ KeptB o w w' := by
  cases s with
  | nil =>
    have h0 : str [] = ⟨#[]⟩ := rfl
    rw [h0, List.append_nil]
    have H := hid h
    clear h
    go_enter Tryd.func20, Tryd.ntmps20
    go_wp2
    go_ret
    exact ⟨rfl, H.out, KeptB.refl _ _⟩
  | cons c s' =>
    have hne := str_ne_nil c s'
    have hz := str_size (c :: s')
    have HNE := hid (List.cons_ne_nil c s')
    generalize hs : c :: s' = s at *
    obtain ⟨p, ts, ho, hp, hx⟩ := h
    have c0 : w.cell? ⟨o, 0, none⟩ = some (.pointer p) := by rw [Lib.cell_of_heap ho]; rfl
    have c1 : w.cell? ⟨o, 1, none⟩ = some (.int .i64 (x.length : Int)) := by rw [Lib.cell_of_heap ho]; rfl
    have hlt : o < w.heap.size := (Array.getElem?_eq_some_iff.1 ho).1
    have ho1 := fun O => (Below.heap_alloc w O o hlt).trans ho
    have d0 : ∀ O, (w.alloc O).cell? ⟨o, 0, none⟩ = some (.pointer p) := fun O => by rw [Lib.cell_of_heap (ho1 O)]; rfl
    have e0 : ∀ O, (w.alloc O).frozen? ⟨o, 0, none⟩ = false := fun O => Lib.frozen_of_heap (ho1 O) 0
    have ho2 := fun O v => heap_setCell_same (w.alloc O) o 0 _ _ v (ho1 O)
    have d1 : ∀ O v, ((w.alloc O).setCell ⟨o, 0, none⟩ v).cell? ⟨o, 1, none⟩ = some (.int .i64 (x.length : Int)) := fun O v => by rw [Lib.cell_of_heap (ho2 O v)]; rfl
    have e1 : ∀ O v, ((w.alloc O).setCell ⟨o, 0, none⟩ v).frozen? ⟨o, 1, none⟩ = false := fun O v => Lib.frozen_of_heap (ho2 O v) 1
    have HO2 := hid ho2
    have HLT := hid hlt
    clear ho1 ho2 hlt
    have HP := hid hp
    have HX := hid hx
    have HO := hid ho
    have HZ := hid hz
    clear hp hx ho hs
    go_enter Tryd.func20, Tryd.ntmps20
    go_wp2
    go_ret
    have hk : KeptB o w (((w.alloc (.cells #[.pointer p, .string (str s)] 64)).setCell ⟨o, 0, none⟩ (.pointer (some ⟨w.heap.size, 0, none⟩))).setCell ⟨o, 1, none⟩ (.int .i64 ((x.length : Int) + (s.length : Int)))) :=
      ((KeptB.of_below ((Below.refl _ _).alloc (Nat.le_refl _) _)).setCell _).setCell _
    have hlt := HLT.out
    refine ⟨rfl, ⟨some ⟨w.heap.size, 0, none⟩, s :: ts, ?_, ⟨w.heap.size, p, rfl, HNE.out, ?_, PartsAt.keptB hk nePart HO.out ts p HP.out⟩, ?_⟩, hk⟩
    · rw [heap_setCell_same _ o 1 _ _ _ (HO2.out _ _), List.length_append]
      rfl
    · rw [heap_setCell_other _ ⟨o, 1, none⟩ w.heap.size _ (by simp; omega), heap_setCell_other _ ⟨o, 0, none⟩ w.heap.size _ (by simp; omega)]
      exact heap_alloc_new _ _
    · rw [List.reverse_cons, List.flatten_append, HX.out]; simp
end Go.Proofs.YtlifdngnhbcdiaaDoor

/-
  Layer 6: what wire.Out's Num writes.
-/
namespace Go.Proofs.YtlifdngnhbcdiaaDoor
open Go.RowKit
open Go.Lib (hid)

namespace Wx
/-- The eight bytes of a number, the greatest first. -/
def num8 (v : Nat) : List Nat := (List.range 8).map fun i => v / 2 ^ (8 * (7 - i)) % 256
theorem num8_length (v : Nat) : (num8 v).length = 8 := by simp [num8]
theorem num8_lt (v : Nat) : ∀ x ∈ num8 v, x < 256 := by
  intro x hx
  simp only [num8, List.mem_map] at hx
  obtain ⟨i, _, rfl⟩ := hx
  omega
theorem num8_get (v i : Nat) (h : i < 8) : (num8 v).getD i 0 = v / 2 ^ (8 * (7 - i)) % 256 := by
  simp [num8, List.getD_eq_getElem?_getD, h]
/-- The bytes of numbers, a negative one's as of nought. -/
def nums8 (L : List Int) : List Nat := (L.map fun n => num8 n.toNat).flatten
theorem nums8_length (L : List Int) : (nums8 L).length = 8 * L.length := by
  induction L with
  | nil => rfl
  | cons a l ih => simp only [nums8, List.map_cons, List.flatten_cons, List.length_append, num8_length, List.length_cons] at ih ⊢; omega
theorem nums8_lt (L : List Int) : ∀ x ∈ nums8 L, x < 256 := by
  intro x hx
  simp only [nums8, List.mem_flatten, List.mem_map] at hx
  obtain ⟨l, ⟨n, _, rfl⟩, hx⟩ := hx
  exact num8_lt _ x hx
theorem nums8_succ (L : List Int) (k : Nat) (h : k < L.length) : nums8 (L.take k) ++ num8 (L.getD k 0).toNat = nums8 (L.take (k + 1)) := by
  rw [List.take_succ_eq_append_getElem h]
  simp only [nums8, List.map_append, List.flatten_append, List.map_cons, List.map_nil, List.flatten_cons, List.flatten_nil, List.append_nil]
  rw [List.getD_eq_getElem?_getD, List.getElem?_eq_getElem h, Option.getD_some]
end Wx

/-- No byte yet, room for n. -/
theorem run_made0 (n : Nat) (hn : n ≤ 1000000) (w : World) : (Instr.makeSlice 60 (.int .i64 0) (.int .i64 (n : Int))).run Tryd.prog w = .ok (.slice (some ⟨w.heap.size, 0, none⟩) 0 n) (w.alloc (.cells (ints .u8 (List.replicate n 0)) 5)) := by
  obtain ⟨i, hi, hz0, hz1, hz2⟩ := info_parts info5
  have h := run_make (P := Tryd.prog) w 60 5 i (.int .u8 0) Tryd.underlying60 hi hz0 .i64 .i64 0 n (by omega) (by omega) (by rw [hz2]; omega) (by omega)
  rw [h, hz1]
  have e : madeCells (Value.int .u8 0).cells (n * 1) = ints .u8 (List.replicate n 0) := by
    apply Array.ext
    · simp [madeCells, ints]
    · intro i h1 h2
      simp [madeCells, ints, Value.cells, Nat.mod_one]
  simp only [Int.toNat_natCast, e]
  rfl

set_option maxHeartbeats 1000000 in
set_option maxRecDepth 100000 in
theorem onum_any (o : Nat) (x : List Nat) (ao : Option Addr) (cap : Nat) (L : List Int) (w : World) (h : OutAt w o x) (hA : IntsB w ao L) (hL : L.length ≤ 1000) (hb : ∀ n ∈ L, n ≤ 9223372036854775807) (hl : x.length ≤ 100000000000) :
    Calls Tryd.prog 6 #[.pointer (some ⟨o, 0, none⟩), .slice ao L.length cap] w fun e w' => e = .returned (.pointer (some ⟨o, 0, none⟩)) ∧ OutAt w' o (x ++ Wx.nums8 L) ∧ KeptB o w w' := by
  have HO := hid h
  have HA := hid hA
  have HB := hid hb
  clear h hA hb
  have hmk := fun wx => run_made0 (8 * L.length) (by omega) wx
  rw [show ((8 * L.length : Nat) : Int) = 8 * (L.length : Int) from by omega] at hmk
  go_enter Tryd.func6, Tryd.ntmps6
  go_upto_region 3 with (fail)
  clear hmk
  have hsz0 := HO.out.lt
  have HOW := hid (Own.made w w.heap.size (8 * L.length) (Nat.le_refl _) (by omega))
  have HB0 := hid (show Below w.heap.size w (w.alloc (.cells (ints .u8 (List.replicate (8 * L.length) 0)) 5)) from (Below.refl _ _).alloc (Nat.le_refl _) _)
  generalize w.alloc _ = w0 at *
  go_loopw [5, 16] (fun v i wr => ∃ k : Nat, k ≤ L.length ∧ i = .int .i64 k ∧ Own wr w.heap.size v (Wx.nums8 (L.take k)) ∧ Below w.heap.size w wr)
    (fun _ i _ => L.length - (intOf i).toNat)
  case atStart => exact ⟨0, by omega, rfl, HOW.out, HB0.out⟩
  case round =>
    clear HOW HB0
    obtain ⟨k, hk, rfl, hown, hbel⟩ := hrel
    by_cases hlt : k < L.length
    · obtain ⟨sb, so, hao, hc⟩ := HA.out.below hbel k hlt
      have hm0 := HB.out (L.getD k 0) (by rw [List.getD_eq_getElem?_getD, List.getElem?_eq_getElem hlt, Option.getD_some]; exact List.getElem_mem hlt)
      have HNX := hid (Wx.nums8_succ L k hlt)
      have HPL := hid (show (Wx.nums8 (L.take k)).length = 8 * k from by rw [Wx.nums8_length, List.length_take]; omega)
      have HOWN := hid hown
      have HBEL := hid hbel
      have hsz := hbel.size
      clear hown hbel
      subst hao
      generalize L.getD k 0 = q at *
      obtain ⟨v, hv⟩ : ∃ v : Nat, max 0 q = (v : Int) := ⟨q.toNat, by omega⟩
      have hv2 : q.toNat = v := by omega
      have hv3 : (v : Int) % 18446744073709551616 = (v : Int) := by omega
      rw [hv2] at HNX
      have hv4 : (if (0 : Int) < q then q else 0) = (v : Int) := by split <;> omega
      have hv5 : (if q < 0 then (0 : Int) else q) = (v : Int) := by split <;> omega
      have hv6 : (if q ≤ 0 then (0 : Int) else q) = (v : Int) := by split <;> omega
      have hv7 : (if 0 ≤ q then q else 0) = (v : Int) := by split <;> omega
      clear hm0 hv2
      generalize Wx.nums8 (L.take k) = pre at *
      go_upto_region 7 with (fail)
      clear hv hc hv3 hv4 hv5 hv6 hv7
      go_loopw [5, 23] (fun u i wq => ∃ n : Nat, n ≤ 8 ∧ i = .int .i64 n ∧ Own wq w.heap.size u (pre ++ (Wx.num8 v).take n) ∧ Below w.heap.size w wq)
        (fun _ i _ => 8 - (intOf i).toNat)
      case atStart => exact ⟨0, by omega, rfl, by rw [List.take_zero, List.append_nil]; exact HOWN.out, HBEL.out⟩
      case round =>
        clear HOWN HBEL
        obtain ⟨n, hn, rfl, hown, hbel⟩ := hrel
        by_cases hlt2 : n < 8
        · obtain ⟨m, hm⟩ : ∃ m : Nat, m = 7 - n := ⟨_, rfl⟩
          have h7 : 7 - (n : Int) = (m : Int) := by omega
          have hmm : m ≤ 7 := by omega
          have hsh : (v : Int) / 2 ^ (8 * m) % 256 = ((v / 2 ^ (8 * m) % 256 : Nat) : Int) := by simp
          have HGT := hid (show (Wx.num8 v).getD n 0 = v / 2 ^ (8 * m) % 256 from by rw [hm]; exact Wx.num8_get v n hlt2)
          have HTL := hid (show (pre ++ (Wx.num8 v).take n).length = 8 * k + n from by rw [List.length_append, HPL.out, List.length_take, Wx.num8_length]; omega)
          have HTS := hid (take_getD_succ (Wx.num8 v) n (by rw [Wx.num8_length]; exact hlt2))
          rw [HGT.out] at HTS
          have HOWN := hid hown
          have HBEL := hid hbel
          have hsz2 := hbel.size
          clear hown hbel hm
          generalize v / 2 ^ (8 * m) % 256 = z at *
          go_wp2_with (refine wpList_app rfl _ _ rfl w.heap.size _ (pre ++ (Wx.num8 v).take n) rfl (HOWN.out.below ((Below.refl _ _).alloc (Nat.le_refl _) _)) _ 1 1 [z] rfl rfl (cells_one wr z _) (by rw [HTL.out]; omega) (by simp; omega) ?_; intro v' w' hown' hbel')
          go_roundw
          case rel =>
            rw [List.append_assoc, HTS.out] at hown'
            first
              | exact ⟨n + 1, by omega, by go_num, hown', (HBEL.out.alloc HBEL.out.size _).trans hbel'⟩
              | ((repeat apply Exists.intro); refine ⟨?_, rfl⟩; exact ⟨n + 1, by omega, by go_num, hown', (HBEL.out.alloc HBEL.out.size _).trans hbel'⟩)
          case measure => simp [intOf]; omega
        · obtain rfl : n = 8 := by omega
          rw [List.take_of_length_le (by rw [Wx.num8_length]; omega), HNX.out] at hown
          have HOWN := hid hown
          have HBEL := hid hbel
          clear hown hbel
          rw [show ((8 : Nat) : Int) = 8 from rfl]
          go_wp2
          exact ⟨⟨k + 1, by omega, by go_num, HOWN.out, HBEL.out⟩, by simp [intOf]; omega⟩
    · obtain rfl : k = L.length := by omega
      rw [List.take_length] at hown
      have hcv := run_ownstr hown
      have hzn := Wx.nums8_length L
      have HAD := hid (oadd_any o x (Wx.nums8 L) wr (HO.out.below hbel) (by omega))
      have HBEL := hid hbel
      clear hown hbel hzn
      generalize str (Wx.nums8 L) = SN at *
      go_wp2_with (go_at_call 20; refine HAD.out.mono ?_; rintro e w5 ⟨rfl, ho5, hk5⟩)
      go_ret
      exact ⟨rfl, ho5, (KeptB.of_below HBEL.out).trans hk5⟩
end Go.Proofs.YtlifdngnhbcdiaaDoor

/-
  Layer 6: what wire.Out's Bytes returns.
-/
namespace Go.Proofs.YtlifdngnhbcdiaaDoor
open Go.RowKit
open Go.Lib (hid)

theorem flat_rev (ts : List (List Nat)) : ts.reverse.flatten.length = ts.flatten.length := by
  induction ts with
  | nil => rfl
  | cons a l ih => rw [List.reverse_cons, List.flatten_append, List.length_append, ih]; simp; omega

theorem drop_part (x t A : List Nat) (f : Nat) (hA : A.length = f) (h : A ++ t = x.take (t.length + f)) : x.drop f = t ++ x.drop (t.length + f) := by
  have h1 : x = x.take (t.length + f) ++ x.drop (t.length + f) := (List.take_append_drop _ _).symm
  rw [← h, List.append_assoc] at h1
  exact (congrArg (List.drop f) h1).trans (List.drop_left' hA)
theorem copy_row (x t A : List Nat) (f d : Nat) (hA : A.length = f) (h : A ++ t = x.take (t.length + f)) (ht : ∀ c ∈ t, c < 256) (hd : t.length ≤ d) :
    ((ints .u8 (List.replicate (t.length + f) 0 ++ x.drop (t.length + f))).toList.take f ++ ((ints .u8 ((nums (str t)).take (min (str t).size d))).toList ++ (ints .u8 (List.replicate (t.length + f) 0 ++ x.drop (t.length + f))).toList.drop (f + min (str t).size d))).toArray
      = ints .u8 (List.replicate f 0 ++ x.drop f) := by
  rw [str_size, Nat.min_eq_left hd, nums_str t ht, List.take_length, drop_part x t A f hA h]
  have e : (List.replicate (t.length + f) 0 : List Nat) = List.replicate f 0 ++ List.replicate t.length 0 := by rw [List.replicate_append_replicate, Nat.add_comm]
  rw [e]
  unfold ints
  congr 1
  simp only [List.map_append, List.map_replicate]
  rw [List.drop_left' (by simp), List.append_assoc, List.take_left' (by simp)]

set_option maxHeartbeats 1000000 in
set_option maxRecDepth 100000 in
theorem obytes_any (o : Nat) (x : List Nat) (w : World) (h : OutAt w o x) (hb : ∀ c ∈ x, c < 256) (hl : x.length ≤ 1000000) :
    Calls Tryd.prog 8 #[.pointer (some ⟨o, 0, none⟩)] w fun e w' => e = .returned (.string (str x)) ∧ Below w.heap.size w w' := by
  obtain ⟨p0, ts, ho, hp, hx⟩ := h
  have hmk := fun wx => run_mk wx x.length hl
  have hlt : o < w.heap.size := (Array.getElem?_eq_some_iff.1 ho).1
  have c1 : w.cell? ⟨o, 1, none⟩ = some (.int .i64 (x.length : Int)) := by rw [Lib.cell_of_heap ho]; rfl
  have ho1 := fun O => (Below.heap_alloc w O o hlt).trans ho
  have d0 : ∀ O, (w.alloc O).cell? ⟨o, 0, none⟩ = some (.pointer p0) := fun O => by rw [Lib.cell_of_heap (ho1 O)]; rfl
  have d1 : ∀ O, (w.alloc O).cell? ⟨o, 1, none⟩ = some (.int .i64 (x.length : Int)) := fun O => by rw [Lib.cell_of_heap (ho1 O)]; rfl
  have HB := hid hb
  have HP := hid (fun O => PartsAt.below (w' := w.alloc O) ((Below.refl _ _).alloc (Nat.le_refl _) O) ts p0 hp)
  have HX := hid hx
  clear ho hp hx hb ho1
  go_enter Tryd.func8, Tryd.ntmps8
  go_upto_region 4 with (fail)
  clear hmk c1 d0 d1
  have HR0 := hid (show Row (w.alloc (.cells (ints .u8 (List.replicate x.length 0)) 5)) w.heap.size .u8 5 (List.replicate x.length 0) from heap_alloc_new _ _)
  have HB0 := hid (show Below w.heap.size w (w.alloc (.cells (ints .u8 (List.replicate x.length 0)) 5)) from (Below.refl _ _).alloc (Nat.le_refl _) _)
  have HP0 := hid (HP.out (.cells (ints .u8 (List.replicate x.length 0)) 5))
  clear HP
  generalize w.alloc _ = w0 at *
  obtain ⟨n, hn⟩ : ∃ n, n = x.length := ⟨_, rfl⟩
  have HN := hid hn
  rw [← hn] at HR0 hl ⊢
  clear hn
  go_loopw [4, 5] (fun e p wr => ∃ (q : Option Addr) (rest : List (List Nat)), e = .int .i64 (rest.flatten.length : Int) ∧ p = .pointer q ∧ PartsAt wr q rest ∧ rest.flatten.length ≤ n ∧ rest.reverse.flatten = x.take rest.flatten.length ∧ Row wr w.heap.size .u8 5 (List.replicate rest.flatten.length 0 ++ x.drop rest.flatten.length) ∧ Below w.heap.size w wr)
    (fun e _ _ => (intOf e).toNat)
  case atStart =>
    have hlen : ts.flatten.length = n := by rw [← flat_rev, HX.out, HN.out]
    refine ⟨p0, ts, by rw [hlen], rfl, HP0.out, by omega, ?_, ?_, HB0.out⟩
    · rw [HX.out, hlen, List.take_of_length_le (by rw [HN.out]; exact Nat.le_refl _)]
    · rw [hlen, List.drop_eq_nil_of_le (by rw [HN.out]; exact Nat.le_refl _), List.append_nil]; exact HR0.out
  case round =>
    clear HR0 HB0 HP0
    obtain ⟨q, rest, rfl, rfl, hp, hle, hr, hrow, hbel⟩ := hrel
    cases rest with
    | nil =>
      cases q with
      | some a => exact hp.elim
      | none =>
        have hrow' : Row wr w.heap.size .u8 5 x := by simpa using hrow
        have hcv := run_str wr w.heap.size 0 n n 5 x hrow' (by rw [← HN.out]; omega)
        rw [List.drop_zero, List.take_of_length_le (by rw [HN.out]; exact Nat.le_refl _)] at hcv
        have HBL := hid hbel
        clear hrow hrow' hbel hr
        generalize hSX : str x = SX at hcv
        have HSX := hid hSX
        clear hSX
        rw [show ((([] : List (List Nat)).flatten.length : Nat) : Int) = 0 from rfl]
        go_wp2
        go_ret
        exact ⟨by rw [HSX.out]; rfl, HBL.out⟩
    | cons t l =>
      cases q with
      | none => exact hp.elim
      | some a =>
        obtain ⟨b, q, rfl, hne, hbk, hpl⟩ := hp
        have e1 : (t :: l).flatten.length = t.length + l.flatten.length := by simp
        rw [e1] at hle hr hrow
        rw [show (((t :: l).flatten.length : Nat) : Int) = (t.length : Int) + (l.flatten.length : Int) from by rw [e1]; omega]
        rw [List.reverse_cons, List.flatten_append, List.flatten_singleton] at hr
        have hA := flat_rev l
        have htb : ∀ c ∈ t, c < 256 := fun c hc => HB.out c (by
          have : c ∈ x.take (t.length + l.flatten.length) := by rw [← hr]; exact List.mem_append_right _ hc
          exact List.mem_of_mem_take this)
        have htl : 0 < t.length := List.length_pos_iff.2 hne
        have HRL := hid (show l.reverse.flatten = x.take l.flatten.length from by
          have := congrArg (List.take l.flatten.length) hr
          rw [List.take_append_of_le_length (by omega), List.take_of_length_le (by omega), List.take_take, Nat.min_eq_left (by omega)] at this
          exact this)
        have HPL := hid hpl
        have HLL := hid (show l.flatten.length ≤ n from by omega)
        have cb0 : wr.cell? ⟨b, 0, none⟩ = some (.pointer q) := by rw [Lib.cell_of_heap hbk]; rfl
        have cb1 : wr.cell? ⟨b, 1, none⟩ = some (.string (str t)) := by rw [Lib.cell_of_heap hbk]; rfl
        have hbne : b ≠ w.heap.size := fun e => by
          subst e
          have h1 : wr.heap[w.heap.size]? = _ := hrow
          rw [h1] at hbk
          injection hbk with hbk
          injection hbk with _ h2 _
          exact absurd h2 (by decide)
        have HCR := hid (copy_row x t l.reverse.flatten l.flatten.length (n - l.flatten.length) hA hr htb (by omega))
        have HROW := hid hrow
        have HBL := hid hbel
        have HBK := hid hbk
        have hzt := str_size t
        have HCS := hid (show l.flatten.length + (n - l.flatten.length) ≤ (ints .u8 (List.replicate (t.length + l.flatten.length) 0 ++ x.drop (t.length + l.flatten.length))).size from by
          rw [ints_size]; simp; have := HN.out; omega)
        generalize hfl : l.flatten.length = f at *
        have HFL := hid hfl
        clear hfl
        generalize t.length = tl at *
        rw [hzt] at HCR
        have hsub : (tl : Int) + (f : Int) - (tl : Int) = (f : Int) := by omega
        clear hrow hbel hr hA htb e1 hbk hpl
        go_upto_region 7 with (fail)
        have hfn : (f : Int) ≤ (n : Int) := by have := HLL.out; omega
        have hfn2 : f < n := by omega
        have HRB := hid (fun m => setRow_heap (wr.drewN m) w.heap.size _ (ints .u8 (List.replicate f 0 ++ x.drop f)) _ _ HROW.out)
        have HBB := hid (fun m => below_setRow (show Below w.heap.size w (wr.drewN m) from HBL.out.trans ⟨rfl, rfl, rfl, Nat.le_refl _, fun _ _ => rfl⟩) (Nat.le_refl _) (ints .u8 (List.replicate f 0 ++ x.drop f)))
        have HKK := hid (fun m => show KeptB w.heap.size wr ((wr.drewN m).setRow w.heap.size (ints .u8 (List.replicate f 0 ++ x.drop f))) from (show KeptB w.heap.size wr (wr.drewN m) from ⟨rfl, rfl, rfl, Nat.le_refl _, fun _ _ _ => rfl⟩).setRow _)
        have cb2 : ∀ m cs, ((wr.drewN m).setRow w.heap.size cs).cell? ⟨b, 0, none⟩ = some (.pointer q) := fun m cs => by
          rw [Lib.cell_of_heap ((setRow_other (wr.drewN m) w.heap.size b cs hbne).trans HBK.out)]; rfl
        refine wp_region_noPanic ?_
        refine wp_region_hd1 7 1 rfl (by kernel_rfl) (by kernel_rfl) (fun _ _ _ _ _ h => h) ?_
        simp only [List.take_succ_cons, List.take_zero, List.drop_succ_cons, List.drop_zero]
        repeat (go_big_quiet_step (fail))
        refine wpQuiet_nil ?_
        intro m
        go_wp2_with (refine wpList_copy_str rfl _ _ _ _ rfl 5 Tryd.underlying60 info5' w.heap.size f (n - f) (n - f) (str t) rfl rfl _ _ HROW.out HCS.out ?_)
        rw [HCR.out]
        refine NoPanic.normal ?_
        go_wp2
        refine ⟨⟨q, l, by rw [HFL.out], rfl, PartsAt.keptB (HKK.out m) (by decide) HROW.out l q HPL.out, by rw [HFL.out]; exact HLL.out, by rw [HFL.out]; exact HRL.out, by rw [HFL.out]; exact HRB.out m, HBB.out m⟩, ?_⟩
        simp [intOf]
        omega
end Go.Proofs.YtlifdngnhbcdiaaDoor

/-
  Layer 6: what wire.Out's Fixed, Raw and Text write.
-/
namespace Go.Proofs.YtlifdngnhbcdiaaDoor
open Go.RowKit
open Go.Lib (hid)

namespace Wx
/-- The first k bytes, filled with noughts. -/
def fix (s : List Nat) (k : Nat) : List Nat := s.take k ++ List.replicate (k - s.length) 0
theorem fix_length (s : List Nat) (k : Nat) : (fix s k).length = k := by simp [fix]; omega
theorem fix_lt (s : List Nat) (k : Nat) (h : ∀ x ∈ s, x < 256) : ∀ x ∈ fix s k, x < 256 := by
  intro x hx
  rcases List.mem_append.1 hx with h1 | h1
  · exact h x (List.mem_of_mem_take h1)
  · rw [List.mem_replicate] at h1; omega
end Wx
theorem rep_str (c : Nat) : (⟨(Lib.repeatL (⟨#[0]⟩ : ByteArray).data.toList c).toArray⟩ : ByteArray) = str (List.replicate c 0) := by
  unfold str
  congr 2
  induction c with
  | zero => rfl
  | succ n ih =>
    show [0] ++ Lib.repeatL [0] n = _
    rw [show Lib.repeatL [0] n = List.map UInt8.ofNat (List.replicate n 0) from ih]
    rfl

theorem inter_nil : ∀ xs : List (List UInt8), ([] : List UInt8).intercalate xs = xs.flatten
  | [] => rfl
  | [a] => by simp [List.intercalate]
  | a :: b :: l => by
    have h := inter_nil (b :: l)
    simp only [List.intercalate, List.intersperse] at h ⊢
    simp only [List.flatten_cons, List.nil_append] at h ⊢
    rw [h]
theorem Strs.keptO {w w' : World} {o : Nat} {x : List Nat} {ao : Option Addr} {L : List (List Nat)} (h : Strs w ao L) (ho : OutAt w o x) (hk : KeptB o w w') : Strs w' ao L := by
  intro i hi
  obtain ⟨sb, so, ha, hc⟩ := h i hi
  refine ⟨sb, so, ha, ?_⟩
  obtain ⟨p, ts, hb, _⟩ := ho
  have hlt := block_lt_of_cell hc
  have hne : sb ≠ o := fun e => by
    subst e
    rw [Lib.cell_of_heap hb] at hc
    match so + i, hc with
    | 0, hc => exact absurd hc (by simp)
    | 1, hc => exact absurd hc (by simp)
    | _ + 2, hc => exact absurd hc (by simp)
  rw [← hc]
  simp only [World.cell?, hk.block sb hlt hne]

namespace Wx
/-- The bytes of texts, each behind its length. -/
def texts (L : List (List Nat)) : List Nat := (L.map fun s => num8 s.length ++ s).flatten
theorem texts_succ (L : List (List Nat)) (k : Nat) (h : k < L.length) : texts (L.take k) ++ (num8 (L.getD k []).length ++ L.getD k []) = texts (L.take (k + 1)) := by
  rw [List.take_succ_eq_append_getElem h]
  simp only [texts, List.map_append, List.flatten_append, List.map_cons, List.map_nil, List.flatten_cons, List.flatten_nil, List.append_nil]
  rw [List.getD_eq_getElem?_getD, List.getElem?_eq_getElem h, Option.getD_some]
theorem texts_le (L : List (List Nat)) : (texts L).length = 8 * L.length + L.flatten.length := by
  induction L with
  | nil => rfl
  | cons a l ih => simp only [texts, List.map_cons, List.flatten_cons, List.length_append, num8_length, List.length_cons] at ih ⊢; omega
theorem nums8_one (n : Nat) : nums8 [(n : Int)] = num8 n := by simp [nums8]
end Wx
theorem flat_take_le (L : List (List Nat)) (k : Nat) : (L.take k).flatten.length ≤ L.flatten.length := by
  conv => rhs; rw [← List.take_append_drop k L, List.flatten_append, List.length_append]
  omega
theorem flat_get_le (L : List (List Nat)) (k : Nat) : (L.getD k []).length ≤ L.flatten.length := by
  by_cases h : k < L.length
  · conv => rhs; rw [← List.take_append_drop k L, List.flatten_append, List.length_append, List.drop_eq_getElem_cons h, List.flatten_cons, List.length_append]
    rw [List.getD_eq_getElem?_getD, List.getElem?_eq_getElem h, Option.getD_some]
    omega
  · rw [List.getD_eq_getElem?_getD, List.getElem?_eq_none (by omega)]; simp
theorem ints_one_at (w : World) (n : Int) (t : TypeId) : IntsB (w.alloc (.cells #[.int .i64 n] t)) (some ⟨w.heap.size, 0, none⟩) [n] := by
  intro i hi
  obtain rfl : i = 0 := by simpa using hi
  exact ⟨_, _, rfl, cell_of_row _ _ _ _ _ _ (heap_alloc_new _ _)⟩

set_option maxHeartbeats 1000000 in
set_option maxRecDepth 100000 in
theorem otext_any (o : Nat) (x : List Nat) (ao : Option Addr) (cap : Nat) (L : List (List Nat)) (w : World) (h : OutAt w o x) (hA : Strs w ao L) (hL : L.length ≤ 1000) (hb : L.flatten.length ≤ 1000000) (hl : x.length ≤ 1000000000) :
    Calls Tryd.prog 7 #[.pointer (some ⟨o, 0, none⟩), .slice ao L.length cap] w fun e w' => e = .returned (.pointer (some ⟨o, 0, none⟩)) ∧ OutAt w' o (x ++ Wx.texts L) ∧ KeptB o w w' := by
  have HO := hid h
  have HA := hid hA
  clear h hA
  go_enter Tryd.func7, Tryd.ntmps7
  go_upto_region 2 with (fail)
  go_loopw [9] (fun i wr => ∃ k : Nat, k ≤ L.length ∧ i = .int .i64 k ∧ OutAt wr o (x ++ Wx.texts (L.take k)) ∧ KeptB o w wr)
    (fun i _ => L.length - (intOf i).toNat)
  case atStart => exact ⟨0, by omega, rfl, by rw [List.take_zero]; simpa [Wx.texts] using HO.out, KeptB.refl _ _⟩
  case round =>
    obtain ⟨k, hk, rfl, hout, hkept⟩ := hrel
    by_cases hlt : k < L.length
    · obtain ⟨sb, so, hao, hc⟩ := (HA.out.keptO HO.out hkept) k hlt
      subst hao
      have HNX := hid (show ((x ++ Wx.texts (L.take k)) ++ Wx.nums8 [((L.getD k []).length : Int)]) ++ L.getD k [] = x ++ Wx.texts (L.take (k + 1)) from by
        rw [Wx.nums8_one, List.append_assoc, List.append_assoc, Wx.texts_succ L k hlt])
      have hpl := Wx.texts_le (L.take k)
      have hf1 := flat_take_le L k
      have hf2 := flat_get_le L k
      rw [List.length_take] at hpl
      have hz := str_size (L.getD k [])
      have hpl2 : (x ++ Wx.texts (L.take k)).length ≤ 1010000000 := by rw [List.length_append]; omega
      generalize L.getD k [] = s at *
      generalize x ++ Wx.texts (L.take k) = pre at *
      have HNU := hid (onum_any o pre (some ⟨wr.heap.size, 0, none⟩) 1 [(s.length : Int)] (wr.alloc (.cells #[.int .i64 (s.length : Int)] 3)) (hout.below ((Below.refl _ _).alloc (Nat.le_refl _) _)) (ints_one_at wr _ _) (by simp) (by intro n hn; simp at hn; omega) (by omega))
      have HAD := hid (fun wx hx => oadd_any o (pre ++ Wx.nums8 [(s.length : Int)]) s wx hx (by rw [List.length_append, Wx.nums8_length]; simp; omega))
      have HKA := hid (show KeptB o wr (wr.alloc (.cells #[.int .i64 (s.length : Int)] 3)) from KeptB.of_below ((Below.refl _ _).alloc (Nat.le_refl _) _))
      have HK := hid hkept
      rw [show [(s.length : Int)].length = 1 from rfl] at HNU
      clear hout hkept hpl hf1 hf2 hpl2
      go_wp2_with (first
        | (go_at_call 6; refine HNU.out.mono ?_; rintro e w1 ⟨rfl, ho1, hk1⟩)
        | (go_at_call 20; refine (HAD.out _ ho1).mono ?_; rintro e w2 ⟨rfl, ho2, hk2⟩))
      go_roundw
      case rel =>
        rw [HNX.out] at ho2
        first
          | exact ⟨k + 1, by omega, by go_num, ho2, ((HK.out.trans HKA.out).trans hk1).trans hk2⟩
          | ((repeat apply Exists.intro); refine ⟨?_, rfl⟩; exact ⟨k + 1, by omega, by go_num, ho2, ((HK.out.trans HKA.out).trans hk1).trans hk2⟩)
      case measure => simp [intOf]; omega
    · obtain rfl : k = L.length := by omega
      rw [List.take_length] at hout
      have HOUT := hid hout
      have HK := hid hkept
      clear hout hkept
      go_wp2
      go_ret
      exact ⟨rfl, HOUT.out, HK.out⟩
end Go.Proofs.YtlifdngnhbcdiaaDoor

/-
  Layer 6: what lies in a wire.In, and what its calls take.
-/
namespace Go.Proofs.YtlifdngnhbcdiaaDoor
open Go.RowKit
open Go.Lib (hid)

namespace Wx
/-- What Fail leaves of what is left and the first error. -/
def ifail (s : List Nat) (e q : Int) : List Nat × Int := if q = 0 ∨ e ≠ 0 then (s, e) else ([], q)
/-- What Raw leaves, and takes. -/
def iraw (s : List Nat) (e n : Int) : (List Nat × Int) × List Nat := if s.length < n.toNat then (ifail s e 2, []) else ((s.drop n.toNat, e), s.take n.toNat)
/-- The number of bytes, the greatest first. -/
def beval (t : List Nat) : Nat := t.foldl (fun v c => v * 256 + c) 0
/-- What Num leaves, and takes. -/
def inum (s : List Nat) (e : Int) : (List Nat × Int) × Nat :=
  if (iraw s e 8).2 = [] then ((iraw s e 8).1, 0) else if 9223372036854775808 ≤ beval (iraw s e 8).2 then (ifail (iraw s e 8).1.1 (iraw s e 8).1.2 1, 0) else ((iraw s e 8).1, beval (iraw s e 8).2)
/-- What Text leaves, and takes. -/
def itext (s : List Nat) (e : Int) : (List Nat × Int) × List Nat := iraw (inum s e).1.1 (inum s e).1.2 ((inum s e).2 : Int)
end Wx

/-- The In at block b has s left, and the first error e. -/
def InAt (w : World) (b : Nat) (r : List Nat × Int) : Prop := w.heap[b]? = some (.cells #[.string (str r.1), .int .i64 r.2] 74 (0, 0))
theorem InAt.lt {w : World} {b : Nat} {r : List Nat × Int} (h : InAt w b r) : b < w.heap.size := (Array.getElem?_eq_some_iff.1 h).1
theorem InAt.below {w w' : World} {b : Nat} {r : List Nat × Int} (h : InAt w b r) (hb : Below w.heap.size w w') : InAt w' b r := by
  unfold InAt; rw [hb.block b h.lt]; exact h
theorem InAt.c0 {w : World} {b : Nat} {r : List Nat × Int} (h : InAt w b r) : w.cell? ⟨b, 0, none⟩ = some (.string (str r.1)) := by rw [Lib.cell_of_heap h]; rfl
theorem InAt.c1 {w : World} {b : Nat} {r : List Nat × Int} (h : InAt w b r) : w.cell? ⟨b, 1, none⟩ = some (.int .i64 r.2) := by rw [Lib.cell_of_heap h]; rfl
theorem InAt.fr {w : World} {b : Nat} {r : List Nat × Int} (h : InAt w b r) (i : Nat) : w.frozen? ⟨b, i, none⟩ = false := Lib.frozen_of_heap h i
theorem InAt.set0 {w : World} {b : Nat} {r : List Nat × Int} (h : InAt w b r) (s : List Nat) : InAt (w.setCell ⟨b, 0, none⟩ (.string (str s))) b (s, r.2) := by
  unfold InAt; rw [heap_setCell_same w b 0 _ _ _ h]; rfl
theorem InAt.set1 {w : World} {b : Nat} {r : List Nat × Int} (h : InAt w b r) (e : Int) : InAt (w.setCell ⟨b, 1, none⟩ (.int .i64 e)) b (r.1, e) := by
  unfold InAt; rw [heap_setCell_same w b 1 _ _ _ h]; rfl

set_option maxRecDepth 100000 in
theorem wof_any (s : ByteArray) (w : World) :
    Calls Tryd.prog 14 #[.string s] w fun e w' => e = .returned (.pointer (some ⟨w.heap.size, 0, none⟩)) ∧ w' = w.alloc (.cells #[.string s, .int .i64 0] 74) := by
  go_enter Tryd.func14, Tryd.ntmps14
  go_wp2
  go_ret
  exact ⟨rfl, rfl⟩

set_option maxHeartbeats 1000000 in
set_option maxRecDepth 100000 in
theorem ifail_any (b : Nat) (s : List Nat) (e q : Int) (w : World) (h : InAt w b (s, e)) :
    Calls Tryd.prog 29 #[.pointer (some ⟨b, 0, none⟩), .int .i64 q] w fun r w' => r = .returned (.tuple #[]) ∧ InAt w' b (Wx.ifail s e q) ∧ KeptB b w w' := by
  have c1 := h.c1
  have c0 := h.c0
  have f0 := h.fr 0
  have HI := hid h
  by_cases hq : q = 0
  · subst hq
    clear h
    go_enter Tryd.func29, Tryd.ntmps29
    go_wp2
    refine bodyPost_ret (results_none rfl _ _ _) rfl ?_
    exact ⟨rfl, by rw [show Wx.ifail s e 0 = (s, e) from by simp [Wx.ifail]]; exact HI.out, KeptB.refl _ _⟩
  · by_cases he : e = 0
    · subst he
      have f1 := fun v : ByteArray => frozen_of_row (w.setCell ⟨b, 0, none⟩ (.string v)) b 1 _ _ (heap_setCell_same w b 0 _ _ (.string v) h)
      have c2 := fun v : ByteArray => cell_of_row (w.setCell ⟨b, 0, none⟩ (.string v)) b 1 _ _ _ (heap_setCell_same w b 0 _ _ (.string v) h)
      simp at c2
      clear h
      go_enter Tryd.func29, Tryd.ntmps29
      go_wp2
      go_end0
      refine ⟨rfl, ?_, ((KeptB.refl _ _).setCell _).setCell _⟩
      rw [show Wx.ifail s 0 q = ([], q) from by simp [Wx.ifail, hq]]
      exact (HI.out.set0 []).set1 q
    · have hqb : (q == 0) = false := by simp [hq]
      have heb : (e != 0) = true := by simp [he]
      clear h
      go_enter Tryd.func29, Tryd.ntmps29
      go_wp2
      refine bodyPost_ret (results_none rfl _ _ _) rfl ?_
      exact ⟨rfl, by rw [show Wx.ifail s e q = (s, e) from by simp [Wx.ifail, he]]; exact HI.out, KeptB.refl _ _⟩

set_option maxRecDepth 100000 in
theorem iend_any (b : Nat) (s : List Nat) (e : Int) (w : World) (h : InAt w b (s, e)) :
    Calls Tryd.prog 17 #[.pointer (some ⟨b, 0, none⟩)] w fun r w' => r = .returned (.int .i64 (if s = [] then e else 1)) ∧ w' = w := by
  have c0 := h.c0
  have c1 := h.c1
  clear h
  cases s with
  | nil =>
    rw [show str ([], e).1 = ⟨#[]⟩ from rfl] at c0
    rw [if_pos rfl]
    go_enter Tryd.func17, Tryd.ntmps17
    go_wp2
    go_ret
    exact ⟨rfl, rfl⟩
  | cons c s' =>
    have hne := str_ne_nil c s'
    rw [if_neg (by simp)]
    generalize hss : c :: s' = ss at *
    clear hss
    go_enter Tryd.func17, Tryd.ntmps17
    go_wp2
    go_ret
    exact ⟨rfl, rfl⟩

set_option maxHeartbeats 1000000 in
set_option maxRecDepth 100000 in
theorem iraw_any (b : Nat) (s : List Nat) (e n : Int) (w : World) (h : InAt w b (s, e)) (hs : ∀ c ∈ s, c < 256) :
    Calls Tryd.prog 28 #[.pointer (some ⟨b, 0, none⟩), .int .i64 n] w fun r w' => r = .returned (.string (str (Wx.iraw s e n).2)) ∧ InAt w' b (Wx.iraw s e n).1 ∧ KeptB b w w' := by
  have HI := hid h
  obtain ⟨k, hk⟩ : ∃ k : Nat, n.toNat = k := ⟨_, rfl⟩
  have hk1 : (if (0 : Int) < n then n else 0) = (k : Int) := by split <;> omega
  have hk2 : (if n < 0 then (0 : Int) else n) = (k : Int) := by split <;> omega
  have hk3 : (if n ≤ 0 then (0 : Int) else n) = (k : Int) := by split <;> omega
  have hk4 : (if 0 ≤ n then n else 0) = (k : Int) := by split <;> omega
  have hk5 : max 0 n = (k : Int) := by omega
  have c0 := h.c0
  have f0 := h.fr 0
  have hz : (str s).size = s.length := str_size s
  by_cases hlt : s.length < k
  · have e1 : Wx.iraw s e n = (Wx.ifail s e 2, []) := by unfold Wx.iraw; rw [hk, if_pos hlt]
    rw [e1]
    have HF := hid (ifail_any b s e 2 w h)
    clear h e1
    go_enter Tryd.func28, Tryd.ntmps28
    go_wp2_with (go_at_call 29; refine HF.out.mono ?_; rintro r w1 ⟨rfl, hi1, hk1⟩)
    go_ret
    exact ⟨rfl, hi1, hk1⟩
  · have e1 : Wx.iraw s e n = ((s.drop k, e), s.take k) := by unfold Wx.iraw; rw [hk, if_neg hlt]
    rw [e1]
    have hex1 : (str s).extract 0 k = str (s.take k) := by
      have := extract_mid s hs 0 k
      rwa [Nat.zero_add, List.drop_zero] at this
    have hex2 : (str s).extract k s.length = str (s.drop k) := by
      have := extract_mid s hs k (s.length - k)
      rwa [show k + (s.length - k) = s.length from by omega, List.take_of_length_le (by simp)] at this
    have hle : (k : Int) ≤ (s.length : Int) := by omega
    clear h e1
    go_enter Tryd.func28, Tryd.ntmps28
    go_wp2
    go_ret
    exact ⟨rfl, HI.out.set0 _, (KeptB.refl _ _).setCell _⟩
end Go.Proofs.YtlifdngnhbcdiaaDoor

/-
  Layer 6: the numbers and texts that a wire.In takes.
-/
namespace Go.Proofs.YtlifdngnhbcdiaaDoor
open Go.RowKit
open Go.Lib (hid)

namespace Wx
theorem beval_snoc (t : List Nat) (c : Nat) : beval (t ++ [c]) = beval t * 256 + c := by simp [beval]
theorem beval_succ (t : List Nat) (k : Nat) (h : k < t.length) : beval (t.take (k + 1)) = beval (t.take k) * 256 + t.getD k 0 := by
  rw [← take_getD_succ t k h, beval_snoc]
theorem beval_lt (t : List Nat) (h : ∀ c ∈ t, c < 256) (k : Nat) : beval (t.take k) < 256 ^ k := by
  induction k with
  | zero => simp [beval]
  | succ n ih =>
    by_cases hn : n < t.length
    · rw [beval_succ t n hn, Nat.pow_succ]
      have := getD_lt (by omega) h n
      omega
    · rw [List.take_of_length_le (by omega), Nat.pow_succ]
      rw [List.take_of_length_le (by omega)] at ih
      omega
theorem ifail_lt (s : List Nat) (e q : Int) (h : ∀ c ∈ s, c < 256) : ∀ c ∈ (ifail s e q).1, c < 256 := by
  unfold ifail
  split
  · exact h
  · simp
theorem iraw_lt (s : List Nat) (e n : Int) (h : ∀ c ∈ s, c < 256) : (∀ c ∈ (iraw s e n).1.1, c < 256) ∧ ∀ c ∈ (iraw s e n).2, c < 256 := by
  unfold iraw
  split
  · exact ⟨ifail_lt s e 2 h, by simp⟩
  · exact ⟨fun c hc => h c (List.mem_of_mem_drop hc), fun c hc => h c (List.mem_of_mem_take hc)⟩
theorem inum_lt (s : List Nat) (e : Int) (h : ∀ c ∈ s, c < 256) : ∀ c ∈ (inum s e).1.1, c < 256 := by
  unfold inum
  split
  · exact (iraw_lt s e 8 h).1
  · split
    · exact ifail_lt _ _ _ (iraw_lt s e 8 h).1
    · exact (iraw_lt s e 8 h).1
theorem itext_lt (s : List Nat) (e : Int) (h : ∀ c ∈ s, c < 256) : (∀ c ∈ (itext s e).1.1, c < 256) ∧ ∀ c ∈ (itext s e).2, c < 256 :=
  iraw_lt _ _ _ (inum_lt s e h)
end Wx
theorem wraps_u64 (n : Int) (h0 : 0 ≤ n) (h1 : n < 2 ^ 64) : IntKind.u64.wrap n = n := by rw [IntKind.wrap_u64]; omega
theorem or64 (v c : Nat) (hv : v < 72057594037927936) (hc : c < 256) : bits .or .u64 ((v : Int) * 256) (c : Int) = ((v * 256 + c : Nat) : Int) := by
  have h := (bits_nat .u64 64 (by decide) wraps_u64 (v * 256) c (by omega) (by omega)).2
  rw [show ((v : Int) * 256) = ((v * 256 : Nat) : Int) from by omega, h]
  congr 1
  have := Nat.two_pow_add_eq_or_of_lt (i := 8) (b := c) (by omega) v
  rw [show v * 256 = 2 ^ 8 * v from by omega]
  exact this.symm
theorem itext_eq (s : List Nat) (e : Int) : Wx.itext s e = Wx.iraw (Wx.inum s e).1.1 (Wx.inum s e).1.2 ((Wx.inum s e).2 : Int) := rfl

set_option maxHeartbeats 1000000 in
set_option maxRecDepth 100000 in
theorem inum_any (b : Nat) (s : List Nat) (e : Int) (w : World) (h : InAt w b (s, e)) (hs : ∀ c ∈ s, c < 256) :
    Calls Tryd.prog 15 #[.pointer (some ⟨b, 0, none⟩)] w fun r w' => r = .returned (.int .i64 ((Wx.inum s e).2 : Int)) ∧ InAt w' b (Wx.inum s e).1 ∧ KeptB b w w' := by
  have HR := hid (iraw_any b s e 8 w h hs)
  have HTB := hid (show ∀ c ∈ (Wx.iraw s e 8).2, c < 256 from by
    unfold Wx.iraw
    split
    · simp
    · exact fun c hc => hs c (List.mem_of_mem_take hc))
  have HTL := hid (show (Wx.iraw s e 8).2 ≠ [] → (Wx.iraw s e 8).2.length = 8 from by
    unfold Wx.iraw
    split
    · simp
    · rename_i h8
      intro _
      simp at h8
      show (s.take 8).length = 8
      rw [List.length_take]; omega)
  have HNU := hid (show Wx.inum s e = if (Wx.iraw s e 8).2 = [] then ((Wx.iraw s e 8).1, 0) else if 9223372036854775808 ≤ Wx.beval (Wx.iraw s e 8).2 then (Wx.ifail (Wx.iraw s e 8).1.1 (Wx.iraw s e 8).1.2 1, 0) else ((Wx.iraw s e 8).1, Wx.beval (Wx.iraw s e 8).2) from rfl)
  clear h hs
  generalize Wx.iraw s e 8 = R at *
  obtain ⟨⟨s1, e1⟩, t⟩ := R
  simp only at HR HTB HTL HNU
  cases t with
  | nil =>
    rw [if_pos rfl] at HNU
    rw [HNU.out]
    rw [show str [] = ⟨#[]⟩ from rfl] at HR
    go_enter Tryd.func15, Tryd.ntmps15
    go_wp2_with (go_at_call 28; refine HR.out.mono ?_; rintro r w1 ⟨rfl, hi1, hk1⟩)
    go_ret
    exact ⟨rfl, hi1, hk1⟩
  | cons c0 t' =>
    have hne := str_ne_nil c0 t'
    rw [if_neg (by simp)] at HNU
    have hl8 := HTL.out (by simp)
    generalize hss : c0 :: t' = t at *
    clear hss HTL
    have hz : (str t).size = 8 := by rw [str_size, hl8]
    have HSG : Hid (∀ j (hj : j < (str t).size), (str t)[j].toNat = t.getD j 0) := fun j hj => str_get t HTB.out j hj
    generalize hS : str t = ST at *
    clear hS
    go_enter Tryd.func15, Tryd.ntmps15
    go_upto_region 6 with (go_at_call 28; refine HR.out.mono ?_; rintro r w1 ⟨rfl, hi1, hk1⟩)
    have HI1 := hid hi1
    have HK1 := hid hk1
    clear hi1 hk1 HR
    go_loopw [4, 10] (fun v i wr => wr = w1 ∧ ∃ k : Nat, k ≤ 8 ∧ i = .int .i64 k ∧ v = .int .u64 (Wx.beval (t.take k) : Nat))
      (fun _ i _ => 8 - (intOf i).toNat)
    case atStart => exact ⟨by trivial, 0, by omega, rfl, by simp [Wx.beval]⟩
    case round =>
      obtain ⟨rfl, k, hk, rfl, rfl⟩ := hrel
      by_cases hlt : k < 8
      · have hlt' : k < ST.size := by omega
        have hsg := HSG.out k hlt'
        have hg := getD_lt (by omega) HTB.out k
        have hbv := Wx.beval_lt t HTB.out k
        have hb56 : Wx.beval (t.take k) < 72057594037927936 := Nat.lt_of_lt_of_le hbv (Nat.le_trans (Nat.pow_le_pow_right (by omega) (show k ≤ 7 by omega)) (by decide))
        have HSU := hid (Wx.beval_succ t k (by omega))
        generalize Wx.beval (t.take k) = v at *
        generalize t.getD k 0 = c at *
        have hor := or64 v c hb56 hg
        have hsh : (v : Int) * 256 % 18446744073709551616 = ((v * 256 : Nat) : Int) := by omega
        clear hb56 hbv
        go_wp2
        exact ⟨⟨by trivial, k + 1, by omega, by go_num, by rw [HSU.out]; congr 1⟩, by simp [intOf]; omega⟩
      · obtain rfl : k = 8 := by omega
        rw [List.take_of_length_le (by omega)]
        have hbv := Wx.beval_lt t HTB.out 8
        rw [List.take_of_length_le (by omega)] at hbv
        generalize Wx.beval t = v at *
        have hv : v < 18446744073709551616 := hbv
        have HF := hid (ifail_any b s1 e1 1 wr HI1.out)
        clear hbv
        rw [show ((8 : Nat) : Int) = 8 from rfl]
        by_cases hbig : 9223372036854775808 ≤ v
        · rw [if_pos hbig] at HNU
          have hd : (v : Int) / 9223372036854775808 = 1 := by omega
          go_wp2_with (go_at_call 29; refine HF.out.mono ?_; rintro r w2 ⟨rfl, hi2, hk2⟩)
          go_ret
          rw [HNU.out]
          exact ⟨rfl, hi2, HK1.out.trans hk2⟩
        · rw [if_neg hbig] at HNU
          have hd : (v : Int) / 9223372036854775808 = 0 := by omega
          go_wp2
          go_ret
          rw [HNU.out]
          exact ⟨rfl, HI1.out, HK1.out⟩

set_option maxHeartbeats 1000000 in
set_option maxRecDepth 100000 in
theorem itext_any (b : Nat) (s : List Nat) (e : Int) (w : World) (h : InAt w b (s, e)) (hs : ∀ c ∈ s, c < 256) :
    Calls Tryd.prog 16 #[.pointer (some ⟨b, 0, none⟩)] w fun r w' => r = .returned (.string (str (Wx.itext s e).2)) ∧ InAt w' b (Wx.itext s e).1 ∧ KeptB b w w' := by
  have HN := hid (inum_any b s e w h hs)
  have HB := hid (show ∀ c ∈ (Wx.inum s e).1.1, c < 256 from Wx.inum_lt s e hs)
  rw [itext_eq]
  clear h hs
  generalize Wx.inum s e = R at *
  obtain ⟨⟨s1, e1⟩, n⟩ := R
  have HR := hid (fun wx hx => iraw_any b s1 e1 (n : Int) wx hx HB.out)
  go_enter Tryd.func16, Tryd.ntmps16
  go_wp2_with (first
    | (go_at_call 15; refine HN.out.mono ?_; rintro r w1 ⟨rfl, hi1, hk1⟩)
    | (go_at_call 28; refine (HR.out _ hi1).mono ?_; rintro r w2 ⟨rfl, hi2, hk2⟩))
  go_ret
  exact ⟨rfl, hi2, hk1.trans hk2⟩
end Go.Proofs.YtlifdngnhbcdiaaDoor

/-
  Layer 6: numbers and their bytes: what is written is read; bytes rise as numbers do.
-/
namespace Go.Proofs.YtlifdngnhbcdiaaDoor
open Go.RowKit
open Go.Lib (hid)

theorem Wx.beval_from (l : List Nat) : ∀ v, l.foldl (fun v c => v * 256 + c) v = v * 256 ^ l.length + Wx.beval l := by
  induction l with
  | nil => intro v; simp [Wx.beval]
  | cons a l ih =>
    intro v
    have h0 : Wx.beval (a :: l) = a * 256 ^ l.length + Wx.beval l := by
      unfold Wx.beval
      rw [List.foldl_cons, ih, Nat.zero_mul, Nat.zero_add]
      rfl
    rw [List.foldl_cons, ih, h0, List.length_cons, Nat.pow_succ, Nat.add_mul]
    rw [show v * 256 * 256 ^ l.length = v * (256 ^ l.length * 256) from by rw [Nat.mul_assoc, Nat.mul_comm 256]]
    omega
theorem Wx.beval_cons (a : Nat) (l : List Nat) : Wx.beval (a :: l) = a * 256 ^ l.length + Wx.beval l := by
  show List.foldl _ _ _ = _
  rw [List.foldl_cons, Wx.beval_from]
  simp
theorem Wx.beval_bound (l : List Nat) (h : ∀ c ∈ l, c < 256) : Wx.beval l < 256 ^ l.length := by
  have := Wx.beval_lt l h l.length
  rwa [List.take_length] at this
theorem Wx.num8_val (x : Nat) (h : x < 18446744073709551616) : Wx.beval (Wx.num8 x) = x := by
  show List.foldl (fun v c => v * 256 + c) 0 [x / 2 ^ 56 % 256, x / 2 ^ 48 % 256, x / 2 ^ 40 % 256, x / 2 ^ 32 % 256, x / 2 ^ 24 % 256, x / 2 ^ 16 % 256, x / 2 ^ 8 % 256, x / 2 ^ 0 % 256] = x
  simp only [List.foldl_cons, List.foldl_nil]
  omega
theorem less_val : ∀ (l r : List Nat), l.length = r.length → (∀ c ∈ l, c < 256) → (∀ c ∈ r, c < 256) → Op.bytesLess (l.map UInt8.ofNat) (r.map UInt8.ofNat) = decide (Wx.beval l < Wx.beval r)
  | [], [], _, _, _ => by simp [Op.bytesLess, Wx.beval]
  | [], _ :: _, h, _, _ => by simp at h
  | _ :: _, [], h, _, _ => by simp at h
  | a :: l, b :: r, h, hl, hr => by
    have h' : l.length = r.length := by simpa using h
    have ih := less_val l r h' (fun c hc => hl c (by simp [hc])) (fun c hc => hr c (by simp [hc]))
    have b1 := Wx.beval_bound l (fun c hc => hl c (by simp [hc]))
    have b2 := Wx.beval_bound r (fun c hc => hr c (by simp [hc]))
    have a1 := hl a (by simp)
    have a2 := hr b (by simp)
    rw [Wx.beval_cons, Wx.beval_cons, ← h']
    rw [← h'] at b2
    simp only [List.map_cons, Op.bytesLess, ih]
    have e1 : (UInt8.ofNat a).toNat = a := by simp; omega
    have e2 : (UInt8.ofNat b).toNat = b := by simp; omega
    have l1 : decide (UInt8.ofNat a < UInt8.ofNat b) = decide (a < b) := by
      apply decide_eq_decide.2
      rw [UInt8.lt_iff_toNat_lt, e1, e2]
    have l2 : (UInt8.ofNat a == UInt8.ofNat b) = decide (a = b) := by
      rw [show (UInt8.ofNat a == UInt8.ofNat b) = decide (UInt8.ofNat a = UInt8.ofNat b) from rfl]
      apply decide_eq_decide.2
      rw [← UInt8.toNat_inj, e1, e2]
    rw [l1, l2]
    generalize 256 ^ l.length = p at *
    rcases Nat.lt_trichotomy a b with hlt | heq | hgt
    · have hm : (a + 1) * p ≤ b * p := Nat.mul_le_mul_right p hlt
      rw [Nat.add_mul] at hm
      rw [decide_eq_true hlt, Bool.true_or]
      exact (decide_eq_true (by omega)).symm
    · subst heq
      simp
    · have hm : (b + 1) * p ≤ a * p := Nat.mul_le_mul_right p hgt
      rw [Nat.add_mul] at hm
      rw [decide_eq_false (show ¬ a < b by omega), decide_eq_false (show ¬ a = b by omega), Bool.false_and, Bool.or_self]
      exact (decide_eq_false (by omega)).symm

namespace Wx
theorem iraw_app (t r : List Nat) (e : Int) : iraw (t ++ r) e (t.length : Int) = ((r, e), t) := by
  unfold iraw
  rw [Int.toNat_natCast, if_neg (by rw [List.length_append]; omega), List.drop_left' rfl, List.take_left' rfl]
theorem inum_num8 (v : Nat) (h : v < 9223372036854775808) (r : List Nat) (e : Int) : inum (num8 v ++ r) e = ((r, e), v) := by
  have h8 : iraw (num8 v ++ r) e 8 = ((r, e), num8 v) := by
    have := iraw_app (num8 v) r e
    rwa [num8_length] at this
  unfold inum
  rw [h8, if_neg (by intro hc; have := congrArg List.length hc; rw [num8_length] at this; simp at this), num8_val v (by omega), if_neg (by omega)]
theorem itext_text (t r : List Nat) (h : t.length < 9223372036854775808) (e : Int) : itext (num8 t.length ++ (t ++ r)) e = ((r, e), t) := by
  unfold itext
  rw [inum_num8 t.length h]
  exact iraw_app t r e
end Wx
end Go.Proofs.YtlifdngnhbcdiaaDoor
