/-
  Wire1, Wire2, Wire3, Wire4 in one text.
-/
import Derived.Test.YtgjkkcggcljcdaaDoorBase
import Derived.Test.YtgjkkcggcljcdaaDoorRg2
import Derived.Lib.Builder
import Derived.Test.YtgjkkcggcljcdaaDoorShelf
/-
  Layer 6: what lies in a wire.Out, and what its add does.
-/
namespace Go.Proofs.YtgjkkcggcljcdaaDoor
open Go.RowKit
open Go.Lib (hid)

/-- The parts from a pointer on, the last first. -/
def PartsAt (w : World) : Option Addr → List (List Nat) → Prop
  | none, [] => True
  | some a, t :: l => ∃ b p, a = ⟨b, 0, none⟩ ∧ t ≠ [] ∧ w.heap[b]? = some (.cells #[.pointer p, .string (str t)] 115 (0, 0)) ∧ PartsAt w p l
  | _, _ => False
/-- The Out at block o has written x. -/
def OutAt (w : World) (o : Nat) (x : List Nat) : Prop :=
  ∃ (p : Option Addr) (ts : List (List Nat)), w.heap[o]? = some (.cells #[.pointer p, .int .i64 (x.length : Int)] 76 (0, 0)) ∧ PartsAt w p ts ∧ ts.reverse.flatten = x
theorem nePart : (76 : TypeId) ≠ 115 := by decide
theorem PartsAt.keptB {w w' : World} {o : Nat} {cs : Array Value} {T : TypeId} (hk : KeptB o w w') (hT : T ≠ 115) (ho : w.heap[o]? = some (.cells cs T (0, 0))) :
    ∀ (ts : List (List Nat)) (p : Option Addr), PartsAt w p ts → PartsAt w' p ts
  | [], none, _ => trivial
  | [], some _, h => h.elim
  | _ :: _, none, h => h.elim
  | t :: l, some a, ⟨b, p, ha, hn, hb, hp⟩ => by
    refine ⟨b, p, ha, hn, ?_, PartsAt.keptB hk hT ho l p hp⟩
    rw [hk.block b (Array.getElem?_eq_some_iff.1 hb).1 (fun e => by
      subst e
      rw [ho] at hb
      injection hb with hb
      injection hb with _ h2 _
      exact hT h2)]
    exact hb
theorem PartsAt.below {w w' : World} (hk : Below w.heap.size w w') : ∀ (ts : List (List Nat)) (p : Option Addr), PartsAt w p ts → PartsAt w' p ts
  | [], none, _ => trivial
  | [], some _, h => h.elim
  | _ :: _, none, h => h.elim
  | t :: l, some a, ⟨b, p, ha, hn, hb, hp⟩ => by
    refine ⟨b, p, ha, hn, ?_, PartsAt.below hk l p hp⟩
    rw [hk.block b (Array.getElem?_eq_some_iff.1 hb).1]
    exact hb
theorem OutAt.below {w w' : World} {o : Nat} {x : List Nat} (h : OutAt w o x) (hk : Below w.heap.size w w') : OutAt w' o x := by
  obtain ⟨p, ts, ho, hp, hx⟩ := h
  exact ⟨p, ts, by rw [hk.block o (Array.getElem?_eq_some_iff.1 ho).1]; exact ho, PartsAt.below hk ts p hp, hx⟩
theorem OutAt.lt {w : World} {o : Nat} {x : List Nat} (h : OutAt w o x) : o < w.heap.size := by
  obtain ⟨p, ts, ho, _⟩ := h
  exact (Array.getElem?_eq_some_iff.1 ho).1
/-- An Out that another one's writing leaves alone. -/
theorem OutAt.keptB {w w' : World} {o o2 : Nat} {x y : List Nat} (h : OutAt w o x) (h2 : OutAt w o2 y) (hk : KeptB o2 w w') (hne : o ≠ o2) : OutAt w' o x := by
  obtain ⟨p, ts, ho, hp, hx⟩ := h
  obtain ⟨p2, ts2, ho2, _⟩ := h2
  exact ⟨p, ts, by rw [hk.block o (Array.getElem?_eq_some_iff.1 ho).1 hne]; exact ho, PartsAt.keptB hk nePart ho2 ts p hp, hx⟩
theorem OutAt.zero (w : World) : OutAt (w.alloc (.cells #[.pointer none, .int .i64 0] 76)) w.heap.size [] :=
  ⟨none, [], heap_alloc_new _ _, trivial, rfl⟩

theorem str_ne_nil (c : Nat) (s : List Nat) : (str (c :: s)).toList.isEmpty = false := by
  rw [str_toList]; rfl

set_option maxHeartbeats 1000000 in
set_option maxRecDepth 100000 in
theorem oadd_any (o : Nat) (x s : List Nat) (w : World) (h : OutAt w o x) (hl : x.length + s.length ≤ 1000000000000) :
    Calls Tryd.prog 51 #[.pointer (some ⟨o, 0, none⟩), .string (str s)] w fun e w' => e = .returned (.pointer (some ⟨o, 0, none⟩)) ∧ OutAt w' o (x ++ s) ∧ KeptB o w w' := by
  cases s with
  | nil =>
    have h0 : str [] = ⟨#[]⟩ := rfl
    rw [h0, List.append_nil]
    have H := hid h
    clear h
    go_enter Tryd.func51, Tryd.ntmps51
    go_wp2
    go_ret
    exact ⟨rfl, H.out, KeptB.refl _ _⟩
  | cons c s' =>
    have hne := str_ne_nil c s'
    have hz := str_size (c :: s')
    have HNE := hid (List.cons_ne_nil c s')
    generalize hs : c :: s' = s at *
    obtain ⟨p, ts, ho, hp, hx⟩ := h
    have c0 : w.cell? ⟨o, 0, none⟩ = some (.pointer p) := by rw [Lib.cell_of_heap ho]; rfl
    have c1 : w.cell? ⟨o, 1, none⟩ = some (.int .i64 (x.length : Int)) := by rw [Lib.cell_of_heap ho]; rfl
    have hlt : o < w.heap.size := (Array.getElem?_eq_some_iff.1 ho).1
    have ho1 := fun O => (Below.heap_alloc w O o hlt).trans ho
    have d0 : ∀ O, (w.alloc O).cell? ⟨o, 0, none⟩ = some (.pointer p) := fun O => by rw [Lib.cell_of_heap (ho1 O)]; rfl
    have e0 : ∀ O, (w.alloc O).frozen? ⟨o, 0, none⟩ = false := fun O => Lib.frozen_of_heap (ho1 O) 0
    have ho2 := fun O v => heap_setCell_same (w.alloc O) o 0 _ _ v (ho1 O)
    have d1 : ∀ O v, ((w.alloc O).setCell ⟨o, 0, none⟩ v).cell? ⟨o, 1, none⟩ = some (.int .i64 (x.length : Int)) := fun O v => by rw [Lib.cell_of_heap (ho2 O v)]; rfl
    have e1 : ∀ O v, ((w.alloc O).setCell ⟨o, 0, none⟩ v).frozen? ⟨o, 1, none⟩ = false := fun O v => Lib.frozen_of_heap (ho2 O v) 1
    have HO2 := hid ho2
    have HLT := hid hlt
    clear ho1 ho2 hlt
    have HP := hid hp
    have HX := hid hx
    have HO := hid ho
    have HZ := hid hz
    clear hp hx ho hs
    go_enter Tryd.func51, Tryd.ntmps51
    go_wp2
    go_ret
    have hk : KeptB o w (((w.alloc (.cells #[.pointer p, .string (str s)] 115)).setCell ⟨o, 0, none⟩ (.pointer (some ⟨w.heap.size, 0, none⟩))).setCell ⟨o, 1, none⟩ (.int .i64 ((x.length : Int) + (s.length : Int)))) :=
      ((KeptB.of_below ((Below.refl _ _).alloc (Nat.le_refl _) _)).setCell _).setCell _
    have hlt := HLT.out
    refine ⟨rfl, ⟨some ⟨w.heap.size, 0, none⟩, s :: ts, ?_, ⟨w.heap.size, p, rfl, HNE.out, ?_, PartsAt.keptB hk nePart HO.out ts p HP.out⟩, ?_⟩, hk⟩
    · rw [heap_setCell_same _ o 1 _ _ _ (HO2.out _ _), List.length_append]
      rfl
    · rw [heap_setCell_other _ ⟨o, 1, none⟩ w.heap.size _ (by simp; omega), heap_setCell_other _ ⟨o, 0, none⟩ w.heap.size _ (by simp; omega)]
      exact heap_alloc_new _ _
    · rw [List.reverse_cons, List.flatten_append, HX.out]; simp
end Go.Proofs.YtgjkkcggcljcdaaDoor

/-
  Layer 6: what wire.Out's Num writes.
-/
namespace Go.Proofs.YtgjkkcggcljcdaaDoor
open Go.RowKit
open Go.Lib (hid)

namespace Wx
/-- The eight bytes of a number, the greatest first. -/
def num8 (v : Nat) : List Nat := (List.range 8).map fun i => v / 2 ^ (8 * (7 - i)) % 256
theorem num8_length (v : Nat) : (num8 v).length = 8 := by simp [num8]
theorem num8_lt (v : Nat) : ∀ x ∈ num8 v, x < 256 := by
  intro x hx
  simp only [num8, List.mem_map] at hx
  obtain ⟨i, _, rfl⟩ := hx
  omega
theorem num8_get (v i : Nat) (h : i < 8) : (num8 v).getD i 0 = v / 2 ^ (8 * (7 - i)) % 256 := by
  simp [num8, List.getD_eq_getElem?_getD, h]
/-- The bytes of numbers, a negative one's as of nought. -/
def nums8 (L : List Int) : List Nat := (L.map fun n => num8 n.toNat).flatten
theorem nums8_length (L : List Int) : (nums8 L).length = 8 * L.length := by
  induction L with
  | nil => rfl
  | cons a l ih => simp only [nums8, List.map_cons, List.flatten_cons, List.length_append, num8_length, List.length_cons] at ih ⊢; omega
theorem nums8_lt (L : List Int) : ∀ x ∈ nums8 L, x < 256 := by
  intro x hx
  simp only [nums8, List.mem_flatten, List.mem_map] at hx
  obtain ⟨l, ⟨n, _, rfl⟩, hx⟩ := hx
  exact num8_lt _ x hx
theorem nums8_succ (L : List Int) (k : Nat) (h : k < L.length) : nums8 (L.take k) ++ num8 (L.getD k 0).toNat = nums8 (L.take (k + 1)) := by
  rw [List.take_succ_eq_append_getElem h]
  simp only [nums8, List.map_append, List.flatten_append, List.map_cons, List.map_nil, List.flatten_cons, List.flatten_nil, List.append_nil]
  rw [List.getD_eq_getElem?_getD, List.getElem?_eq_getElem h, Option.getD_some]
end Wx

/-- No byte yet, room for n. -/
theorem run_made0 (n : Nat) (hn : n ≤ 1000000) (w : World) : (Instr.makeSlice 46 (.int .i64 0) (.int .i64 (n : Int))).run Tryd.prog w = .ok (.slice (some ⟨w.heap.size, 0, none⟩) 0 n) (w.alloc (.cells (ints .u8 (List.replicate n 0)) 5)) := by
  obtain ⟨i, hi, hz0, hz1, hz2⟩ := info_parts info5
  have h := run_make (P := Tryd.prog) w 46 5 i (.int .u8 0) Tryd.underlying46 hi hz0 .i64 .i64 0 n (by omega) (by omega) (by rw [hz2]; omega) (by omega)
  rw [h, hz1]
  have e : madeCells (Value.int .u8 0).cells (n * 1) = ints .u8 (List.replicate n 0) := by
    apply Array.ext
    · simp [madeCells, ints]
    · intro i h1 h2
      simp [madeCells, ints, Value.cells, Nat.mod_one]
  simp only [Int.toNat_natCast, e]
  rfl

set_option maxHeartbeats 1000000 in
set_option maxRecDepth 100000 in
theorem onum_any (o : Nat) (x : List Nat) (ao : Option Addr) (cap : Nat) (L : List Int) (w : World) (h : OutAt w o x) (hA : IntsB w ao L) (hL : L.length ≤ 1000) (hb : ∀ n ∈ L, n ≤ 9223372036854775807) (hl : x.length ≤ 100000000000) :
    Calls Tryd.prog 31 #[.pointer (some ⟨o, 0, none⟩), .slice ao L.length cap] w fun e w' => e = .returned (.pointer (some ⟨o, 0, none⟩)) ∧ OutAt w' o (x ++ Wx.nums8 L) ∧ KeptB o w w' := by
  have HO := hid h
  have HA := hid hA
  have HB := hid hb
  clear h hA hb
  have hmk := fun wx => run_made0 (8 * L.length) (by omega) wx
  rw [show ((8 * L.length : Nat) : Int) = 8 * (L.length : Int) from by omega] at hmk
  go_enter Tryd.func31, Tryd.ntmps31
  go_upto_region 3 with (fail)
  clear hmk
  have hsz0 := HO.out.lt
  have HOW := hid (Own.made w w.heap.size (8 * L.length) (Nat.le_refl _) (by omega))
  have HB0 := hid (show Below w.heap.size w (w.alloc (.cells (ints .u8 (List.replicate (8 * L.length) 0)) 5)) from (Below.refl _ _).alloc (Nat.le_refl _) _)
  generalize w.alloc _ = w0 at *
  go_loopw [5, 16] (fun v i wr => ∃ k : Nat, k ≤ L.length ∧ i = .int .i64 k ∧ Own wr w.heap.size v (Wx.nums8 (L.take k)) ∧ Below w.heap.size w wr)
    (fun _ i _ => L.length - (intOf i).toNat)
  case atStart => exact ⟨0, by omega, rfl, HOW.out, HB0.out⟩
  case round =>
    clear HOW HB0
    obtain ⟨k, hk, rfl, hown, hbel⟩ := hrel
    by_cases hlt : k < L.length
    · obtain ⟨sb, so, hao, hc⟩ := HA.out.below hbel k hlt
      have hm0 := HB.out (L.getD k 0) (by rw [List.getD_eq_getElem?_getD, List.getElem?_eq_getElem hlt, Option.getD_some]; exact List.getElem_mem hlt)
      have HNX := hid (Wx.nums8_succ L k hlt)
      have HPL := hid (show (Wx.nums8 (L.take k)).length = 8 * k from by rw [Wx.nums8_length, List.length_take]; omega)
      have HOWN := hid hown
      have HBEL := hid hbel
      have hsz := hbel.size
      clear hown hbel
      subst hao
      generalize L.getD k 0 = q at *
      obtain ⟨v, hv⟩ : ∃ v : Nat, max 0 q = (v : Int) := ⟨q.toNat, by omega⟩
      have hv2 : q.toNat = v := by omega
      have hv3 : (v : Int) % 18446744073709551616 = (v : Int) := by omega
      rw [hv2] at HNX
      have hv4 : (if (0 : Int) < q then q else 0) = (v : Int) := by split <;> omega
      have hv5 : (if q < 0 then (0 : Int) else q) = (v : Int) := by split <;> omega
      have hv6 : (if q ≤ 0 then (0 : Int) else q) = (v : Int) := by split <;> omega
      have hv7 : (if 0 ≤ q then q else 0) = (v : Int) := by split <;> omega
      clear hm0 hv2
      generalize Wx.nums8 (L.take k) = pre at *
      go_upto_region 7 with (fail)
      clear hv hc hv3 hv4 hv5 hv6 hv7
      go_loopw [5, 23] (fun u i wq => ∃ n : Nat, n ≤ 8 ∧ i = .int .i64 n ∧ Own wq w.heap.size u (pre ++ (Wx.num8 v).take n) ∧ Below w.heap.size w wq)
        (fun _ i _ => 8 - (intOf i).toNat)
      case atStart => exact ⟨0, by omega, rfl, by rw [List.take_zero, List.append_nil]; exact HOWN.out, HBEL.out⟩
      case round =>
        clear HOWN HBEL
        obtain ⟨n, hn, rfl, hown, hbel⟩ := hrel
        by_cases hlt2 : n < 8
        · obtain ⟨m, hm⟩ : ∃ m : Nat, m = 7 - n := ⟨_, rfl⟩
          have h7 : 7 - (n : Int) = (m : Int) := by omega
          have hmm : m ≤ 7 := by omega
          have hsh : (v : Int) / 2 ^ (8 * m) % 256 = ((v / 2 ^ (8 * m) % 256 : Nat) : Int) := by simp
          have HGT := hid (show (Wx.num8 v).getD n 0 = v / 2 ^ (8 * m) % 256 from by rw [hm]; exact Wx.num8_get v n hlt2)
          have HTL := hid (show (pre ++ (Wx.num8 v).take n).length = 8 * k + n from by rw [List.length_append, HPL.out, List.length_take, Wx.num8_length]; omega)
          have HTS := hid (take_getD_succ (Wx.num8 v) n (by rw [Wx.num8_length]; exact hlt2))
          rw [HGT.out] at HTS
          have HOWN := hid hown
          have HBEL := hid hbel
          have hsz2 := hbel.size
          clear hown hbel hm
          generalize v / 2 ^ (8 * m) % 256 = z at *
          go_wp2_with (refine wpList_app rfl _ _ rfl w.heap.size _ (pre ++ (Wx.num8 v).take n) rfl (HOWN.out.below ((Below.refl _ _).alloc (Nat.le_refl _) _)) _ 1 1 [z] rfl rfl (cells_one wr z _) (by rw [HTL.out]; omega) (by simp; omega) ?_; intro v' w' hown' hbel')
          go_roundw
          case rel =>
            rw [List.append_assoc, HTS.out] at hown'
            first
              | exact ⟨n + 1, by omega, by go_num, hown', (HBEL.out.alloc HBEL.out.size _).trans hbel'⟩
              | ((repeat apply Exists.intro); refine ⟨?_, rfl⟩; exact ⟨n + 1, by omega, by go_num, hown', (HBEL.out.alloc HBEL.out.size _).trans hbel'⟩)
          case measure => simp [intOf]; omega
        · obtain rfl : n = 8 := by omega
          rw [List.take_of_length_le (by rw [Wx.num8_length]; omega), HNX.out] at hown
          have HOWN := hid hown
          have HBEL := hid hbel
          clear hown hbel
          rw [show ((8 : Nat) : Int) = 8 from rfl]
          go_wp2
          exact ⟨⟨k + 1, by omega, by go_num, HOWN.out, HBEL.out⟩, by simp [intOf]; omega⟩
    · obtain rfl : k = L.length := by omega
      rw [List.take_length] at hown
      have hcv := run_ownstr hown
      have hzn := Wx.nums8_length L
      have HAD := hid (oadd_any o x (Wx.nums8 L) wr (HO.out.below hbel) (by omega))
      have HBEL := hid hbel
      clear hown hbel hzn
      generalize str (Wx.nums8 L) = SN at *
      go_wp2_with (go_at_call 51; refine HAD.out.mono ?_; rintro e w5 ⟨rfl, ho5, hk5⟩)
      go_ret
      exact ⟨rfl, ho5, (KeptB.of_below HBEL.out).trans hk5⟩
end Go.Proofs.YtgjkkcggcljcdaaDoor

/-
  Layer 6: what wire.Out's Bytes returns.
-/
namespace Go.Proofs.YtgjkkcggcljcdaaDoor
open Go.RowKit
open Go.Lib (hid)

theorem flat_rev (ts : List (List Nat)) : ts.reverse.flatten.length = ts.flatten.length := by
  induction ts with
  | nil => rfl
  | cons a l ih => rw [List.reverse_cons, List.flatten_append, List.length_append, ih]; simp; omega

theorem drop_part (x t A : List Nat) (f : Nat) (hA : A.length = f) (h : A ++ t = x.take (t.length + f)) : x.drop f = t ++ x.drop (t.length + f) := by
  have h1 : x = x.take (t.length + f) ++ x.drop (t.length + f) := (List.take_append_drop _ _).symm
  rw [← h, List.append_assoc] at h1
  exact (congrArg (List.drop f) h1).trans (List.drop_left' hA)
theorem copy_row (x t A : List Nat) (f d : Nat) (hA : A.length = f) (h : A ++ t = x.take (t.length + f)) (ht : ∀ c ∈ t, c < 256) (hd : t.length ≤ d) :
    ((ints .u8 (List.replicate (t.length + f) 0 ++ x.drop (t.length + f))).toList.take f ++ ((ints .u8 ((nums (str t)).take (min (str t).size d))).toList ++ (ints .u8 (List.replicate (t.length + f) 0 ++ x.drop (t.length + f))).toList.drop (f + min (str t).size d))).toArray
      = ints .u8 (List.replicate f 0 ++ x.drop f) := by
  rw [str_size, Nat.min_eq_left hd, nums_str t ht, List.take_length, drop_part x t A f hA h]
  have e : (List.replicate (t.length + f) 0 : List Nat) = List.replicate f 0 ++ List.replicate t.length 0 := by rw [List.replicate_append_replicate, Nat.add_comm]
  rw [e]
  unfold ints
  congr 1
  simp only [List.map_append, List.map_replicate]
  rw [List.drop_left' (by simp), List.append_assoc, List.take_left' (by simp)]

set_option maxHeartbeats 1000000 in
set_option maxRecDepth 100000 in
theorem obytes_any (o : Nat) (x : List Nat) (w : World) (h : OutAt w o x) (hb : ∀ c ∈ x, c < 256) (hl : x.length ≤ 1000000) :
    Calls Tryd.prog 32 #[.pointer (some ⟨o, 0, none⟩)] w fun e w' => e = .returned (.string (str x)) ∧ Below w.heap.size w w' := by
  obtain ⟨p0, ts, ho, hp, hx⟩ := h
  have hmk := fun wx => run_mk wx x.length hl
  have hlt : o < w.heap.size := (Array.getElem?_eq_some_iff.1 ho).1
  have c1 : w.cell? ⟨o, 1, none⟩ = some (.int .i64 (x.length : Int)) := by rw [Lib.cell_of_heap ho]; rfl
  have ho1 := fun O => (Below.heap_alloc w O o hlt).trans ho
  have d0 : ∀ O, (w.alloc O).cell? ⟨o, 0, none⟩ = some (.pointer p0) := fun O => by rw [Lib.cell_of_heap (ho1 O)]; rfl
  have d1 : ∀ O, (w.alloc O).cell? ⟨o, 1, none⟩ = some (.int .i64 (x.length : Int)) := fun O => by rw [Lib.cell_of_heap (ho1 O)]; rfl
  have HB := hid hb
  have HP := hid (fun O => PartsAt.below (w' := w.alloc O) ((Below.refl _ _).alloc (Nat.le_refl _) O) ts p0 hp)
  have HX := hid hx
  clear ho hp hx hb ho1
  go_enter Tryd.func32, Tryd.ntmps32
  go_upto_region 4 with (fail)
  clear hmk c1 d0 d1
  have HR0 := hid (show Row (w.alloc (.cells (ints .u8 (List.replicate x.length 0)) 5)) w.heap.size .u8 5 (List.replicate x.length 0) from heap_alloc_new _ _)
  have HB0 := hid (show Below w.heap.size w (w.alloc (.cells (ints .u8 (List.replicate x.length 0)) 5)) from (Below.refl _ _).alloc (Nat.le_refl _) _)
  have HP0 := hid (HP.out (.cells (ints .u8 (List.replicate x.length 0)) 5))
  clear HP
  generalize w.alloc _ = w0 at *
  obtain ⟨n, hn⟩ : ∃ n, n = x.length := ⟨_, rfl⟩
  have HN := hid hn
  rw [← hn] at HR0 hl ⊢
  clear hn
  go_loopw [4, 5] (fun e p wr => ∃ (q : Option Addr) (rest : List (List Nat)), e = .int .i64 (rest.flatten.length : Int) ∧ p = .pointer q ∧ PartsAt wr q rest ∧ rest.flatten.length ≤ n ∧ rest.reverse.flatten = x.take rest.flatten.length ∧ Row wr w.heap.size .u8 5 (List.replicate rest.flatten.length 0 ++ x.drop rest.flatten.length) ∧ Below w.heap.size w wr)
    (fun e _ _ => (intOf e).toNat)
  case atStart =>
    have hlen : ts.flatten.length = n := by rw [← flat_rev, HX.out, HN.out]
    refine ⟨p0, ts, by rw [hlen], rfl, HP0.out, by omega, ?_, ?_, HB0.out⟩
    · rw [HX.out, hlen, List.take_of_length_le (by rw [HN.out]; exact Nat.le_refl _)]
    · rw [hlen, List.drop_eq_nil_of_le (by rw [HN.out]; exact Nat.le_refl _), List.append_nil]; exact HR0.out
  case round =>
    clear HR0 HB0 HP0
    obtain ⟨q, rest, rfl, rfl, hp, hle, hr, hrow, hbel⟩ := hrel
    cases rest with
    | nil =>
      cases q with
      | some a => exact hp.elim
      | none =>
        have hrow' : Row wr w.heap.size .u8 5 x := by simpa using hrow
        have hcv := run_str wr w.heap.size 0 n n 5 x hrow' (by rw [← HN.out]; omega)
        rw [List.drop_zero, List.take_of_length_le (by rw [HN.out]; exact Nat.le_refl _)] at hcv
        have HBL := hid hbel
        clear hrow hrow' hbel hr
        generalize hSX : str x = SX at hcv
        have HSX := hid hSX
        clear hSX
        rw [show ((([] : List (List Nat)).flatten.length : Nat) : Int) = 0 from rfl]
        go_wp2
        go_ret
        exact ⟨by rw [HSX.out]; rfl, HBL.out⟩
    | cons t l =>
      cases q with
      | none => exact hp.elim
      | some a =>
        obtain ⟨b, q, rfl, hne, hbk, hpl⟩ := hp
        have e1 : (t :: l).flatten.length = t.length + l.flatten.length := by simp
        rw [e1] at hle hr hrow
        rw [show (((t :: l).flatten.length : Nat) : Int) = (t.length : Int) + (l.flatten.length : Int) from by rw [e1]; omega]
        rw [List.reverse_cons, List.flatten_append, List.flatten_singleton] at hr
        have hA := flat_rev l
        have htb : ∀ c ∈ t, c < 256 := fun c hc => HB.out c (by
          have : c ∈ x.take (t.length + l.flatten.length) := by rw [← hr]; exact List.mem_append_right _ hc
          exact List.mem_of_mem_take this)
        have htl : 0 < t.length := List.length_pos_iff.2 hne
        have HRL := hid (show l.reverse.flatten = x.take l.flatten.length from by
          have := congrArg (List.take l.flatten.length) hr
          rw [List.take_append_of_le_length (by omega), List.take_of_length_le (by omega), List.take_take, Nat.min_eq_left (by omega)] at this
          exact this)
        have HPL := hid hpl
        have HLL := hid (show l.flatten.length ≤ n from by omega)
        have cb0 : wr.cell? ⟨b, 0, none⟩ = some (.pointer q) := by rw [Lib.cell_of_heap hbk]; rfl
        have cb1 : wr.cell? ⟨b, 1, none⟩ = some (.string (str t)) := by rw [Lib.cell_of_heap hbk]; rfl
        have hbne : b ≠ w.heap.size := fun e => by
          subst e
          have h1 : wr.heap[w.heap.size]? = _ := hrow
          rw [h1] at hbk
          injection hbk with hbk
          injection hbk with _ h2 _
          exact absurd h2 (by decide)
        have HCR := hid (copy_row x t l.reverse.flatten l.flatten.length (n - l.flatten.length) hA hr htb (by omega))
        have HROW := hid hrow
        have HBL := hid hbel
        have HBK := hid hbk
        have hzt := str_size t
        have HCS := hid (show l.flatten.length + (n - l.flatten.length) ≤ (ints .u8 (List.replicate (t.length + l.flatten.length) 0 ++ x.drop (t.length + l.flatten.length))).size from by
          rw [ints_size]; simp; have := HN.out; omega)
        generalize hfl : l.flatten.length = f at *
        have HFL := hid hfl
        clear hfl
        generalize t.length = tl at *
        rw [hzt] at HCR
        have hsub : (tl : Int) + (f : Int) - (tl : Int) = (f : Int) := by omega
        clear hrow hbel hr hA htb e1 hbk hpl
        go_upto_region 7 with (fail)
        have hfn : (f : Int) ≤ (n : Int) := by have := HLL.out; omega
        have hfn2 : f < n := by omega
        have HRB := hid (fun m => setRow_heap (wr.drewN m) w.heap.size _ (ints .u8 (List.replicate f 0 ++ x.drop f)) _ _ HROW.out)
        have HBB := hid (fun m => below_setRow (show Below w.heap.size w (wr.drewN m) from HBL.out.trans ⟨rfl, rfl, rfl, Nat.le_refl _, fun _ _ => rfl⟩) (Nat.le_refl _) (ints .u8 (List.replicate f 0 ++ x.drop f)))
        have HKK := hid (fun m => show KeptB w.heap.size wr ((wr.drewN m).setRow w.heap.size (ints .u8 (List.replicate f 0 ++ x.drop f))) from (show KeptB w.heap.size wr (wr.drewN m) from ⟨rfl, rfl, rfl, Nat.le_refl _, fun _ _ _ => rfl⟩).setRow _)
        have cb2 : ∀ m cs, ((wr.drewN m).setRow w.heap.size cs).cell? ⟨b, 0, none⟩ = some (.pointer q) := fun m cs => by
          rw [Lib.cell_of_heap ((setRow_other (wr.drewN m) w.heap.size b cs hbne).trans HBK.out)]; rfl
        refine wp_region_noPanic ?_
        refine wp_region_hd1 7 1 rfl (by kernel_rfl) (by kernel_rfl) (fun _ _ _ _ _ h => h) ?_
        simp only [List.take_succ_cons, List.take_zero, List.drop_succ_cons, List.drop_zero]
        repeat (go_big_quiet_step (fail))
        refine wpQuiet_nil ?_
        intro m
        go_wp2_with (refine wpList_copy_str rfl _ _ _ _ rfl 5 Tryd.underlying46 info5' w.heap.size f (n - f) (n - f) (str t) rfl rfl _ _ HROW.out HCS.out ?_)
        rw [HCR.out]
        refine NoPanic.normal ?_
        go_wp2
        refine ⟨⟨q, l, by rw [HFL.out], rfl, PartsAt.keptB (HKK.out m) (by decide) HROW.out l q HPL.out, by rw [HFL.out]; exact HLL.out, by rw [HFL.out]; exact HRL.out, by rw [HFL.out]; exact HRB.out m, HBB.out m⟩, ?_⟩
        simp [intOf]
        omega
end Go.Proofs.YtgjkkcggcljcdaaDoor

/-
  Layer 6: what wire.Out's Fixed, Raw and Text write.
-/
namespace Go.Proofs.YtgjkkcggcljcdaaDoor
open Go.RowKit
open Go.Lib (hid)

namespace Wx
/-- The first k bytes, filled with noughts. -/
def fix (s : List Nat) (k : Nat) : List Nat := s.take k ++ List.replicate (k - s.length) 0
theorem fix_length (s : List Nat) (k : Nat) : (fix s k).length = k := by simp [fix]; omega
theorem fix_lt (s : List Nat) (k : Nat) (h : ∀ x ∈ s, x < 256) : ∀ x ∈ fix s k, x < 256 := by
  intro x hx
  rcases List.mem_append.1 hx with h1 | h1
  · exact h x (List.mem_of_mem_take h1)
  · rw [List.mem_replicate] at h1; omega
end Wx
theorem rep_str (c : Nat) : (⟨(Lib.repeatL (⟨#[0]⟩ : ByteArray).data.toList c).toArray⟩ : ByteArray) = str (List.replicate c 0) := by
  unfold str
  congr 2
  induction c with
  | zero => rfl
  | succ n ih =>
    show [0] ++ Lib.repeatL [0] n = _
    rw [show Lib.repeatL [0] n = List.map UInt8.ofNat (List.replicate n 0) from ih]
    rfl

theorem inter_nil : ∀ xs : List (List UInt8), ([] : List UInt8).intercalate xs = xs.flatten
  | [] => rfl
  | [a] => by simp [List.intercalate]
  | a :: b :: l => by
    have h := inter_nil (b :: l)
    simp only [List.intercalate, List.intersperse] at h ⊢
    simp only [List.flatten_cons, List.nil_append] at h ⊢
    rw [h]
theorem Strs.keptO {w w' : World} {o : Nat} {x : List Nat} {ao : Option Addr} {L : List (List Nat)} (h : Strs w ao L) (ho : OutAt w o x) (hk : KeptB o w w') : Strs w' ao L := by
  intro i hi
  obtain ⟨sb, so, ha, hc⟩ := h i hi
  refine ⟨sb, so, ha, ?_⟩
  obtain ⟨p, ts, hb, _⟩ := ho
  have hlt := block_lt_of_cell hc
  have hne : sb ≠ o := fun e => by
    subst e
    rw [Lib.cell_of_heap hb] at hc
    match so + i, hc with
    | 0, hc => exact absurd hc (by simp)
    | 1, hc => exact absurd hc (by simp)
    | _ + 2, hc => exact absurd hc (by simp)
  rw [← hc]
  simp only [World.cell?, hk.block sb hlt hne]

namespace Wx
/-- The bytes of texts, each behind its length. -/
def texts (L : List (List Nat)) : List Nat := (L.map fun s => num8 s.length ++ s).flatten
theorem texts_succ (L : List (List Nat)) (k : Nat) (h : k < L.length) : texts (L.take k) ++ (num8 (L.getD k []).length ++ L.getD k []) = texts (L.take (k + 1)) := by
  rw [List.take_succ_eq_append_getElem h]
  simp only [texts, List.map_append, List.flatten_append, List.map_cons, List.map_nil, List.flatten_cons, List.flatten_nil, List.append_nil]
  rw [List.getD_eq_getElem?_getD, List.getElem?_eq_getElem h, Option.getD_some]
theorem texts_le (L : List (List Nat)) : (texts L).length = 8 * L.length + L.flatten.length := by
  induction L with
  | nil => rfl
  | cons a l ih => simp only [texts, List.map_cons, List.flatten_cons, List.length_append, num8_length, List.length_cons] at ih ⊢; omega
theorem nums8_one (n : Nat) : nums8 [(n : Int)] = num8 n := by simp [nums8]
end Wx
theorem flat_take_le (L : List (List Nat)) (k : Nat) : (L.take k).flatten.length ≤ L.flatten.length := by
  conv => rhs; rw [← List.take_append_drop k L, List.flatten_append, List.length_append]
  omega
theorem flat_get_le (L : List (List Nat)) (k : Nat) : (L.getD k []).length ≤ L.flatten.length := by
  by_cases h : k < L.length
  · conv => rhs; rw [← List.take_append_drop k L, List.flatten_append, List.length_append, List.drop_eq_getElem_cons h, List.flatten_cons, List.length_append]
    rw [List.getD_eq_getElem?_getD, List.getElem?_eq_getElem h, Option.getD_some]
    omega
  · rw [List.getD_eq_getElem?_getD, List.getElem?_eq_none (by omega)]; simp
theorem ints_one_at (w : World) (n : Int) (t : TypeId) : IntsB (w.alloc (.cells #[.int .i64 n] t)) (some ⟨w.heap.size, 0, none⟩) [n] := by
  intro i hi
  obtain rfl : i = 0 := by simpa using hi
  exact ⟨_, _, rfl, cell_of_row _ _ _ _ _ _ (heap_alloc_new _ _)⟩

set_option maxHeartbeats 1000000 in
set_option maxRecDepth 100000 in
theorem otext_any (o : Nat) (x : List Nat) (ao : Option Addr) (cap : Nat) (L : List (List Nat)) (w : World) (h : OutAt w o x) (hA : Strs w ao L) (hL : L.length ≤ 1000) (hb : L.flatten.length ≤ 1000000) (hl : x.length ≤ 1000000000) :
    Calls Tryd.prog 30 #[.pointer (some ⟨o, 0, none⟩), .slice ao L.length cap] w fun e w' => e = .returned (.pointer (some ⟨o, 0, none⟩)) ∧ OutAt w' o (x ++ Wx.texts L) ∧ KeptB o w w' := by
  have HO := hid h
  have HA := hid hA
  clear h hA
  go_enter Tryd.func30, Tryd.ntmps30
  go_upto_region 2 with (fail)
  go_loopw [9] (fun i wr => ∃ k : Nat, k ≤ L.length ∧ i = .int .i64 k ∧ OutAt wr o (x ++ Wx.texts (L.take k)) ∧ KeptB o w wr)
    (fun i _ => L.length - (intOf i).toNat)
  case atStart => exact ⟨0, by omega, rfl, by rw [List.take_zero]; simpa [Wx.texts] using HO.out, KeptB.refl _ _⟩
  case round =>
    obtain ⟨k, hk, rfl, hout, hkept⟩ := hrel
    by_cases hlt : k < L.length
    · obtain ⟨sb, so, hao, hc⟩ := (HA.out.keptO HO.out hkept) k hlt
      subst hao
      have HNX := hid (show ((x ++ Wx.texts (L.take k)) ++ Wx.nums8 [((L.getD k []).length : Int)]) ++ L.getD k [] = x ++ Wx.texts (L.take (k + 1)) from by
        rw [Wx.nums8_one, List.append_assoc, List.append_assoc, Wx.texts_succ L k hlt])
      have hpl := Wx.texts_le (L.take k)
      have hf1 := flat_take_le L k
      have hf2 := flat_get_le L k
      rw [List.length_take] at hpl
      have hz := str_size (L.getD k [])
      have hpl2 : (x ++ Wx.texts (L.take k)).length ≤ 1010000000 := by rw [List.length_append]; omega
      generalize L.getD k [] = s at *
      generalize x ++ Wx.texts (L.take k) = pre at *
      have HNU := hid (onum_any o pre (some ⟨wr.heap.size, 0, none⟩) 1 [(s.length : Int)] (wr.alloc (.cells #[.int .i64 (s.length : Int)] 3)) (hout.below ((Below.refl _ _).alloc (Nat.le_refl _) _)) (ints_one_at wr _ _) (by simp) (by intro n hn; simp at hn; omega) (by omega))
      have HAD := hid (fun wx hx => oadd_any o (pre ++ Wx.nums8 [(s.length : Int)]) s wx hx (by rw [List.length_append, Wx.nums8_length]; simp; omega))
      have HKA := hid (show KeptB o wr (wr.alloc (.cells #[.int .i64 (s.length : Int)] 3)) from KeptB.of_below ((Below.refl _ _).alloc (Nat.le_refl _) _))
      have HK := hid hkept
      rw [show [(s.length : Int)].length = 1 from rfl] at HNU
      clear hout hkept hpl hf1 hf2 hpl2
      go_wp2_with (first
        | (go_at_call 31; refine HNU.out.mono ?_; rintro e w1 ⟨rfl, ho1, hk1⟩)
        | (go_at_call 51; refine (HAD.out _ ho1).mono ?_; rintro e w2 ⟨rfl, ho2, hk2⟩))
      go_roundw
      case rel =>
        rw [HNX.out] at ho2
        first
          | exact ⟨k + 1, by omega, by go_num, ho2, ((HK.out.trans HKA.out).trans hk1).trans hk2⟩
          | ((repeat apply Exists.intro); refine ⟨?_, rfl⟩; exact ⟨k + 1, by omega, by go_num, ho2, ((HK.out.trans HKA.out).trans hk1).trans hk2⟩)
      case measure => simp [intOf]; omega
    · obtain rfl : k = L.length := by omega
      rw [List.take_length] at hout
      have HOUT := hid hout
      have HK := hid hkept
      clear hout hkept
      go_wp2
      go_ret
      exact ⟨rfl, HOUT.out, HK.out⟩
end Go.Proofs.YtgjkkcggcljcdaaDoor
