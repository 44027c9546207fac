/-
  The laws' own Cut and Few; a slice of texts opened.
-/
import Derived.Test.YtabhdjahdhhgiaaDoorLawKit
import Derived.Test.YtabhdjahdhhgiaaDoorShaRefHex
import Derived.SliceStrings
namespace Go.Proofs.YtabhdjahdhhgiaaDoor
open Go.ChangeShapes Go.WideShapes Go.ChangeAt Go.RowKit
open Go.Lib (hid)

/-- A slice's cells are these texts (as texts). -/
def StrsB (w : World) (ao : Option Addr) (L : List ByteArray) : Prop :=
  ∀ i, i < L.length → ∃ sb so, ao = some ⟨sb, so, none⟩ ∧ w.cell? ⟨sb, so + i, none⟩ = some (.string (L.getD i ByteArray.empty))
theorem StrsB.below {w w' : World} {ao : Option Addr} {L : List ByteArray} (h : StrsB w ao L) (hb : Below w.heap.size w w') : StrsB w' ao L := by
  intro i hi
  obtain ⟨sb, so, ha, hc⟩ := h i hi
  exact ⟨sb, so, ha, by rw [hb.cell (block_lt_of_cell hc)]; exact hc⟩

theorem open_strs {H : Type} {enc : TypeId × Value → H} {W : World} {r : Reach} {b0 : Nat} {v : Value} {d : DataW H} {p : List MemPlace}
    (hv : Value.okWide Tryd.prog W r b0 22 v) (h : DataW.Trod enc Tryd.prog W 0 (fun _ => true) true 22 v d p) :
    ∃ (ao : Option Addr) (L : List ByteArray) (cap : Nat), v = .slice ao L.length cap ∧ StrsB W ao L ∧ L.length ≤ maxLen ∧ ∀ s ∈ L, s.size ≤ maxLen := by
  obtain ⟨a0, len, cap, rfl⟩ := okWide_slice Tryd.underlying22 hv
  obtain ⟨fuel, hf⟩ := h
  rcases open_strings Tryd.underlying22 Tryd.underlying9 (by kernel_rfl) hf with ⟨hcs, _⟩ | ⟨a, len', cap', ss, hcs, _, hl, hm, hz, _, hcell, hws⟩
  · simp only [Value.cells, List.cons.injEq, Value.slice.injEq, and_true] at hcs
    obtain ⟨rfl, rfl, rfl⟩ := hcs
    exact ⟨none, [], 0, rfl, fun i hi => absurd hi (by simp), by simp, fun s hs => absurd hs (by simp)⟩
  · simp only [Value.cells, List.cons.injEq, Value.slice.injEq, and_true] at hcs
    obtain ⟨rfl, rfl, rfl⟩ := hcs
    simp only [if_true] at hz
    have htl : (ss.take len).length = len := by simp; omega
    refine ⟨some a, ss.take len, cap, by rw [htl], ?_, by omega, fun s hs => hws s (List.mem_of_mem_take hs)⟩
    intro i hi
    rw [htl] at hi
    have h1 := hcell i (by omega)
    have h00 := hcell 0 (by omega)
    obtain ⟨b, off, spot⟩ := a
    have hspot : spot = none := by simpa [Addr.add] using World.cell?_spot h00
    subst hspot
    refine ⟨b, off, rfl, ?_⟩
    rw [Addr.add_mid] at h1
    rw [h1]
    simp [hi]

theorem extract_take (s : ByteArray) (n : Nat) : s.extract 0 n = str ((nums s).take n) := by
  rw [← str_nums (s.extract 0 n)]
  congr 1
  unfold nums
  rw [← List.map_take]
  congr 1
  simp [ByteArray.data_extract]

/-- Cut: the first n bytes. -/
theorem cut_any (s : ByteArray) (n : Nat) (w : World) (_hs : s.size ≤ maxLen) (hn : n ≤ 1000000) :
    Calls Tryd.prog 19 #[.string s, .int .i64 (n : Int)] w fun e w' => e = .returned (.string (str ((nums s).take n))) ∧ w = w' := by
  unfold maxLen at _hs
  by_cases h : n < s.size
  · have he := extract_take s n
    have h1 : (n : Int) < (s.size : Int) := by omega
    go_enter Tryd.func19, Tryd.ntmps19
    go_wp2
    go_ret
    exact ⟨by rfl, rfl⟩
  · have he : str ((nums s).take n) = s := by rw [List.take_of_length_le (by rw [nums_length]; omega), str_nums]
    have h1 : ¬ (n : Int) < (s.size : Int) := by omega
    rw [he]
    clear he
    go_enter Tryd.func19, Tryd.ntmps19
    go_wp2
    go_ret
    exact ⟨by rfl, rfl⟩

theorem cut_lt' (s : ByteArray) (n : Nat) : ∀ x ∈ (nums s).take n, x < 256 := fun x hx => nums_lt s x (List.mem_of_mem_take hx)
theorem cut_le' (s : ByteArray) (n : Nat) : ((nums s).take n).length ≤ n := by simp; omega
theorem info9 : (Tryd.prog.info? 9).map (fun i => (i.zero, i.size, i.bytes)) = some (some (.string ByteArray.empty), 1, 16) := by kernel_rfl
/-- The slice v of the call's own holds these texts. -/
def OwnS (w : World) (base : Nat) (v : Value) (L : List (List Nat)) : Prop := w.ownsRow base 9 1 v L.length (L.map fun l => Value.string (str l))
theorem OwnS.nil (w : World) (base : Nat) : OwnS w base (.slice none 0 0) [] := World.ownsRow_nil _ _ _ _
theorem OwnS.below {w w' : World} {base : Nat} {v : Value} {L : List (List Nat)} (h : OwnS w base v L) (hb : Below w.heap.size w w') : OwnS w' base v L := by
  obtain ⟨h1, h2⟩ := h
  refine ⟨h1, ?_⟩
  rcases h2 with h2 | ⟨g, cap, cur, hv, hg, hh, r⟩
  · exact Or.inl h2
  · exact Or.inr ⟨g, cap, cur, hv, hg, by rw [hb.block g (Array.getElem?_eq_some_iff.1 hh).1]; exact hh, r⟩
theorem OwnS.strs {w : World} {base : Nat} {v : Value} {L : List (List Nat)} (h : OwnS w base v L) : ∃ ao cap, v = .slice ao L.length cap ∧ Strs w ao L := by
  obtain ⟨h1, ⟨hv, h0⟩ | ⟨g, cap, cur, hv, hg, hh, hn, _, hs, hc⟩⟩ := h
  · have hl : L = [] := List.eq_nil_of_length_eq_zero h0
    subst hl
    exact ⟨none, 0, hv, fun i hi => absurd hi (by simp)⟩
  · refine ⟨_, cap, hv, fun i hi => ⟨g, 0, rfl, ?_⟩⟩
    rw [Nat.zero_add, cell_of_row w g i cur _ _ hh]
    have h2 : cur[i]? = (cur.toList.take (L.length * 1))[i]? := by
      rw [List.getElem?_take, if_pos (by omega), Array.getElem?_toList]
    rw [h2, hc]
    simp [hi]
theorem wpList_appS {w : World} {ops : Array Oper} {rest : List Oper} {o : Oper} {a : Act} {Q : Exit → Act → World → Prop} (hgd : o.guard = none) (s x : Operand)
    (ho : o.op = .call { callee := .builtin .append, args := #[s, x], argTypes := #[22, 22] })
    (base : Nat) (v : Value) (L : List (List Nat)) (hs : a.eval s = v) (hown : OwnS w base v L)
    (ad : Addr) (l : List Nat) (hx : a.eval x = .slice (some ad) 1 1) (hnews : w.cell? (ad.add 0) = some (.string (str l)))
    (hlen : L.length ≤ 1000000000) (hbase : base ≤ w.heap.size)
    (h : ∀ v' w', OwnS w' base v' (L ++ [l]) → Below base w w' → wpList Tryd.prog ops Q rest (a.put o.dst v') w') : wpList Tryd.prog ops Q (o :: rest) a w := by
  obtain ⟨i, hi, hz0, hz1, hz2⟩ := info_parts info9
  refine wpList_append_own w hgd s x 22 ho base 9 i (.string ByteArray.empty) 1 16 Tryd.underlying22 hi hz0 hz1 hz2 rfl (by decide) v L.length _ hs hown ad 1 1 [.string (str l)] hx rfl ?_ ?_ (by unfold maxLen; omega) (by omega) hbase ?_
  · intro j u hj
    have hlt : j < 1 := (List.getElem?_eq_some_iff.1 hj).1
    obtain rfl : j = 0 := by omega
    rw [hnews]; exact hj
  · intro u hu
    simp only [List.mem_singleton] at hu
    subst hu
    rfl
  · intro v' w' h2 h3 _
    refine h v' w' ?_ ((Below.refl base w).grown h3 hbase ?_)
    · unfold OwnS
      rw [List.length_append, List.map_append]
      exact h2
    · intro k hk
      obtain ⟨_, h2' | ⟨g, cap, cur, hv, hg, _⟩⟩ := hown
      · rw [h2'.1] at hk; cases hk
      · rw [hv] at hk; simp only [Value.ownBlock, Option.some.injEq] at hk; omega

/-- Few's texts. -/
def few (L : List ByteArray) (n most : Nat) : List (List Nat) := (L.take n).map fun s => (nums s).take most
theorem few_succ (L : List ByteArray) (k most : Nat) (h : k < L.length) : few L k most ++ [(nums (L.getD k ByteArray.empty)).take most] = few L (k + 1) most := by
  unfold few
  rw [List.take_succ_eq_append_getElem h, List.map_append, List.getD_eq_getElem?_getD, List.getElem?_eq_getElem h]
  rfl
theorem few_length (L : List ByteArray) (n most : Nat) : (few L n most).length = min n L.length := by simp [few]
theorem few_lt (L : List ByteArray) (n most : Nat) : ∀ x ∈ (few L n most).flatten, x < 256 := by
  intro x hx
  rw [List.mem_flatten] at hx
  obtain ⟨l, hl, hx⟩ := hx
  simp only [few, List.mem_map] at hl
  obtain ⟨s, _, rfl⟩ := hl
  exact nums_lt s x (List.mem_of_mem_take hx)
theorem flatten_le (L : List (List Nat)) (m : Nat) (h : ∀ l ∈ L, l.length ≤ m) : L.flatten.length ≤ L.length * m := by
  induction L with
  | nil => simp
  | cons l L ih =>
    have h1 := h l (by simp)
    have h2 := ih (fun x hx => h x (by simp [hx]))
    simp only [List.flatten_cons, List.length_append, List.length_cons, Nat.add_mul]
    omega
theorem few_flatten_le (L : List ByteArray) (n most : Nat) : (few L n most).flatten.length ≤ n * most := by
  have h := flatten_le (few L n most) most (fun l hl => by
    simp only [few, List.mem_map] at hl
    obtain ⟨s, _, rfl⟩ := hl
    simp; omega)
  rw [few_length] at h
  exact Nat.le_trans h (Nat.mul_le_mul_right _ (by omega))

set_option maxHeartbeats 1000000 in
theorem few_any (ao : Option Addr) (L : List ByteArray) (cap n most : Nat) (w : World) (hA : StrsB w ao L) (hL : L.length ≤ maxLen) (hs : ∀ s ∈ L, s.size ≤ maxLen) (hn : n ≤ 1000) (hm : most ≤ 1000000) :
    Calls Tryd.prog 10 #[.slice ao L.length cap, .int .i64 (n : Int), .int .i64 (most : Int)] w
      fun e w' => ∃ v, e = .returned v ∧ OwnS w' w.heap.size v (few L n most) ∧ Below w.heap.size w w' := by
  unfold maxLen at hL
  have HA := hid hA
  have HS := hid hs
  clear hA hs
  go_enter Tryd.func10, Tryd.ntmps10
  go_wp2
  go_loopw [7, 8] (fun v i wr => ∃ k : Nat, k ≤ n ∧ k ≤ L.length ∧ i = .int .i64 k ∧ OwnS wr w.heap.size v (few L k most) ∧ Below w.heap.size w wr)
    (fun _ i _ => n - (intOf i).toNat)
  case atStart => exact ⟨0, Nat.zero_le _, Nat.zero_le _, rfl, OwnS.nil _ _, Below.refl _ _⟩
  case round =>
    obtain ⟨k, hkn, hkL, rfl, hown, hbel⟩ := hrel
    have hsz := hbel.size
    by_cases hlt : k < L.length
    · have t1 : (k : Int) < (L.length : Int) := by omega
      by_cases hlt2 : k < n
      · have t2 : (k : Int) < (n : Int) := by omega
        obtain ⟨sb, so, rfl, hc⟩ := HA.out k hlt
        have hc' : wr.cell? ⟨sb, so + k, none⟩ = some (.string (L.getD k ByteArray.empty)) := (hbel.cell (block_lt_of_cell hc)).trans hc
        have hms : (L.getD k ByteArray.empty).size ≤ maxLen := HS.out _ (by rw [List.getD_eq_getElem?_getD, List.getElem?_eq_getElem hlt]; exact List.getElem_mem hlt)
        have HFS := hid (few_succ L k most hlt)
        have HFL := hid (few_length L k most)
        have HOWN := hid hown
        have HBEL := hid hbel
        clear hc hown hbel
        generalize L.getD k ByteArray.empty = s at *
        go_wp2_with (first
          | (go_at_call 19; refine (cut_any s most _ hms hm).mono ?_; rintro e w' ⟨rfl, rfl⟩)
          | (refine wpList_appS rfl _ _ rfl w.heap.size _ (few L k most) rfl (HOWN.out.below ((Below.refl _ _).alloc (Nat.le_refl _) _)) _ ((nums s).take most) rfl (by rw [Addr.add_mid, cell_of_row _ _ _ _ _ _ (heap_alloc_new _ _)]; rfl) (by rw [HFL.out]; omega) (by simp; omega) ?_; intro v' w' hown' hbel'))
        go_roundw
        case rel =>
          rw [HFS.out] at hown'
          exact ⟨k + 1, by omega, by omega, by go_num, hown', (HBEL.out.alloc hsz _).trans hbel'⟩
        case measure => simp [intOf]; omega
      · have t2 : decide ((k : Int) < (n : Int)) = false := by simp; omega
        obtain rfl : k = n := by omega
        have HOWN := hid hown
        have HBEL := hid hbel
        clear hown hbel
        go_wp2
        go_ret
        exact ⟨_, rfl, HOWN.out, HBEL.out⟩
    · have t1 : decide ((k : Int) < (L.length : Int)) = false := by simp; omega
      have hfe : few L n most = few L k most := by
        unfold few
        rw [List.take_of_length_le (by omega), List.take_of_length_le (show L.length ≤ k from by omega)]
      have HFE := hid hfe
      have HOWN := hid hown
      have HBEL := hid hbel
      clear hown hbel hfe
      go_wp2
      go_ret
      exact ⟨_, rfl, by rw [HFE.out]; exact HOWN.out, HBEL.out⟩
end Go.Proofs.YtabhdjahdhhgiaaDoor
