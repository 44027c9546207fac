/-
  Layer 1: what sha.schedule returns.
-/
import Derived.Test.YtgjkkcggcljcdaaDoorBase
import Derived.Test.YtgjkkcggcljcdaaDoorShaState
import Derived.StillTailTactics
import Derived.Deep.RegionWith
namespace Go.Proofs.YtgjkkcggcljcdaaDoor
open Go.RowKit
open Go.Lib (hid)

namespace Sx
def padW (l : List Nat) : List Nat := l ++ List.replicate (64 - l.length) 0
theorem words_length (b : List Nat) (k : Nat) : (words b k).length = k := by simp [words]
theorem sched_length (b : List Nat) (k : Nat) : (sched b k).length = 16 + k := by
  induction k with
  | zero => simp [sched, words_length]
  | succ k ih => simp [sched, ih]; omega
theorem padW_length (l : List Nat) (h : l.length ≤ 64) : (padW l).length = 64 := by simp [padW]; omega
theorem padW_get (l : List Nat) (i : Nat) (h : i < l.length) : (padW l).getD i 0 = l.getD i 0 := by
  simp [padW, List.getElem?_append, h]
theorem padW_set (l : List Nat) (h : l.length < 64) (z : Nat) : (padW l).set l.length z = padW (l ++ [z]) := by
  unfold padW
  rw [List.set_append_right _ _ (Nat.le_refl _), Nat.sub_self]
  rw [show 64 - l.length = (64 - (l ++ [z]).length) + 1 from by simp; omega, List.replicate_succ]
  simp
theorem words_succ (b : List Nat) (k : Nat) : words b (k + 1) = words b k ++ [word b k] := by
  simp [words, List.range_succ]
end Sx

theorem info67 : (Tryd.prog.info? 162).map (·.size) = some 64 := by kernel_rfl
namespace Sx
theorem ls_lt (x : Nat) (hx : x < M) : rotr x 7 < M ∧ rotr x 18 < M ∧ rotr x 17 < M ∧ rotr x 19 < M ∧ x / 8 < M ∧ x / 1024 < M :=
  ⟨rotr_lt x 7 (by omega) hx, rotr_lt x 18 (by omega) hx, rotr_lt x 17 (by omega) hx, rotr_lt x 19 (by omega) hx, by omega, by omega⟩
theorem nextW_lt (l : List Nat) : nextW l < M := Nat.mod_lt _ (by decide)
theorem word_lt (b : List Nat) (hb : ∀ i, b.getD i 0 < 256) (k : Nat) : word b k < M := by
  have h0 := hb (4 * k); have h1 := hb (4 * k + 1); have h2 := hb (4 * k + 2); have h3 := hb (4 * k + 3)
  unfold word M
  omega
theorem sched_lt (b : List Nat) (hb : ∀ i, b.getD i 0 < 256) (k i : Nat) : (sched b k).getD i 0 < M := by
  have h0 : (0 : Nat) < M := by decide
  have key : ∀ l : List Nat, (∀ x ∈ l, x < M) → l.getD i 0 < M := by
    intro l hl
    by_cases h : i < l.length
    · simp only [List.getD_eq_getElem?_getD, List.getElem?_eq_getElem h, Option.getD_some]; exact hl _ (List.getElem_mem h)
    · simp only [List.getD_eq_getElem?_getD, List.getElem?_eq_none (Nat.le_of_not_lt h), Option.getD_none]; exact h0
  apply key
  clear key
  induction k with
  | zero =>
    intro x hx
    simp only [sched, words, List.mem_map] at hx
    obtain ⟨j, _, rfl⟩ := hx
    exact word_lt b hb j
  | succ k ih =>
    intro x hx
    simp only [sched, List.mem_append, List.mem_singleton] at hx
    rcases hx with hx | rfl
    · exact ih x hx
    · exact nextW_lt _
end Sx

theorem right_still (x : Nat) (k : Int) (w : World) (hk : 1 ≤ k) (hk2 : k ≤ 31) (hx : x < Sx.M) :
    Calls Tryd.prog 89 #[.int .u32 (x : Int), .int .i64 k] w fun e w' => e = .returned (.int .u32 (Sx.rotr x k.toNat : Nat)) ∧ w' = w :=
  (right_any x k w hk hk2 hx).mono fun _ _ h => ⟨h.1, h.2.symm⟩

/-- The sum of a round of the schedule, as the walk spells it. -/
theorem next_word (p q x y : Nat) (hx : x < Sx.M) (hy : y < Sx.M) :
    IntKind.u32.wrap (IntKind.u32.wrap (IntKind.u32.wrap ((p : Int) + (q : Int)) + bits .xor .u32 (bits .xor .u32 (Sx.rotr x 7 : Nat) (Sx.rotr x 18 : Nat)) ((x : Int) / 8)) + bits .xor .u32 (bits .xor .u32 (Sx.rotr y 17 : Nat) (Sx.rotr y 19 : Nat)) ((y : Int) / 1024))
      = (((p + q + Sx.ls0 x + Sx.ls1 y) % Sx.M : Nat) : Int) := by
  obtain ⟨a1, a2, _, _, a5, _⟩ := Sx.ls_lt x hx
  obtain ⟨_, _, b3, b4, _, b6⟩ := Sx.ls_lt y hy
  rw [xor32 _ _ a1 a2, show (x : Int) / 8 = ((x / 8 : Nat) : Int) from by simp, xor32 _ _ (xor32_lt _ _ a1 a2) a5, add32]
  rw [xor32 _ _ b3 b4, show (y : Int) / 1024 = ((y / 1024 : Nat) : Int) from by simp, xor32 _ _ (xor32_lt _ _ b3 b4) b6, add32, add32]
  unfold Sx.ls0 Sx.ls1
  congr 1
  unfold Sx.M
  omega

set_option maxHeartbeats 1000000 in
set_option maxRecDepth 100000 in
theorem sched_any (b : List Nat) (hl : b.length = 64) (hb : ∀ i, b.getD i 0 < 256) (w : World) :
    Calls Tryd.prog 88 #[.agg (ints .u8 b)] w fun e w' => e = .returned (.agg (ints .u32 (Sx.sched b 48))) ∧ Below w.heap.size w w' := by
  have hs : (ints .u8 b).size = 64 := by rw [ints_size, hl]
  have Hb := hid hb
  clear hb
  go_enter Tryd.func88, Tryd.ntmps88
  go_wp2
  go_loopw [9] (fun i wr => ∃ k : Nat, k ≤ 16 ∧ i = .int .i64 k ∧ Row wr w.heap.size .u8 101 b ∧ Row wr (w.heap.size + 1) .u32 162 (List.replicate 64 0) ∧ Row wr (w.heap.size + 1 + 1) .u32 162 (Sx.padW (Sx.words b k)) ∧ Below w.heap.size w wr)
    (fun i _ => 16 - (intOf i).toNat)
  case atStart =>
    refine ⟨0, by omega, rfl, ?_, ?_, ?_, ?_⟩
    · unfold Row; rw [heap_alloc3_0]
    · unfold Row; rw [heap_alloc3_1]; kernel_rfl
    · unfold Row; rw [heap_alloc3_2]; kernel_rfl
    · exact (((Below.refl _ _).alloc (Nat.le_refl _) _).alloc (by simp) _).alloc (by simp; omega) _
  case round =>
    obtain ⟨k, hk, rfl, hrb, hz, hrow, hbel⟩ := hrel
    by_cases hlt : k < 16
    · have c0 := hrb.cell (4 * k) (by omega)
      have c1 := hrb.cell (4 * k + 1) (by omega)
      have c2 := hrb.cell (4 * k + 2) (by omega)
      have c3 := hrb.cell (4 * k + 3) (by omega)
      have b0 := Hb.out (4 * k)
      have b1 := Hb.out (4 * k + 1)
      have b2 := Hb.out (4 * k + 2)
      have b3 := Hb.out (4 * k + 3)
      have hc := hrow.cell k (by rw [Sx.padW_length _ (by rw [Sx.words_length]; omega)]; omega)
      have hf := hrow.free k
      have hv := or_word _ _ _ _ b0 b1 b2 b3
      have hr' := hrow.set k (Sx.word b k)
      have e1 := Sx.padW_set (Sx.words b k) (by rw [Sx.words_length]; omega) (Sx.word b k)
      rw [Sx.words_length] at e1
      rw [e1, ← Sx.words_succ] at hr'
      have hz' := hz.set_other ⟨w.heap.size + 1 + 1, k, none⟩ (.int .u32 (Sx.word b k : Nat)) (by simp)
      have hrb' := hrb.set_other ⟨w.heap.size + 1 + 1, k, none⟩ (.int .u32 (Sx.word b k : Nat)) (by simp; omega)
      have hb' := hbel.setCell (p := ⟨w.heap.size + 1 + 1, k, none⟩) (by simp; omega) (.int .u32 (Sx.word b k : Nat))
      have hwd : ((b.getD (4 * k) 0 * 256 + b.getD (4 * k + 1) 0) * 256 + b.getD (4 * k + 2) 0) * 256 + b.getD (4 * k + 3) 0 = Sx.word b k := rfl
      rw [hwd] at hv
      clear hwd e1 hrow hz hrb hbel
      generalize Sx.word b k = z at *
      generalize b.getD (4 * k) 0 = x0 at *
      generalize b.getD (4 * k + 1) 0 = x1 at *
      generalize b.getD (4 * k + 2) 0 = x2 at *
      generalize b.getD (4 * k + 3) 0 = x3 at *
      have HR := hid hr'
      have HZ := hid hz'
      have HRB := hid hrb'
      have HB := hid hb'
      clear hr' hz' hrb' hb'
      go_wp2
      go_region
      all_goals go_wp2
      all_goals go_roundw
      case rel => exact ⟨k + 1, by omega, by go_num, HRB.out, HZ.out, HR.out, HB.out.drew⟩
      case measure => simp [intOf]; omega
    · obtain rfl : k = 16 := by omega
      have HRow := hid hrow
      have HZ := hid hz
      have HB := hid hbel
      clear hrow hz hbel hrb
      rw [show ((16 : Nat) : Int) = 16 from rfl]
      go_wp2
      go_loopw [6] (fun i wq => ∃ k : Nat, k ≤ 48 ∧ i = .int .i64 (k + 16 : Nat) ∧ Row wq (w.heap.size + 1) .u32 162 (List.replicate 64 0) ∧ Row wq (w.heap.size + 1 + 1) .u32 162 (Sx.padW (Sx.sched b k)) ∧ Below w.heap.size w wq)
        (fun i _ => 64 - (intOf i).toNat)
      case atStart => exact ⟨0, by omega, rfl, HZ.out, HRow.out, HB.out⟩
      case round =>
        obtain ⟨k, hk, rfl, hz, hrow, hbel⟩ := hrel
        by_cases hlt : k < 48
        · have hsl := Sx.sched_length b k
          have hpl : (Sx.padW (Sx.sched b k)).length = 64 := Sx.padW_length _ (by omega)
          have c15 := hrow.cell (k + 1) (by omega)
          have c2 := hrow.cell (k + 14) (by omega)
          rw [Sx.padW_get _ _ (by omega)] at c15 c2
          have hx := Sx.sched_lt b Hb.out k (k + 1)
          have hy := Sx.sched_lt b Hb.out k (k + 14)
          have hn := next_word ((Sx.sched b k).getD k 0) ((Sx.sched b k).getD (k + 9) 0) _ _ hx hy
          have en : Sx.nextW (Sx.sched b k) = ((Sx.sched b k).getD k 0 + (Sx.sched b k).getD (k + 9) 0 + Sx.ls0 ((Sx.sched b k).getD (k + 1) 0) + Sx.ls1 ((Sx.sched b k).getD (k + 14) 0)) % Sx.M := by
            unfold Sx.nextW
            rw [hsl, show 16 + k - 16 = k from by omega, show 16 + k - 7 = k + 9 from by omega, show 16 + k - 15 = k + 1 from by omega, show 16 + k - 2 = k + 14 from by omega]
          rw [← en] at hn
          have HN := hid hn
          have Hsl := hid hsl
          have Hpl := hid hpl
          have HRow := hid hrow
          have HZ := hid hz
          have HB := hid hbel
          clear hn en hsl hpl hrow hz hbel
          generalize (Sx.sched b k).getD (k + 1) 0 = x at *
          generalize (Sx.sched b k).getD (k + 14) 0 = y at *
          have w15 : IntKind.i64.wrap ((k : Int) + 16 - 15) = ((k + 1 : Nat) : Int) := by rw [IntKind.wrap_i64]; omega
          have w2 : IntKind.i64.wrap ((k : Int) + 16 - 2) = ((k + 14 : Nat) : Int) := by rw [IntKind.wrap_i64]; omega
          go_wp2
          go_quiet (fail)
          clear w15 w2 c15 c2
          go_wp2
          refine wp_region_still_tail 29 (by kernel_rfl) (by kernel_rfl) ?_
          simp only [List.take_succ_cons, List.take_zero, List.drop_succ_cons, List.drop_zero]
          obtain ⟨wz, hwz⟩ : ∃ wz, wz = (wr.drewN nq).drew := ⟨_, rfl⟩
          have hrow : Row wz (w.heap.size + 1 + 1) .u32 162 (Sx.padW (Sx.sched b k)) := by subst hwz; exact HRow.out
          have hz : Row wz (w.heap.size + 1) .u32 162 (List.replicate 64 0) := by subst hwz; exact HZ.out
          have hbel : Below w.heap.size w wz := by subst hwz; exact (HB.out.trans ⟨rfl, rfl, rfl, Nat.le_refl _, fun _ _ => rfl⟩)
          change wpStill _ _ (wr.drewN nq).drew (fun a' => wpList _ _ _ _ a' (wr.drewN nq).drew) _ _
          rw [← hwz]
          clear hwz HRow HZ HB
          have hsl := Hsl.out
          have hpl := Hpl.out
          have c16 := hrow.cell k (by omega)
          have c7 := hrow.cell (k + 9) (by omega)
          have cc := hrow.cell (k + 16) (by omega)
          rw [Sx.padW_get _ _ (by omega)] at c16 c7
          have hf := hrow.free (k + 16)
          have hr' := hrow.set (k + 16) (Sx.nextW (Sx.sched b k))
          have e1 := Sx.padW_set (Sx.sched b k) (by omega) (Sx.nextW (Sx.sched b k))
          rw [hsl, show 16 + k = k + 16 from by omega] at e1
          rw [e1] at hr'
          have hz' := hz.set_other ⟨w.heap.size + 1 + 1, k + 16, none⟩ (.int .u32 (Sx.nextW (Sx.sched b k) : Nat)) (by simp)
          have hb' := hbel.setCell (p := ⟨w.heap.size + 1 + 1, k + 16, none⟩) (by simp; omega) (.int .u32 (Sx.nextW (Sx.sched b k) : Nat))
          have hr2 : Row (wz.setCell ⟨w.heap.size + 1 + 1, k + 16, none⟩ (.int .u32 (Sx.nextW (Sx.sched b k) : Nat))) (w.heap.size + 1 + 1) .u32 162 (Sx.padW (Sx.sched b (k + 1))) := hr'
          have HR := hid hr2
          have HZ' := hid hz'
          have HB' := hid hb'
          clear hr' hr2 hz' hb' e1 hrow hz hbel hsl hpl Hsl Hpl
          generalize Sx.nextW (Sx.sched b k) = z at *
          generalize (Sx.padW (Sx.sched b k)).getD (k + 16) 0 = zz at *
          generalize (Sx.sched b k).getD k 0 = p at *
          generalize (Sx.sched b k).getD (k + 9) 0 = q at *
          have w16 : IntKind.i64.wrap (k : Int) = (k : Int) := by rw [IntKind.wrap_i64]; omega
          have g1 : (k : Int) < 64 := by omega
          have g2 : (k : Int) + 9 < 64 := by omega
          have g3 : (0 : Int) ≤ (k : Int) + 9 := by omega
          have g4 : ((k : Int) + 9).toNat = k + 9 := by omega
          have g5 : (k : Int) + 16 < 64 := by omega
          have g6 : (0 : Int) ≤ (k : Int) + 16 := by omega
          have g7 : ((k : Int) + 16).toNat = k + 16 := by omega
          have w7 : IntKind.i64.wrap ((k : Int) + 16 - 7) = ((k + 9 : Nat) : Int) := by rw [IntKind.wrap_i64]; omega
          repeat (first | still_step | still_call (right_still _ _ _ (by decide) (by decide) (by assumption)))
          refine wpStill_nil ?_
          have hn := HN.out
          go_wp2
          go_roundw
          case rel => exact ⟨k + 1, by omega, by go_num, HZ'.out, HR.out, HB'.out⟩
          case measure => simp [intOf]; omega
        · obtain rfl : k = 48 := by omega
          have hsl := Sx.sched_length b 48
          have hpd : Sx.padW (Sx.sched b 48) = Sx.sched b 48 := by unfold Sx.padW; rw [hsl]; simp
          rw [hpd] at hrow
          have hsz : (ints .u32 (Sx.sched b 48)).size = 64 := by rw [ints_size, hsl]
          have Hsl := hid hsl
          have Hpd := hid hpd
          have Hsz := hid hsz
          clear hsl hpd hsz
          go_wp2_with (first | (refine wpList_load_row rfl _ _ rfl (w.heap.size + 1 + 1) rfl _ _ _ _ hrow Tryd.underlying162 rfl (by rw [Hsz.out]; exact info67) ?_) | (refine wpList_store_row rfl _ _ _ rfl (w.heap.size + 1) _ rfl rfl _ _ hz (by rw [Hsz.out]; exact info67) (by rw [Hsz.out, ints_size, List.length_replicate]) (ints_one _ _) ?_))
          exact bodyPost_ret (v := .agg (ints .u32 (Sx.sched b 48)))
            (results_cell_row Tryd.results88 _ _ (w.heap.size + 1) _ _ _ _ rfl (setRow_heap wr (w.heap.size + 1) _ _ _ _ hz) Tryd.underlying162 rfl (by rw [Hsz.out]; exact info67))
            rfl ⟨rfl, below_setRow hbel (Nat.le_succ _) _⟩
end Go.Proofs.YtgjkkcggcljcdaaDoor
