/-
  Layer 8: what an ideal suite is in memory: a tape, how much of it was taken, and three maps.
-/
import Derived.Test.YtnhecallffkedabDoorMp
namespace Go.Proofs.YtnhecallffkedabDoor
open Go.ChangeShapes Go.WideShapes Go.ChangeAt Go.RowKit
open Go.Maps (Keyed)
open Go.WideMaps (KeyLaw)
open Go.Lib (hid)

theorem su_laidOut : laidOutB Tryd.prog = true := by kernel_rfl
theorem law_At : Keyed Tryd.prog 33 := Keyed.of_law (deep_law_laid su_laidOut (m := 3) (by omega) (of_decide_eq_true (by kernel_rfl)) (by kernel_rfl) (by kernel_rfl))
theorem keyLits_int {P : Program} {d : Nat} {t : TypeId} {q : IntKind} {n : Int} (hu : P.underlying t = some (.int q)) (hw : (Lit.int q n).wf = true) : P.keyLits (d + 1) t [.int q n] = some [.int q n] := by simp [Program.keyLits, hu, hw]
theorem keyLits_str {P : Program} {d : Nat} {t : TypeId} {s : ByteArray} (hu : P.underlying t = some .string) (hw : s.size ≤ maxLen) : P.keyLits (d + 1) t [.string s] = some [.string s.data.toList] := by simp [Program.keyLits, hu, hw]
theorem depth2 : ∃ d, Tryd.prog.types.size + 1 = d + 3 := ⟨Tryd.prog.types.size - 2, by have : 2 ≤ Tryd.prog.types.size := of_decide_eq_true (by kernel_rfl); omega⟩
def atV (p : Nat × Nat) : Value := .agg #[.int .i64 (p.1 : Int), .int .i64 (p.2 : Int)]
theorem wf_nat (n : Nat) (h : n < 9223372036854775808) : (Lit.int .i64 (n : Int)).wf = true := WalkArith.wf_i64 (by omega)
theorem cells_At : Tryd.prog.cellsOf 33 = 2 := by kernel_rfl
theorem cells_int : Tryd.prog.cellsOf 3 = 1 := by kernel_rfl
theorem keytype_At : Tryd.prog.keyType 33 = true := by kernel_rfl
theorem key_At (p : Nat × Nat) (h1 : p.1 < 9223372036854775808) (h2 : p.2 < 9223372036854775808) : ∃ l, keyOf Tryd.prog 33 (atV p) = some l := by
  obtain ⟨d, hd⟩ := depth2
  have w1 := keyLits_int (P := Tryd.prog) (d := d + 1) Tryd.underlying3 (wf_nat p.1 h1)
  have w2 := keyLits_int (P := Tryd.prog) (d := d + 1) Tryd.underlying3 (wf_nat p.2 h2)
  have hk : Tryd.prog.keyLits (d + 3) 33 [.int .i64 (p.1 : Int), .int .i64 (p.2 : Int)] = some [.int .i64 (p.1 : Int), .int .i64 (p.2 : Int)] := by
    simp [Program.keyLits, Tryd.underlying33, cells_At, cells_int, w1, w2] at w1 w2 ⊢
    simp [w1, w2]
  have hf : (atV p).formed Tryd.prog 33 = true := by
    simp [atV, Value.formed, Tryd.underlying33, cells_At]
  refine ⟨.string (keyBytes [.int .i64 (p.1 : Int), .int .i64 (p.2 : Int)]), ?_⟩
  unfold keyOf
  rw [Tryd.underlying33]
  simp only [keytype_At, hf, hd]
  simp [atV, Value.cells, hk]
theorem mapM_some {α β : Type} (g : α → Option β) (f : α → β) : ∀ L : List α, (∀ x ∈ L, g x = some (f x)) → L.mapM g = some (L.map f)
  | [], _ => rfl
  | x :: L, h => by simp [List.mapM_cons, h x (by simp), mapM_some g f L (fun y hy => h y (by simp [hy]))]
theorem law_Sum : Keyed Tryd.prog 27 := Keyed.of_law (deep_law_laid su_laidOut (m := 3) (by omega) (of_decide_eq_true (by kernel_rfl)) (by kernel_rfl) (by kernel_rfl))
theorem law_named : Keyed Tryd.prog 177 := Keyed.of_law (deep_law_laid su_laidOut (m := 3) (by omega) (of_decide_eq_true (by kernel_rfl)) (by kernel_rfl) (by kernel_rfl))
theorem cells_Sum : Tryd.prog.cellsOf 27 = 32 := by kernel_rfl
theorem cells_named : Tryd.prog.cellsOf 177 = 3 := by kernel_rfl
theorem cells_u8 : Tryd.prog.cellsOf 5 = 1 := by kernel_rfl
theorem cells_string : Tryd.prog.cellsOf 9 = 1 := by kernel_rfl
theorem keytype_Sum : Tryd.prog.keyType 27 = true := by kernel_rfl
theorem keytype_named : Tryd.prog.keyType 177 = true := by kernel_rfl
def sumV (l : List Nat) : Value := .agg (ints .u8 l)
def namedV (p : ByteArray × Nat × Nat) : Value := .agg #[.string p.1, .int .i64 (p.2.1 : Int), .int .i64 (p.2.2 : Int)]
theorem key_named (p : ByteArray × Nat × Nat) (h0 : p.1.size ≤ maxLen) (h1 : p.2.1 < 9223372036854775808) (h2 : p.2.2 < 9223372036854775808) : ∃ l, keyOf Tryd.prog 177 (namedV p) = some l := by
  obtain ⟨d, hd⟩ := depth2
  have w0 := keyLits_str (P := Tryd.prog) (d := d + 1) Tryd.underlying9 h0
  have w1 := keyLits_int (P := Tryd.prog) (d := d + 1) Tryd.underlying3 (wf_nat p.2.1 h1)
  have w2 := keyLits_int (P := Tryd.prog) (d := d + 1) Tryd.underlying3 (wf_nat p.2.2 h2)
  have hk : ∃ l, Tryd.prog.keyLits (d + 3) 177 [.string p.1, .int .i64 (p.2.1 : Int), .int .i64 (p.2.2 : Int)] = some l := by
    simp [Program.keyLits, Tryd.underlying177, cells_named, cells_int, cells_string, w0, w1, w2] at w0 w1 w2 ⊢
    simp [w0, w1, w2]
  obtain ⟨l, hk⟩ := hk
  have hf : (namedV p).formed Tryd.prog 177 = true := by
    simp [namedV, Value.formed, Tryd.underlying177, cells_named]
  refine ⟨.string (keyBytes l), ?_⟩
  unfold keyOf
  rw [Tryd.underlying177]
  simp only [keytype_named, hf, hd]
  simp [namedV, Value.cells, hk]
theorem key_Sum (l : List Nat) (h0 : l.length = 32) (h1 : ∀ x ∈ l, x < 256) : ∃ k, keyOf Tryd.prog 27 (sumV l) = some k := by
  obtain ⟨d, hd⟩ := depth2
  have hz : (ints .u8 l).toList.length = 32 := by simp [ints, h0]
  have hm : (List.range 32).mapM (fun i => Tryd.prog.keyLits (d + 2) 5 (((ints .u8 l).toList.drop (i * 1)).take 1)) = some ((List.range 32).map fun i => [Lit.int .u8 (l.getD i 0 : Nat)]) := by
    refine mapM_some _ _ _ fun i hi => ?_
    rw [List.mem_range] at hi
    have e : ((ints .u8 l).toList.drop (i * 1)).take 1 = [.int .u8 (l.getD i 0 : Nat)] := by
      rw [Nat.mul_one, List.drop_eq_getElem_cons (by omega)]
      simp [ints, h0, hi]
    rw [e]
    exact keyLits_int Tryd.underlying5 (by
      have : l.getD i 0 < 256 := getD_lt (by omega) h1 i
      generalize l.getD i 0 = x at *
      exact WalkArith.wf_u8 (by omega))
  have hk : ∃ k, Tryd.prog.keyLits (d + 3) 27 (ints .u8 l).toList = some k := by
    refine ⟨((List.range 32).map fun i => [Lit.int .u8 (l.getD i 0 : Nat)]).flatten, ?_⟩
    unfold Program.keyLits
    simp only [Tryd.underlying27, cells_Sum, cells_u8, hz, if_true, hm]
    rfl
  obtain ⟨k, hk⟩ := hk
  have hf : (sumV l).formed Tryd.prog 27 = true := by
    have := hz
    simp [sumV, Value.formed, Tryd.underlying27, cells_Sum] at this ⊢
    exact this
  refine ⟨.string (keyBytes k), ?_⟩
  unfold keyOf
  rw [Tryd.underlying27]
  simp only [keytype_Sum, hf, hd]
  simp [sumV, Value.cells, hk]
end Go.Proofs.YtnhecallffkedabDoor
