/-
  The laws of layer 3: a place opened, the listed table, the way from a walk to a law.
-/
import Derived.Test.YtgjkkcggcljcdaaDoorStr5
import Derived.Deep.Strs
namespace Go.Proofs.YtgjkkcggcljcdaaDoor
open Go.ChangeShapes Go.WideShapes Go.ChangeAt Go.RowKit
open Go.Lib (hid)

/-- The cells of an array of numbers. -/
theorem open_cells {H : Type} {enc : TypeId × Value → H} {W : World} {base : Nat} {sp : Nat → Bool} {held : Bool} {fuel : Nat} {t e : TypeId} {n : Nat} {k : IntKind} {cs : List Value} {x : DataW H × List MemPlace}
    (hu : Tryd.prog.underlying t = some (.array n e)) (he : Tryd.prog.underlying e = some (.int k)) (hce : Tryd.prog.cellsOf e = 1) (hct : Tryd.prog.cellsOf t = n)
    (h : DataW.trod enc Tryd.prog W base sp held fuel t cs = some x) : ∃ zs : List Int, cs = zs.map (Value.int k) ∧ zs.length = n ∧ ∀ z ∈ zs, (Lit.int k z).wf = true := by
  obtain ⟨xs, m, _, _, hcl, hxl, hx⟩ := DataW.trod_array hu h
  have hcs : cs.length = n := by rw [hcl, hct]
  have hall : ∀ i (hi : i < n), ∃ z, cs[i]? = some (.int k z) ∧ (Lit.int k z).wf = true := by
    intro i hi
    have h1 := hx i hi
    rw [hce, Nat.mul_one, List.getElem?_eq_getElem (by omega)] at h1
    obtain ⟨z, hc, _, hw⟩ := DataW.trod_int he h1
    refine ⟨z, ?_, hw⟩
    have := congrArg (·[0]?) hc
    simpa [List.getElem?_take, List.getElem?_drop, Value.cells] using this
  refine ⟨cs.map (fun v => intOf v), ?_, by rw [List.length_map]; exact hcs, ?_⟩
  · apply List.ext_getElem?
    intro i
    by_cases hi : i < n
    · obtain ⟨z, hz, _⟩ := hall i hi
      simp only [List.getElem?_map, hz, Option.map_some, intOf]
    · rw [List.getElem?_eq_none (by omega), List.getElem?_eq_none (by simp; omega)]
  · intro z hz
    simp only [List.mem_map] at hz
    obtain ⟨v, hv, rfl⟩ := hz
    obtain ⟨i, hi, rfl⟩ := List.mem_iff_getElem.1 hv
    obtain ⟨z, hz, hw⟩ := hall i (by omega)
    rw [List.getElem?_eq_getElem hi] at hz
    rw [Option.some.inj hz]
    exact hw
theorem bytes_of {zs : List Int} (hw : ∀ z ∈ zs, (Lit.int .u8 z).wf = true) : ∃ xs : List Nat, zs.map (Value.int .u8) = (ints .u8 xs).toList ∧ xs.length = zs.length ∧ ∀ x ∈ xs, x < 256 := by
  have hb : ∀ z ∈ zs, 0 ≤ z ∧ z ≤ 255 := fun z hz => bounds_u8 (hw z hz)
  refine ⟨zs.map Int.toNat, ?_, by simp, ?_⟩
  · rw [← ints_of (fun z hz => (hb z hz).1)]
  · intro x hx
    simp only [List.mem_map] at hx
    obtain ⟨z, hz, rfl⟩ := hx
    have := hb z hz
    omega

theorem bounds_u32' {n : Int} (h : (Lit.int .u32 n).wf = true) : 0 ≤ n ∧ n < 4294967296 := by
  simp [Lit.wf, IntKind.min, IntKind.max, IntKind.signed, IntKind.bits] at h
  omega

/-- The cells of a place. -/
def plC (key : List Nat) (c : Nat) (nonce : List Nat) : Array Value := ints .u8 key ++ #[.int .u32 (c : Int)] ++ ints .u8 nonce
theorem plC_list (key : List Nat) (c : Nat) (nonce : List Nat) : (plC key c nonce).toList = (ints .u8 key).toList ++ ([.int .u32 (c : Int)] ++ (ints .u8 nonce).toList) := by simp [plC]
theorem gQ : Tryd.prog.globalNamed "sealwax/stream.quarters" = some 0 := by kernel_rfl
theorem gQType : (Tryd.prog.globals[0]?).map (·.type) = some 152 := by kernel_rfl
theorem dataQ : (Rows.laid_sealwax_stream_quarters : DataW Unit) = .agg (Cx.quarters.map fun q => Lib.tabData .i64 (q.map fun n : Nat => (n : Int))) := by kernel_rfl

/-- The row's list gives the table. -/
theorem tabq_of {W : World} (h : laidMetH Tryd.prog [("sealwax/stream.quarters", Rows.laid_sealwax_stream_quarters)] W) : TabQ W := by
  have h' : laidMet Tryd.prog [("sealwax/stream.quarters", Rows.laid_sealwax_stream_quarters)] W := h
  rw [dataQ] at h'
  obtain ⟨ps, ⟨g', t', cs, fuel, p, q, hg', ht', hvar, hd, _, _⟩, _⟩ := h'
  obtain rfl := Option.some.inj (gQ.symm.trans hg')
  obtain rfl := Option.some.inj (gQType.symm.trans ht')
  obtain ⟨xs, m, _, hxe, hcl, hxl, hx⟩ := DataW.trod_array Tryd.underlying152 hd
  have hcl' : cs.toList.length = 32 := by rw [hcl]; kernel_rfl
  have hrow : ∀ i, i < 8 → (cs.toList.drop (4 * i)).take 4 = (Cx.quarters.getD i []).map fun n : Nat => Value.int .i64 (n : Int) := by
    intro i hi
    have h1 := hx i hi
    rw [show Tryd.prog.cellsOf 151 = 4 from by kernel_rfl, Nat.mul_comm, List.getElem?_eq_getElem (by omega)] at h1
    have h2 : xs[i].1 = Lib.tabData .i64 ((Cx.quarters.getD i []).map fun n : Nat => (n : Int)) := by
      have h3 := congrArg (fun x : DataW Unit × List MemPlace => match x.1 with | .agg l => l[i]? | _ => none) hxe
      simp only [List.getElem?_map, List.getElem?_eq_getElem (show i < xs.length by omega), List.getElem?_eq_getElem (show i < Cx.quarters.length from hi), Option.map_some, Option.some.injEq] at h3
      rw [← h3, List.getD_eq_getElem?_getD, List.getElem?_eq_getElem (show i < Cx.quarters.length from hi)]
      rfl
    have h4 : DataW.trod (fun _ => ()) Tryd.prog W 0 (fun _ => true) false m 151 ((cs.toList.drop (4 * i)).take 4) = some (Lib.tabData .i64 ((Cx.quarters.getD i []).map fun n : Nat => (n : Int)), xs[i].2) := by rw [h1, ← h2]
    have h5 := Lib.cells_of_tab Tryd.underlying151 Tryd.underlying3 (by kernel_rfl) (by kernel_rfl) h4
    rw [h5, List.map_map]
    rfl
  intro j v hj
  rw [Nat.zero_add, World.var?_cell gQ hvar j, ← Array.getElem?_toList]
  have hjl : j < 32 := by have := (List.getElem?_eq_some_iff.1 hj).1; rwa [ints_llen] at this
  have h6 := congrArg (·[j % 4]?) (hrow (j / 4) (by omega))
  simp only [List.getElem?_take, List.getElem?_drop, List.getElem?_map] at h6
  rw [if_pos (by omega), show 4 * (j / 4) + j % 4 = j from by omega] at h6
  have e2 : (ints .i64 Cx.flat).toList[j]? = some (.int .i64 (Cx.flat.getD j 0 : Nat)) := by rw [Array.getElem?_toList, ints_get _ _ _ hjl]
  rw [h6, ← hj, e2]
  exact (show ∀ j, j < 32 → ((Cx.quarters.getD (j / 4) [])[j % 4]?.map fun n : Nat => Value.int .i64 (n : Int)) = some (.int .i64 (Cx.flat.getD j 0 : Nat)) from by
    intro j hj
    have h7 : ∀ j, j < 32 → (Cx.quarters.getD (j / 4) [])[j % 4]? = some (Cx.flat.getD j 0) := by decide +kernel
    rw [h7 j hj]; rfl) j hjl

/-- A world for the witnesses: the settled one, the tables holding what their initialisers lay. -/
noncomputable def laidWorldS (os : Os) : World :=
  { World.holding Tryd.prog os ⟨#[], #[], []⟩ with heap := (World.holding Tryd.prog os ⟨#[], #[], []⟩).heap.modify 0 (relaid (ints .i64 Cx.flat)) }

theorem plC_key {w : World} {b : Nat} {key : List Nat} {c : Nat} {nonce : List Nat} {t : TypeId} {fr : Nat × Nat} (h : w.heap[b]? = some (.cells (plC key c nonce) t fr)) : w.rangeAt b 0 (ints .u8 key).toList := by
  intro j v hj
  have hlt : j < (ints .u8 key).toList.length := (List.getElem?_eq_some_iff.1 hj).1
  rw [Nat.zero_add, cell_of_row w b j _ _ _ h, ← Array.getElem?_toList, plC_list, List.getElem?_append_left hlt]; exact hj
theorem plC_ctr {w : World} {b : Nat} {key : List Nat} {c : Nat} {nonce : List Nat} {t : TypeId} {fr : Nat × Nat} (h : w.heap[b]? = some (.cells (plC key c nonce) t fr)) (hk : key.length = 32) : w.cell? ⟨b, 32, none⟩ = some (.int .u32 (c : Int)) := by
  rw [cell_of_row w b 32 _ _ _ h, ← Array.getElem?_toList, plC_list, List.getElem?_append_right (by rw [ints_llen]; omega), ints_llen, hk]
  rfl
theorem plC_nonce {w : World} {b : Nat} {key : List Nat} {c : Nat} {nonce : List Nat} {t : TypeId} {fr : Nat × Nat} (h : w.heap[b]? = some (.cells (plC key c nonce) t fr)) (hk : key.length = 32) : w.rangeAt b 33 (ints .u8 nonce).toList := by
  intro j v hj
  rw [cell_of_row w b (33 + j) _ _ _ h, ← Array.getElem?_toList, plC_list, List.getElem?_append_right (by rw [ints_llen]; omega), ints_llen, hk, show 33 + j - 32 = j + 1 from by omega, List.getElem?_append_right (by simp)]
  simpa using hj

/-- A whole array is loaded in a quiet walk. -/
theorem wpQuiet_load_arr {P : Program} {ops : Array Oper} {C : World → Prop} {Q : Act → Prop} {rest : List Oper} {o : Oper} {a : Act} (hgd : Region.wanted o (yielded ops a.tmps) = true) (ty : TypeId) (x : Operand) (ho : o.op = .load ty x)
    (b off : Nat) (hx : a.eval x = .pointer (some ⟨b, off, none⟩)) (cs : Array Value) (d : TypeDesc) (hc : ∀ w, C w → w.rangeAt b off cs.toList)
    (hu : P.underlying ty = some d) (hd : d.isRow = true) (hi : (P.info? ty).map (·.size) = some cs.toList.length)
    (h : wpQuiet P ops C Q rest (a.put o.dst (.agg cs))) : wpQuiet P ops C Q (o :: rest) a := by
  refine wpQuiet_step (fun K hK => ?_)
  rw [if_pos hgd]
  refine ⟨.agg cs, fun w hw => ?_, hK _ h⟩
  have hrun := run_loadVar_mid w b off ty cs.toList d (hc w hw) hu hd hi
  rw [Array.toArray_toList] at hrun
  unfold Oper.quietAt execOp
  simp only [ho, hx, Instr.loadAt, Instr.sureAddr, Sem.run_bind, Sem.run_pure, Result.andThen_ok, hrun]
  exact ⟨rfl, rfl⟩
end Go.Proofs.YtgjkkcggcljcdaaDoor
