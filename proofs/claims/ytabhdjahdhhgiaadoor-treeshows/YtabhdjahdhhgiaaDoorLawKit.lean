/-
  From a walk to a law's statement: the arguments opened, the result shut, the listed tables.
-/
import Derived.Test.YtabhdjahdhhgiaaDoorCards
import Derived.Test.YtabhdjahdhhgiaaDoorTie
import Derived.WalkKit
import Derived.ProofKit
import Derived.OpenShut
import Derived.Deep.DeepHandedRow
import Derived.Lib.LaidTab
import Derived.Stop.LaidErr
import Derived.Test.YtabhdjahdhhgiaaDoorShaState
namespace Go.Proofs.YtabhdjahdhhgiaaDoor
open Go.ChangeShapes Go.WideShapes Go.ChangeAt Go.RowKit

theorem own : ownKnob Tryd.prog.godebug = none := by kernel_rfl
theorem laidOut : laidOutB Tryd.prog = true := by kernel_rfl

/-- Below the heap's old size nothing has turned: all arguments read as they did. -/
theorem trodAll_below {H : Type} {enc : TypeId × Value → H} {W W' : World} (hb : Below W.heap.size W W') :
    ∀ (ts : List TypeId) (vs : List Value) (ds : List (DataW H)) (ps : List MemPlace), (∀ t ∈ ts, Tryd.prog.readableRec t = true ∧ t < Tryd.prog.types.size) →
      DataW.TrodAll enc Tryd.prog W 0 (fun _ => true) true ts vs ds ps → (∀ x ∈ ps, x.block < W.heap.size) → DataW.TrodAll enc Tryd.prog W' 0 (fun b => decide (b < W.heap.size)) true ts vs ds ps
  | [], [], [], _, _, h, _ => h
  | [], _ :: _, _, _, _, h, _ => h.elim
  | [], [], _ :: _, _, _, h, _ => h.elim
  | _ :: _, [], _, _, _, h, _ => h.elim
  | _ :: _, _ :: _, [], _, _, h, _ => h.elim
  | t :: ts, v :: vs, d :: ds, ps, hr, ⟨p, q, h, hs, he⟩, hlt => by
    subst he
    refine ⟨p, q, ?_, ?_, rfl⟩
    · exact Below.trod laidOut (hr t (by simp)).1 (hr t (by simp)).2 h hb (fun x hx => hlt x (by simp [hx]))
    · exact trodAll_below hb ts vs ds q (fun u hu => hr u (by simp [hu])) hs (fun x hx => hlt x (by simp [hx]))

/-- The post of a law: it returned true, and nothing that was there has turned. -/
theorem law_post {H : Type} {enc : TypeId × Value → H} {s : ChangeSpec} {f : Func} {W W' : World} {args : Array Value} {ds gs : List (DataW H)} {before : List MemPlace}
    (hvs : s.vars = []) (hty : f.resultTypes = #[4]) (hr : ∀ t ∈ f.params.toList, Tryd.prog.readableRec t = true ∧ t < Tryd.prog.types.size)
    (hW : DataW.Whole enc Tryd.prog f.params.toList s.vars false W args.toList ds gs before)
    (hfn : s.fn H ds = { results := [.lit (.bool true)], args := ds }) (hb : Below W.heap.size W W') :
    s.post enc Tryd.prog f false true false false W args (.bool true) W' := by
  have hW' := hW
  obtain ⟨p, q, hA, hV, rfl, hfz, hnd⟩ := hW
  rw [hvs] at hV
  obtain ⟨rfl, rfl⟩ := trodVars_none hV
  simp only [List.append_nil] at hW' hfz hnd
  have hfn' : s.fn H (ds ++ []) = { results := [.lit (.bool true)], args := ds } := by rw [List.append_nil]; exact hfn
  refine ⟨ds, [], p, [], p, [], hW', ?_, ?_, ?_, hb.frame _, fun h => by cases h⟩
  · rw [hfn', hty]
    exact trodAll_cons_mk (shut_bool Tryd.underlying4 _) trodAll_mk0
  · rw [hfn']
    exact trodAll_below hb _ _ _ _ hr hA (fun x hx => hW'.lt x hx)
  · rw [hfn', hvs]
    exact rfl

/-- An array of numbers, opened. -/
theorem open_arr {H : Type} {enc : TypeId × Value → H} {W : World} {base : Nat} {sp : Nat → Bool} {held : Bool} {r : Reach} {b0 : Nat} {t e : TypeId} {n : Nat} {k : IntKind} {v : Value} {d : DataW H} {p : List MemPlace}
    (hu : Tryd.prog.underlying t = some (.array n e)) (he : Tryd.prog.underlying e = some (.int k)) (hce : Tryd.prog.cellsOf e = 1) (hct : Tryd.prog.cellsOf t = n)
    (hv : Value.okWide Tryd.prog W r b0 t v) (h : DataW.Trod enc Tryd.prog W base sp held t v d p) :
    ∃ zs : List Int, v = .agg (zs.map (Value.int k)).toArray ∧ zs.length = n ∧ ∀ z ∈ zs, (Lit.int k z).wf = true := by
  unfold Value.okWide at hv
  rw [hu] at hv
  obtain ⟨cs, rfl, hsz, _⟩ := hv
  obtain ⟨fuel, hf⟩ := h
  obtain ⟨xs, m, _, _, hcl, hxl, hx⟩ := DataW.trod_array hu hf
  have hcs : cs.toList.length = n := by rw [Array.length_toList, hsz, hct]
  have hall : ∀ i (hi : i < n), ∃ z, cs.toList[i]? = some (.int k z) ∧ (Lit.int k z).wf = true := by
    intro i hi
    have h1 := hx i hi
    rw [hce, Nat.mul_one, List.getElem?_eq_getElem (by omega)] at h1
    obtain ⟨z, hc, _, hw⟩ := DataW.trod_int he h1
    refine ⟨z, ?_, hw⟩
    have := congrArg (·[0]?) hc
    simpa [List.getElem?_take, List.getElem?_drop, Value.cells] using this
  refine ⟨cs.toList.map (fun v => intOf v), ?_, by rw [List.length_map]; exact hcs, ?_⟩
  · congr 1
    apply Array.toList_inj.1
    apply List.ext_getElem?
    intro i
    by_cases hi : i < n
    · obtain ⟨z, hz, _⟩ := hall i hi
      simp only [List.getElem?_map, hz, Option.map_some, intOf]
    · rw [List.getElem?_eq_none (by omega), List.getElem?_eq_none (by simp; omega)]
  · intro z hz
    simp only [List.mem_map] at hz
    obtain ⟨v, hv, rfl⟩ := hz
    obtain ⟨i, hi, rfl⟩ := List.mem_iff_getElem.1 hv
    obtain ⟨z, hz, hw⟩ := hall i (by omega)
    rw [List.getElem?_eq_getElem hi] at hz
    rw [Option.some.inj hz]
    exact hw

theorem ints_of {zs : List Int} {k : IntKind} (h : ∀ z ∈ zs, 0 ≤ z) : (zs.map (Value.int k)).toArray = ints k (zs.map Int.toNat) := by
  unfold ints
  congr 1
  rw [List.map_map]
  apply List.map_congr_left
  intro z hz
  simp [Int.toNat_of_nonneg (h z hz)]
theorem open_sum {H : Type} {enc : TypeId × Value → H} {W : World} {base : Nat} {sp : Nat → Bool} {held : Bool} {r : Reach} {b0 : Nat} {v : Value} {d : DataW H} {p : List MemPlace}
    (hv : Value.okWide Tryd.prog W r b0 27 v) (h : DataW.Trod enc Tryd.prog W base sp held 27 v d p) :
    ∃ xs : List Nat, v = .agg (ints .u8 xs) ∧ xs.length = 32 ∧ ∀ x ∈ xs, x < 256 := by
  obtain ⟨zs, rfl, hl, hw⟩ := open_arr Tryd.underlying27 Tryd.underlying5 (by kernel_rfl) (by kernel_rfl) hv h
  have hb : ∀ z ∈ zs, 0 ≤ z ∧ z ≤ 255 := fun z hz => bounds_u8 (hw z hz)
  refine ⟨zs.map Int.toNat, by rw [ints_of (fun z hz => (hb z hz).1)], by rw [List.length_map]; exact hl, ?_⟩
  intro x hx
  simp only [List.mem_map] at hx
  obtain ⟨z, hz, rfl⟩ := hx
  have := hb z hz
  omega

theorem gK : Tryd.prog.globalNamed "sealwax/sha.constants" = some 0 := by kernel_rfl
theorem gKType : (Tryd.prog.globals[0]?).map (·.type) = some 89 := by kernel_rfl
theorem gH : Tryd.prog.globalNamed "sealwax/sha.first" = some 1 := by kernel_rfl
theorem gHType : (Tryd.prog.globals[1]?).map (·.type) = some 67 := by kernel_rfl
theorem cells67 : Tryd.prog.cellsOf 89 = 64 := by kernel_rfl
theorem cells35 : Tryd.prog.cellsOf 67 = 8 := by kernel_rfl
theorem cells34 : Tryd.prog.cellsOf 66 = 1 := by kernel_rfl

theorem dataH : (Rows.laid_sealwax_sha_first : DataW Unit) = Lib.tabData .u32 (Sx.H0.map fun n : Nat => (n : Int)) := by kernel_rfl
theorem dataK : (Rows.laid_sealwax_sha_constants : DataW Unit) = Lib.tabData .u32 (Sx.K.map fun n : Nat => (n : Int)) := by kernel_rfl
theorem getD_cast (l : List Nat) (i : Nat) : (l.map fun n : Nat => (n : Int)).getD i 0 = ((l.getD i 0 : Nat) : Int) := by
  simp only [List.getD_eq_getElem?_getD, List.getElem?_map]
  cases l[i]? <;> rfl

/-- The row's list gives the tables. -/
theorem tabs_of {W : World} (h : laidMetH Tryd.prog [("sealwax/sha.first", Rows.laid_sealwax_sha_first), ("sealwax/sha.constants", Rows.laid_sealwax_sha_constants)] W) : Tabs W := by
  have h' : laidMet Tryd.prog [("sealwax/sha.first", Rows.laid_sealwax_sha_first), ("sealwax/sha.constants", Rows.laid_sealwax_sha_constants)] W := h
  have h2 := laidMet.tail h'
  rw [dataH] at h'
  rw [dataK] at h2
  have t1 := Lib.tabIs_of_head gH gHType Tryd.underlying67 Tryd.underlying66 cells34 cells35 h'
  have t2 := Lib.tabIs_of_head gK gKType Tryd.underlying89 Tryd.underlying66 cells34 cells67 h2
  refine ⟨fun i hi => ?_, fun i hi => ?_⟩
  · rw [t2.cell gK i (by rw [List.length_map]; exact hi), getD_cast]
  · rw [t1.cell gH i (by rw [List.length_map]; exact hi), getD_cast]

def relaid (cs : Array Value) : Obj → Obj
  | .cells _ t frozen => .cells cs t frozen
  | o => o
/-- A world for the witnesses: the settled one, the tables holding what their initialisers lay. -/
noncomputable def laidWorld (os : Os) : World :=
  { World.holding Tryd.prog os ⟨#[], #[], []⟩ with heap := ((World.holding Tryd.prog os ⟨#[], #[], []⟩).heap.modify 0 (relaid (ints .u32 Sx.K))).modify 1 (relaid (ints .u32 Sx.H0)) }
end Go.Proofs.YtabhdjahdhhgiaaDoor
