/-
  For every sum the digits of Hex are those of its bytes, two by two (law ShaHexes); without conditions.
-/
import Derived.Test.YtnhebfafiikilaaDoorLawKit
import Derived.Test.YtnhebfafiikilaaDoorShaRefHex
namespace Go.Proofs.YtnhebfafiikilaaDoor
open Go.ChangeShapes Go.WideShapes Go.ChangeAt Go.RowKit
open Go.Lib (hid)

namespace ShaHexes
set_option maxHeartbeats 1000000 in
theorem walk (xs : List Nat) (hl : xs.length = 32) (hx : ∀ x ∈ xs, x < 256) (w : World) (hT : Tabs w) :
    Calls Tryd.prog 6 #[.agg (ints .u8 xs)] w fun e w' => e = .returned (.bool true) ∧ Below w.heap.size w w' := by
  have hs : (ints .u8 xs).size = 32 := by rw [ints_size, hl]
  have HT := hid hT
  have HX := hid hx
  have hz : (str (Sx.hexL xs)).size = 64 := by rw [str_size, Sx.hexL_length, hl]
  clear hT hx
  obtain ⟨S, hS⟩ : ∃ S, S = str (Sx.hexL xs) := ⟨_, rfl⟩
  have HS := hid hS
  rw [← hS] at hz
  clear hS
  have hzI : ((S.size : Int) == 64) = true := by rw [hz]; rfl
  have HZ := hid hz
  clear hz
  go_enter Tryd.func6, Tryd.ntmps6
  go_upto_region 1 with (fail)
  have hrow : Row (w.alloc (.cells (ints .u8 xs) 26)) w.heap.size .u8 26 xs := heap_alloc_new _ _
  have hb0 : Below w.heap.size w (w.alloc (.cells (ints .u8 xs) 26)) := (Below.refl _ _).alloc (Nat.le_refl _) _
  generalize hw0 : w.alloc _ = w0 at *
  clear hw0
  have HB0 := hid hb0
  clear hb0
  go_wp2_with fail
  refine (awake_any _ (HT.out.below HB0.out (Nat.le_refl _))).mono ?_
  rintro e w1 ⟨rfl, hb1⟩
  have hrow1 := hrow.below hb1 hrow.lt
  go_wp2_with (refine wpList_load_row rfl _ _ rfl w.heap.size rfl _ _ _ _ hrow1 Tryd.underlying26 rfl (by rw [hs]; exact info26) ?_)
  refine (hex_any xs hl (getD_lt (by omega) HX.out) _).mono ?_
  rintro e w2 ⟨rfl, hb2⟩
  rw [← HS.out]
  have hrow2 := hrow1.below hb2 hrow1.lt
  clear hrow hrow1
  go_wp2_with (refine wpList_load_row_g rfl _ _ rfl w.heap.size rfl _ _ _ _ hrow2 Tryd.underlying26 rfl (by rw [hs]; exact info26) ?_)
  refine (text_any xs hl _).mono ?_
  rintro e w3 ⟨rfl, hb3⟩
  go_wp2_with fail
  refine (refhex_any xs HX.out (by omega) _).mono ?_
  rintro e w4 ⟨rfl, hb4⟩
  rw [← HS.out]
  go_wp2_with fail
  go_ret
  exact ⟨rfl, (((HB0.out.next (Nat.le_refl _) hb1).next (Nat.le_refl _) hb2).next (Nat.le_refl _) hb3).next (Nat.le_refl _) hb4⟩


theorem contract (H : Type) (enc : TypeId × Value → H) (W : World) (base : Nat) (args : Array Value) (ds gs : List (DataW H)) (before : List MemPlace)
    (hval : ∀ (j : Nat) t v, Tryd.f6.params[j]? = some t → args[j]? = some v → Value.okWide Tryd.prog W .any base t v)
    (hW : DataW.Whole enc Tryd.prog Tryd.f6.params.toList Rows.shaHexesSpec.vars false W args.toList ds gs before) (hL : laidMetH Tryd.prog Rows.shaHexesRow.laid W) :
    Calls Tryd.prog 6 args W fun e W' => ∃ v, e = .returned v ∧ Rows.shaHexesSpec.post enc Tryd.prog Tryd.f6 false true false false W args v W' := by
  have hW' := hW
  obtain ⟨p, q, hA0, hV, rfl, hfz, hnd⟩ := hW
  have hA : DataW.TrodAll enc Tryd.prog W 0 (fun _ => true) true Tryd.f6.params.toList args.toList ds p := hA0
  rw [Tryd.params6] at hA hval
  obtain ⟨v0, vs0, d0, ds0, p0, q0, hargs, rfl, rfl, h0, r0⟩ := trodAll_cons hA
  obtain ⟨rfl, rfl, rfl⟩ := trodAll_nil r0
  obtain rfl : args = #[v0] := by cases args; simp_all
  obtain ⟨xs0, rfl, hl0, hx0⟩ := open_sum (hval 0 26 v0 rfl rfl) h0
  refine (walk xs0 hl0 hx0 W (tabs_of hL)).mono fun e W' ⟨he, hb⟩ => ?_
  subst he
  exact ⟨_, rfl, law_post rfl rfl (by rw [Tryd.params6]; decide +kernel) hW' rfl hb⟩

theorem laid_met (os : Os) : laidMet Tryd.prog Rows.shaHexesRow.laid ((laidWorld os).forCall (fun _ _ => 0) ⟨#[], #[.agg (ints .u8 (List.replicate 32 0))], []⟩).memory :=
  laidMet_of_run' 8 (by kernel_rfl) (by kernel_rfl)
theorem reads (os : Os) {H : Type} (enc : TypeId × Value → H) : ∃ places, DataW.whole enc Tryd.prog ((laidWorld os).forCall (fun _ _ => 0) ⟨#[], #[.agg (ints .u8 (List.replicate 32 0))], []⟩).memory Tryd.f6.params.toList Rows.shaHexesSpec.vars false (#[.agg (ints .u8 (List.replicate 32 0))] : Array Value).toList 8
    = some ([.agg (List.replicate 32 (.lit (.int .u8 0)))], [], places) :=
  ⟨[], by kernel_rfl⟩

set_option maxRecDepth 100000 in
theorem lifted (os : Os) (started : os.Started) (H : Type) (enc : TypeId × Value → H) (F : Stop.Interp) :
    ReturnsInHanded {} Tryd.checked os 6 .any ((OpenSpec.ofChange Rows.shaHexesSpec).preRow enc Tryd.prog Tryd.f6 Rows.shaHexesRow.domain false Rows.shaHexesRow.laid) (((OpenSpec.ofChange Rows.shaHexesSpec).at F).post enc Tryd.prog Tryd.f6 false true false false) := by
  obtain ⟨places, hx⟩ := reads os enc
  refine returnsInHanded_of_row (C := Tryd.checked) (s := OpenSpec.ofChange Rows.shaHexesSpec) own started (by kernel_rfl) Tryd.func6
    (witness_row_at (enc := enc) (C := Tryd.checked) false (laidWorld os) #[.agg (ints .u8 (List.replicate 32 0))] rfl (by kernel_rfl) (by kernel_rfl) (by kernel_rfl)
      (OpenSpec.preRow_of_cond 8 hx (by kernel_rfl) (fun k hk => by cases hk) (by kernel_rfl) (laid_met os))) ?_
  intro W base args ds gs before hval hW _ _ _ hL _ _
  exact contract H enc W base args ds gs before hval hW hL

theorem said : Rows.ShaHexesSaid :=
  OpenClaim.holds_of_cond 6 Tryd.f6 rfl rfl rfl rfl rfl rfl rfl ⟨rfl, rfl, rfl, rfl, rfl⟩ rfl rfl rfl rfl rfl (by kernel_rfl) Tryd.func6 (by kernel_rfl)
    (of_decide_eq_true (by kernel_rfl)) (by unfold Func.isWrapper; first | (rw [if_pos (by decide +kernel)]; kernel_rfl) | (rw [if_neg (by decide +kernel)]; exact ⟨rfl, rfl⟩))
    (fun os started H enc _ F => by rw [OpenClaim.pre_eq_preRow]; exact lifted os started H enc F)

theorem plain (f : FuncId) (fn : Func) (hf : Tryd.pinned.checked.prog.funcNamed "sealwax/sealwaxlaw01.ShaHexes" = some f) (hfn : Tryd.pinned.checked.prog.funcs[f]? = some fn) :
    false = Tryd.pinned.checked.prog.looks [] ∧ ∀ (j : Nat) t, fn.params[j]? = some t → Tryd.pinned.checked.prog.wantsStandIn t = false := by
  obtain rfl : f = 6 := Option.some.inj ((show Tryd.prog.funcNamed "sealwax/sealwaxlaw01.ShaHexes" = some 6 by kernel_rfl).symm.trans hf) |>.symm
  obtain rfl : fn = Tryd.f6 := (Option.some.inj (Tryd.func6.symm.trans hfn)).symm
  refine ⟨by kernel_rfl, fun j t ht => ?_⟩
  rw [Tryd.params6] at ht
  have hmem := Array.mem_of_getElem? ht
  exact (show ∀ t ∈ (Tryd.f6.params), Tryd.prog.wantsStandIn t = false from by rw [Tryd.params6]; decide +kernel) t (by rw [Tryd.params6]; exact hmem)

theorem card : Rows.ShaHexesCardSaid :=
  Claim7.holds_tied_plain_at .later [] _ _ _ _ said (fun _ h => by cases h) (by kernel_rfl) (fun _ h => by cases h) shaHexes_row_tie rfl ⟨rfl, rfl⟩ (by kernel_rfl) rfl plain (by kernel_rfl)

end ShaHexes
theorem shaHexes_card : Rows.ShaHexesCardSaid := ShaHexes.card
end Go.Proofs.YtnhebfafiikilaaDoor
