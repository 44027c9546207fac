/-
  The laws of layer 12: the fixed facts that each begins with.
-/
import Derived.Test.YtlehhalakjjnkaaPad5
namespace Go.Proofs.Ytlehhalakjjnkaa
open Go.ChangeShapes Go.WideShapes Go.ChangeAt Go.RowKit
open Go.Lib (hid)

theorem OwnS.capP {w : World} {base : Nat} {v : Value} {L : List (List Nat)} (h : OwnS w base v L) : ∃ ao cap, v = .slice ao L.length cap ∧ Strs w ao L ∧ L.length ≤ cap ∧ (ao = none → cap = 0) := by
  obtain ⟨ao, cap, hv, hs⟩ := h.strs
  obtain ⟨h1, ⟨hv', h0⟩ | ⟨g, cap', cur, hv', hg, hh, hn, _⟩⟩ := h
  · rw [hv'] at hv
    injection hv with e1 e2 e3
    exact ⟨ao, cap, by rw [hv', ← e1, ← e2, ← e3], hs, by omega, fun _ => e3.symm⟩
  · rw [hv'] at hv
    injection hv with e1 e2 e3
    exact ⟨ao, cap, by rw [hv', e1, e3], hs, by omega, fun hn' => by rw [hn'] at e1; cases e1⟩

set_option maxHeartbeats 1000000 in
set_option maxRecDepth 100000 in
theorem awake12_any (w : World) :
    Calls Try.prog 7 #[] w fun e w' => e = .returned (.bool true) ∧ Below w.heap.size w w' := by
  have HC1 := hid (fun wx => class_any 232 wx)
  have HC2 := hid (fun wx => class_any 233 wx)
  rw [show Pd.cls 232 = 1 from by decide +kernel] at HC1
  rw [show Pd.cls 233 = 2 from by decide +kernel] at HC2
  have HPK := hid (fun wx => pack_any [120] (by decide) (by decide) wx)
  rw [show Pd.cls (([120] : List Nat).length : Int) = 1 from by decide +kernel, show str [120] = ⟨#[120]⟩ from rfl, show Pd.pages [120] = [Pd.page [120] 0] from by simp [Pd.pages, Pd.pagesN, show Pd.cls 1 = 1 from by decide +kernel]] at HPK
  have hz := str_size (Pd.page [120] 0)
  rw [Pd.page_length] at hz
  generalize Pd.page [120] 0 = p at *
  go_enter Try.func7, Try.ntmps7
  go_wp2_with fail
  refine (HC1.out _).mono ?_
  rintro e w1 ⟨rfl, hw1⟩
  obtain rfl : w = w1 := hw1.symm
  go_wp2_with fail
  refine (HC2.out _).mono ?_
  rintro e w1 ⟨rfl, hw1⟩
  obtain rfl : w = w1 := hw1.symm
  go_wp2_with fail
  refine (HPK.out _).mono ?_
  rintro e w2 ⟨v, rfl, hown, hb⟩
  obtain ⟨a, c, rfl, hst⟩ := hown.strs
  obtain ⟨sb, so, rfl, hc⟩ := hst 0 (by simp)
  rw [Nat.add_zero] at hc
  have hc' : w2.cell? ⟨sb, so, none⟩ = some (.string (str p)) := hc
  clear hc hst hown
  have HB := hid hb
  clear hb
  generalize str p = P at *
  go_wp2
  go_ret
  exact ⟨by rfl, HB.out⟩
/-- A world for the witnesses: the settled one. -/
noncomputable def laidWorld (os : Os) : World := World.holding Try.prog os ⟨#[], #[], []⟩
end Go.Proofs.Ytlehhalakjjnkaa
