/-
  Layer 9: two rows of acts in a struct, opened (DiskCrashes's argument).
-/
import Derived.Test.YtkhkpcigjpibiaaDk18
namespace Go.Proofs.Ytkhkpcigjpibiaa
open Go.ChangeShapes Go.WideShapes Go.ChangeAt Go.RowKit
open Go.Lib (hid)

set_option maxRecDepth 100000 in
theorem open_acts1 {H : Type} {enc : TypeId × Value → H} {W : World} {c : Value} {fuel : Nat} {y : DataW H × List MemPlace}
    (hf : DataW.trod enc Try.prog W 0 (fun _ => true) true fuel 22 [c] = some y) :
    ∃ (ao : Option Addr) (L : List Dv.A) (cap : Nat), c = .slice ao L.length cap ∧ ActsD W ao L ∧ L.length ≤ maxLen ∧ ∀ i, i < L.length → (L.getD i Dv.A.z).t.size ≤ maxLen := by
  rcases Deep.open_slice Try.underlying22 hf with ⟨hcs, _⟩ | ⟨a, len, cap, m, n, D, Pl, hcs, _, hl, hm, hmm, _, hx⟩
  · simp only [List.cons.injEq, and_true] at hcs
    subst hcs
    exact ⟨none, [], 0, rfl, fun i hi => absurd hi (by simp), by simp, fun i hi => absurd hi (by simp)⟩
  · simp only [List.cons.injEq, and_true] at hcs
    subst hcs
    simp only [if_true] at hmm
    have each : ∀ i, i < m → ∃ q : Dv.A, (∀ j v, (actC q).toList[j]? = some v → W.cell? (a.add (i * 5 + j)) = some v) ∧ q.t.size ≤ maxLen := by
      intro i hi
      obtain ⟨cs', h1, h2⟩ := hx i hi
      rw [show Try.prog.cellsOf 36 = 5 from by kernel_rfl] at h1
      obtain ⟨_, hlen, hcell⟩ := World.cells?_some h1
      obtain ⟨y0, y1, y2, y3, y4, k, g0, g1, g2, g3, g4⟩ := trod_struct5 Try.underlying36 h2
      match cs', hlen with
      | [v0, v1, v2, v3, v4], _ =>
        change DataW.trod enc Try.prog W 0 (fun _ => true) true k 3 [v0] = some y0 at g0
        change DataW.trod enc Try.prog W 0 (fun _ => true) true k 3 [v1] = some y1 at g1
        change DataW.trod enc Try.prog W 0 (fun _ => true) true k 3 [v2] = some y2 at g2
        change DataW.trod enc Try.prog W 0 (fun _ => true) true k 28 [v3] = some y3 at g3
        change DataW.trod enc Try.prog W 0 (fun _ => true) true k 9 [v4] = some y4 at g4
        obtain ⟨z0, e0, _, w0⟩ := DataW.trod_int Try.underlying3 g0
        obtain ⟨z1, e1, _, w1⟩ := DataW.trod_int Try.underlying3 g1
        obtain ⟨z2, e2, _, w2⟩ := DataW.trod_int Try.underlying3 g2
        obtain ⟨z3, e3, _, w3⟩ := DataW.trod_int Try.underlying28 g3
        obtain ⟨s4, e4, _, w4⟩ := DataW.trod_string Try.underlying9 g4
        simp only [List.cons.injEq, and_true] at e0 e1 e2 e3 e4
        subst e0 e1 e2 e3 e4
        refine ⟨⟨z0, z1, z2, z3, s4⟩, fun j v hj => ?_, by simpa using w4⟩
        have hj5 : j < 5 := (List.getElem?_eq_some_iff.1 hj).1
        have c0 := hcell j (by simpa using hj5)
        rw [Deep.add_add] at c0
        rw [c0]
        exact hj
    obtain ⟨q, hq⟩ := Deep.choose_lt each
    have hget : ∀ i, i < len → ((List.range len).map q).getD i Dv.A.z = q i := by
      intro i hi
      simp [List.getD_eq_getElem?_getD, hi]
    refine ⟨some a, (List.range len).map q, cap, by simp, ?_, by simp; omega, ?_⟩
    · intro i hi
      rw [List.length_map, List.length_range] at hi
      rw [hget i hi]
      have h00 := (hq 0 (by omega)).1 0 _ rfl
      obtain ⟨b, off, spot⟩ := a
      have hspot : spot = none := by simpa [Addr.add] using World.cell?_spot h00
      subst hspot
      refine ⟨b, off, rfl, fun j v hj => ?_⟩
      have := (hq i (by omega)).1 j v hj
      rw [Addr.add_mid] at this
      rw [Nat.add_assoc]
      exact this
    · intro i hi
      rw [List.length_map, List.length_range] at hi
      rw [hget i hi]
      exact (hq i (by omega)).2
def crC (f s : Value) (n m : Int) : Array Value := #[f, s, .int .i64 n, .int .u64 m]
set_option maxRecDepth 100000 in
theorem open_crash {H : Type} {enc : TypeId × Value → H} {W : World} {r : Reach} {b0 : Nat} {v : Value} {d : DataW H} {p : List MemPlace}
    (hv : Value.okWide Try.prog W r b0 42 v) (h : DataW.Trod enc Try.prog W 0 (fun _ => true) true 42 v d p) :
    ∃ (ao : Option Addr) (L : List Dv.A) (cap : Nat) (ao2 : Option Addr) (L2 : List Dv.A) (cap2 : Nat) (n m : Int), v = .agg (crC (.slice ao L.length cap) (.slice ao2 L2.length cap2) n m) ∧ ActsD W ao L ∧ L.length ≤ maxLen ∧ (∀ i, i < L.length → (L.getD i Dv.A.z).t.size ≤ maxLen) ∧
      ActsD W ao2 L2 ∧ L2.length ≤ maxLen ∧ (∀ i, i < L2.length → (L2.getD i Dv.A.z).t.size ≤ maxLen) ∧ (Lit.int IntKind.u64 m).wf = true := by
  unfold Value.okWide at hv
  rw [Try.underlying42] at hv
  obtain ⟨cs, rfl, hsz, hfs⟩ := hv
  obtain ⟨fuel, hf⟩ := h
  obtain ⟨xs, k, _, _, hl, hlen, hx⟩ := DataW.trod_struct Try.underlying42 hf
  have hcs : cs.size = 4 := by rw [hsz]; kernel_rfl
  obtain ⟨l⟩ := cs
  match l, hcs with
  | [c0, c1, c2, c3], _ =>
    match xs, hlen with
    | [y0, y1, y2, y3], _ =>
      have h0 := hx 0 _ rfl
      have h1 := hx 1 _ rfl
      have h2 := hx 2 _ rfl
      have h3 := hx 3 _ rfl
      change DataW.trod enc Try.prog W 0 (fun _ => true) true k 22 [c0] = some y0 at h0
      change DataW.trod enc Try.prog W 0 (fun _ => true) true k 22 [c1] = some y1 at h1
      change DataW.trod enc Try.prog W 0 (fun _ => true) true k 3 [c2] = some y2 at h2
      change DataW.trod enc Try.prog W 0 (fun _ => true) true k 28 [c3] = some y3 at h3
      obtain ⟨ao, L, cap, e0, a1, a2, a3⟩ := open_acts1 h0
      obtain ⟨ao2, L2, cap2, e1, b1, b2, b3⟩ := open_acts1 h1
      obtain ⟨z2, e2, _, _⟩ := DataW.trod_int Try.underlying3 h2
      obtain ⟨z3, e3, _, w3⟩ := DataW.trod_int Try.underlying28 h3
      simp only [List.cons.injEq, and_true] at e2 e3
      subst e0 e1 e2 e3
      exact ⟨ao, L, cap, ao2, L2, cap2, z2, z3, rfl, a1, a2, a3, b1, b2, b3, w3⟩
end Go.Proofs.Ytkhkpcigjpibiaa
