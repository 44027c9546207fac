/-
  Layer 18: a mailbox and the reference's, side by side.
-/
import Derived.Test.YtlfjhpmachblkaaBx18
namespace Go.Proofs.Ytlfjhpmachblkaa
open Go.ChangeShapes Go.WideShapes Go.ChangeAt Go.RowKit
open Go.Lib (hid)

attribute [local go_sem] Oper.semAt_some

namespace Bv
theorem add_le (X : Int) (L : List E) (m f : Int) : addX X L m f ≤ X + 1 := by unfold addX; split <;> omega
theorem Good.addX {V X : Int} {L : List E} (h : Good V X L) (hX : X ≤ 1000) (m f : Int) : Good V (Bv.addX X L m f) (Bv.addL X L m f) := by
  unfold Bv.addX Bv.addL
  by_cases he : addE L m f = 0
  · rw [if_pos he, if_pos he]
    have hmf : (okc m && fl f) = true := by
      unfold addE at he
      by_cases h1 : (okc m && fl f) = true
      · exact h1
      · rw [if_neg h1] at he; exact absurd he (by decide)
    have hl : L.length < 256 := by
      unfold addE at he
      rw [if_pos hmf] at he
      by_cases h1 : L.length < 256
      · exact h1
      · rw [if_neg h1] at he; exact absurd he (by decide)
    exact h.add (by cases h1 : okc m <;> simp_all) (by cases h1 : fl f <;> simp_all) hl (by omega)
  · rw [if_neg he, if_neg he]; exact h
theorem Good.st {V X : Int} {L : List E} (h : Good V X L) (hX : X ≤ 1000) (a : A) : Good V (stX X L a) (stL X L a) := by
  unfold stX stL
  split
  · exact h.addX hX _ _
  · split
    · exact h
    · split
      · exact h.set
      · split
        · exact h.rem _
        · exact h.left
theorem st_le (X : Int) (L : List E) (a : A) : stX X L a ≤ X + 1 := by
  unfold stX
  split
  · exact add_le X L _ _
  · omega
end Bv
/-- A mailbox, and the reference's in block z. -/
structure BxR (w0 w : World) (b z : Nat) (v r : Value) (V X : Int) (L : List Bv.E) : Prop where
  bs : BxS w0 w b v V X L
  rf : OwnB w 63 r L
  rb : RbAt w z V X r
  zl : w0.heap.size ≤ z
  good : Bv.Good V X L
theorem BxR.below {w0 w w' : World} {b z : Nat} {v r : Value} {V X : Int} {L : List Bv.E} (h : BxR w0 w b z v r V X L) (hb : Below w.heap.size w w') : BxR w0 w' b z v r V X L :=
  ⟨h.bs.below hb, h.rf.below hb, h.rb.below hb, h.zl, h.good⟩
/-- Behind a step of both, and the store of what the reference's returned. -/
theorem BxR.step {w0 w w' : World} {b z : Nat} {v v' r r' : Value} {V X X' : Int} {L L' : List Bv.E} (h : BxR w0 w b z v r V X L) (hi : IsB w' b v' V X' L') (ho : OwnB w' 63 r' L') (hk : BxTo w b v w' v') (hg : Bv.Good V X' L') :
    BxR w0 (((w'.setCell ⟨z, 0, none⟩ (.int .i64 V)).setCell ⟨z, 1, none⟩ (.int .i64 X')).setCell ⟨z, 2, none⟩ r') b z v' r' V X' L' := by
  have hr := rb_toR h.rb h.bs.is hk
  have hk6 := set3_kept (w := w') (B := z) (.int .i64 V) (.int .i64 X') r'
  have hs := h.bs.to hi hk
  exact ⟨⟨hi.setR hr hk6, hs.fb, hs.fv, hk6.below2 hs.bel h.zl⟩, ho.other hk6 (hr.nown ho), hr.set V X' r', h.zl, hg⟩
/-- The cells of an act. -/
theorem ActsX.get {w : World} {ao : Option Addr} {A : List Bv.A} (h : ActsX w ao A) (p : Nat) (hp : p < A.length) (k u m on off : Int) (hz : A.getD p Bv.A.z = (k, u, m, on, off)) : ∃ sb so, ao = some ⟨sb, so, none⟩ ∧
    w.cell? ⟨sb, so + p * 5, none⟩ = some (.int .i64 k) ∧ w.cell? ⟨sb, so + p * 5 + 1, none⟩ = some (.int .i64 u) ∧ w.cell? ⟨sb, so + p * 5 + 2, none⟩ = some (.int .i64 m) ∧ w.cell? ⟨sb, so + p * 5 + 3, none⟩ = some (.int .i64 on) ∧ w.cell? ⟨sb, so + p * 5 + 4, none⟩ = some (.int .i64 off) := by
  obtain ⟨sb, so, e, h0, h1, h2, h3, h4⟩ := h p hp
  rw [hz] at h0 h1 h2 h3 h4
  exact ⟨sb, so, e, h0, h1, h2, h3, h4⟩
end Go.Proofs.Ytlfjhpmachblkaa
