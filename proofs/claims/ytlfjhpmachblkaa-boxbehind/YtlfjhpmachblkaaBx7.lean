/-
  Layer 18: a mailbox of the call's own; the fixed fact that each law begins with.
-/
import Derived.Test.YtlfjhpmachblkaaBx6
import Derived.BigQuiet
namespace Go.Proofs.Ytlfjhpmachblkaa
open Go.ChangeShapes Go.WideShapes Go.ChangeAt Go.RowKit
open Go.Lib (hid)

/-- A mailbox that was made since w0. -/
structure BxS (w0 w : World) (b : Nat) (v : Value) (V X : Int) (L : List Bv.E) : Prop where
  is : IsB w b v V X L
  fb : w0.heap.size ≤ b
  fv : VFresh w0 v
  bel : Below w0.heap.size w0 w
section
variable {w0 w w' : World} {b : Nat} {v v' : Value} {V X X' : Int} {L L' : List Bv.E}
theorem BxS.to (h : BxS w0 w b v V X L) (hi : IsB w' b v' V X' L') (hk : BxTo w b v w' v') : BxS w0 w' b v' V X' L' :=
  ⟨hi, h.fb, h.fv.next hk.2 h.bel.size, h.bel.trans (hk.1.below (fun k hk => by rcases hk with rfl | hk; exact h.fb; exact h.fv k hk) h.bel.size)⟩
theorem BxS.below (h : BxS w0 w b v V X L) (hb : Below w.heap.size w w') : BxS w0 w' b v V X L := ⟨h.is.below hb, h.fb, h.fv, h.bel.trans (hb.mono h.bel.size)⟩
theorem BxS.exp (h : BxS w0 w b v V X L) (hi : IsB w' b v' V X' L') (hk : KeptQ (fun k => k = b) w w') (hf : VFresh w v') : BxS w0 w' b v' V X' L' :=
  ⟨hi, h.fb, fun k hk' => Nat.le_trans h.bel.size (hf k hk'), h.bel.trans (hk.below (fun k hk => by rw [hk]; exact h.fb) h.bel.size)⟩
/-- An entry that isn't the mailbox's. -/
structure EntK (w : World) (b : Nat) (v : Value) (z : Nat) (T : TypeId) (e : Bv.E) : Prop where
  at_ : EntAt w z T e
  nb : z ≠ b
  nv : some z ≠ v.ownBlock
theorem EntK.to {z : Nat} {T : TypeId} {e : Bv.E} (h : EntK w b v z T e) (hk : BxTo w b v w' v') : EntK w' b v' z T e := by
  have hl := h.at_.lt
  refine ⟨(hk.1.block z hl ?_).trans h.at_, h.nb, fun he => ?_⟩
  · rintro (hz | hz)
    · exact h.nb hz
    · exact h.nv hz
  · rcases hk.2 z he with h1 | h1
    · exact h.nv h1
    · omega
theorem EntK.below {z : Nat} {T : TypeId} {e : Bv.E} (h : EntK w b v z T e) (hb : Below w.heap.size w w') : EntK w' b v z T e := ⟨h.at_.below hb, h.nb, h.nv⟩
theorem EntK.exp {z : Nat} {T : TypeId} {e : Bv.E} (h : EntK w b v z T e) (hk : KeptQ (fun k => k = b) w w') (hf : VFresh w v') : EntK w' b v' z T e :=
  ⟨(hk.block z h.at_.lt h.nb).trans h.at_, h.nb, fun he => by have := hf z he; have := h.at_.lt; omega⟩
theorem EntK.new {T : TypeId} {e : Bv.E} (h : IsB w b v V X L) (hb : Below w.heap.size w w') (ht : EntAt w' w.heap.size T e) : EntK w' b v w.heap.size T e :=
  ⟨ht, by have := h.lt; omega, fun he => by have := h.own.lt he; omega⟩
end
set_option maxHeartbeats 4000000 in
set_option maxRecDepth 100000 in
theorem awake18_any (w : World) :
    Calls Try.prog 8 #[] w fun e w' => e = .returned (.bool true) ∧ Below w.heap.size w w' := by
  have HN := hid (fun wx => bnew_any 3 3 (by decide) wx)
  have H1 := hid (fun b v wx hx => badd_any b v 3 1 [] 7 0 wx hx (by simp) (by omega))
  rw [show Bv.addR 1 [] 7 0 = (1, 0, 7) from by decide, show Bv.addE [] 7 0 = 0 from by decide, show Bv.addX 1 [] 7 0 = 2 from by decide, show Bv.addL 1 [] 7 0 = [(1, 0, 7)] from by decide] at H1
  have H2 := hid (fun b v wx hx => set_any b v 3 2 [(1, 0, 7)] 1 8 0 wx hx (fun i j h1 h2 => by simp at h2; omega) (by simp))
  rw [show Bv.setR [(1, 0, 7)] 1 8 0 = (1, 8, 7) from by decide +kernel, show Bv.setE [(1, 0, 7)] 1 8 0 = 0 from by decide +kernel, show Bv.setL [(1, 0, 7)] 1 8 0 = [(1, 8, 7)] from by decide +kernel] at H2
  have H3 := hid (fun b v wx (hx : IsB wx b v 3 2 [(1, 8, 7)]) => expunge_any hx (by simp))
  rw [show Bv.left [(1, 8, 7)] = [] from by decide +kernel, show Bv.gone [(1, 8, 7)] = [(1, 8, 7)] from by decide +kernel] at H3
  go_enter Try.func8, Try.ntmps8
  go_wp2_with fail
  refine (HN.out _).mono ?_
  rintro e w1 ⟨rfl, hi1, hb1⟩
  have S1 := hid (show BxS w w1 w.heap.size _ 3 1 [] from ⟨hi1, Nat.le_refl _, VFresh.nil _, hb1⟩)
  clear hi1 hb1
  go_wp2_with fail
  refine (H1.out _ _ _ S1.out.is).mono ?_
  rintro e w2 ⟨v2, rfl, hi2, hk2⟩
  have S2 := hid (S1.out.to hi2 hk2)
  clear hi2 hk2 S1
  unfold beV
  go_upto_region 5 with (fail)
  generalize hww3 : World.alloc w2 _ = w3
  have hbw3 : Below (w2).heap.size w2 w3 := by rw [← hww3]; exact (Below.refl _ _).alloc (Nat.le_refl _) _
  have hnw3 : EntAt w3 (w2).heap.size 38 (1, 0, 7) := by rw [← hww3]; exact heap_alloc_new _ _
  have S3 := hid (S2.out.below hbw3)
  have T3 := hid (EntK.new S2.out.is hbw3 hnw3)
  clear hww3 hbw3 hnw3 S2
  generalize w2.heap.size = z1 at *
  go_wp2_with fail
  refine (H2.out _ _ _ S3.out.is).mono ?_
  rintro e w4 ⟨rfl, hi4, hk4⟩
  have S4 := hid (S3.out.to hi4 hk4)
  have T4 := hid (T3.out.to hk4)
  clear hi4 hk4 S3 T3
  unfold beV
  go_upto_region 6 with (fail)
  generalize hww5 : World.alloc w4 _ = w5
  have hbw5 : Below (w4).heap.size w4 w5 := by rw [← hww5]; exact (Below.refl _ _).alloc (Nat.le_refl _) _
  have hnw5 : EntAt w5 (w4).heap.size 38 (1, 8, 7) := by rw [← hww5]; exact heap_alloc_new _ _
  have S5 := hid (S4.out.below hbw5)
  have T5 := hid (T4.out.below hbw5)
  have U5 := hid (EntK.new S4.out.is hbw5 hnw5)
  clear hww5 hbw5 hnw5 S4 T4
  generalize w4.heap.size = z2 at *
  go_wp2_with fail
  refine (H3.out _ _ _ S5.out.is).mono ?_
  rintro e w6 ⟨vo, vl, rfl, hi6, ho6, hf6, hl6, hk6⟩
  have S6 := hid (S5.out.exp hi6 hk6 hl6)
  have T6 := hid (T5.out.exp hk6 hl6)
  have U6 := hid (U5.out.exp hk6 hl6)
  obtain ⟨ao, cap, rfl, hes⟩ := ho6.es
  obtain ⟨g, rfl, q0, q1, q2⟩ := hes 0 (by simp)
  simp only [Nat.zero_mul, Nat.zero_add, List.getD_cons_zero] at q0 q1 q2
  clear hi6 ho6 hf6 hl6 hk6 S5 T5 U5 hes
  obtain ⟨a0, a1, a2⟩ := T6.out.at_.c
  obtain ⟨b0, b1, b2⟩ := U6.out.at_.c
  dsimp only at a0 a1 a2 b0 b1 b2
  have HX := hid (fun n => bnext_any (w := w6.drewN n) (S6.out.is.below ⟨rfl, rfl, rfl, Nat.le_refl _, fun _ _ => rfl⟩))
  have HV := hid (fun n => bvalid_any (w := w6.drewN n) (S6.out.is.below ⟨rfl, rfl, rfl, Nat.le_refl _, fun _ _ => rfl⟩))
  go_upto_region 7 with (fail)
  go_quiet (first | (go_at_call 25; exact Calls.quiet_of_same (HX.out _)) | (go_at_call 26; exact Calls.quiet_of_same (HV.out _)))
  go_wp2
  go_ret
  exact ⟨rfl, S6.out.bel.trans ⟨rfl, rfl, rfl, Nat.le_refl _, fun _ _ => rfl⟩⟩

/-- A world for the witnesses: the settled one. -/
noncomputable def laidWorld (os : Os) : World := World.holding Try.prog os ⟨#[], #[], []⟩
end Go.Proofs.Ytlfjhpmachblkaa
