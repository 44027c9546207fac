/-
  Layer 8: awake.
-/
import Derived.Test.YtgjkkcggcljcdaaDoorSu5
import Derived.Test.YtgjkkcggcljcdaaDoorSuB
namespace Go.Proofs.YtgjkkcggcljcdaaDoor
open Go.ChangeShapes Go.WideShapes Go.ChangeAt Go.RowKit
open Go.Lib (hid)

theorem run_at8 (w : World) (x y : Int) : (Instr.build 33 #[(0, .int .i64 x), (1, .int .i64 y)]).run Tryd.prog w = .ok (.agg #[.int .i64 x, .int .i64 y]) w := run_build w _ _ _ (by kernel_rfl)
theorem IsR.kept {w w' : World} {b q : Nat} {page : List Nat} {p : Nat → Prop} (h : IsR w b q page) (hk : KeptP p w w') (h0 : ¬ p b) (h1 : ¬ p q) : IsR w' b q page := by
  obtain ⟨l, m, hq⟩ := h.keys
  exact ⟨(hk.block b (Array.getElem?_eq_some_iff.1 h.row).1 h0).trans h.row, l, m, (hk.block q (Array.getElem?_eq_some_iff.1 hq).1 h1).trans hq⟩
theorem IsR.ne {w : World} {b q b0 b1 b2 b3 : Nat} {page : List Nat} {v : Iv.V} (h : IsR w b q page) (hI : IsI w b0 b1 b2 b3 v) : b ≠ b0 ∧ b ≠ b1 ∧ q ≠ b0 ∧ q ≠ b1 := by
  obtain ⟨l, m, hq⟩ := h.keys
  refine ⟨?_, fun e => hI.m1.ne_cells h.row e.symm, ?_, fun e => hI.m1.ne_cells hq e.symm⟩
  · rintro rfl
    have := hI.row
    rw [h.row] at this
    injection this with e
    injection e with e _ _
    unfold suC at e
    simp at e
  · rintro rfl
    have := hI.row
    rw [hq] at this
    injection this with e
    injection e with _ e _
    exact absurd e (by decide)

set_option maxHeartbeats 2000000 in
set_option maxRecDepth 100000 in
theorem awake8_any (w : World) (hT : Tabs w ∧ TabK w ∧ TabQ w) : Calls Tryd.prog 6 #[] w fun e w' => e = .returned (.bool true) ∧ Below w.heap.size w w' := by
  have HT := hid hT
  have HID := hid (fun wx => ideal_any [97, 98] wx (by decide))
  rw [show Iv.tapeOf [97, 98] = [97, 98] from rfl, show str [97, 98] = ⟨#[97, 98]⟩ from rfl] at HID
  have HRE := hid (fun wx hx => real_any [107, 101, 121] (by decide) (by decide) wx hx)
  rw [show str [107, 101, 121] = ⟨#[107, 101, 121]⟩ from rfl] at HRE
  go_enter Tryd.func6, Tryd.ntmps6
  go_wp2_with fail
  refine (HID.out _).mono ?_
  rintro e w1 ⟨b, b1, b2, b3, rfl, h1, g0, g1, g2, g3, hb1⟩
  go_wp2_with fail
  refine (HRE.out w1 (HT.out.1.below hb1 (Nat.le_refl _))).mono ?_
  rintro e w2 ⟨r, q, page, rfl, hr2, hpl, hpb, hb2⟩
  have h2 := h1.below hb2
  have HB2 := hid (hb1.next (Nat.le_refl _) hb2)
  obtain ⟨n1, n2, n3, n4⟩ := hr2.ne h2
  have HSE := hid (seal_any b b1 b2 b3 ⟨[97, 98], 0, [], [], []⟩ (by decide) (by decide) (by decide) (by decide) 1 1 ⟨#[]⟩ ⟨#[]⟩ (by decide) w2 h2)
  rw [show str (Iv.take [97, 98] 0 ((⟨#[]⟩ : ByteArray).size + 16)) = ⟨#[97, 98, 97, 98, 97, 98, 97, 98, 97, 98, 97, 98, 97, 98, 97, 98]⟩ from by decide +kernel] at HSE
  have HR2 := hid hr2
  have hpb2 := hid hpb
  clear HID HRE hb1 hb2 h1 h2 hr2 hpb hT
  have hop : Iv.open_ (Mp.put [] (Iv.lim 1, Iv.lim 1) ((⟨#[]⟩ : ByteArray), (⟨#[]⟩ : ByteArray), (⟨#[97, 98, 97, 98, 97, 98, 97, 98, 97, 98, 97, 98, 97, 98, 97, 98]⟩ : ByteArray))) (Iv.lim 1, Iv.lim 1) ⟨#[]⟩ ⟨#[97, 98, 97, 98, 97, 98, 97, 98, 97, 98, 97, 98, 97, 98, 97, 98]⟩ = (⟨#[]⟩, true) := by
    unfold Iv.open_
    rw [Mp.get_put, if_pos rfl]
    simp
  generalize hv : ({ T := [97, 98], d := 0 + ((⟨#[]⟩ : ByteArray).size + 16), S := Mp.put [] (Iv.lim 1, Iv.lim 1) ((⟨#[]⟩ : ByteArray), (⟨#[]⟩ : ByteArray), (⟨#[97, 98, 97, 98, 97, 98, 97, 98, 97, 98, 97, 98, 97, 98, 97, 98]⟩ : ByteArray)), L := [], M := [] } : Iv.V) = v at HSE
  have hvS : v.S = Mp.put [] (Iv.lim 1, Iv.lim 1) ((⟨#[]⟩ : ByteArray), (⟨#[]⟩ : ByteArray), (⟨#[97, 98, 97, 98, 97, 98, 97, 98, 97, 98, 97, 98, 97, 98, 97, 98]⟩ : ByteArray)) := by rw [← hv]
  have hvd : v.d = 16 := by rw [← hv]; rfl
  rw [← hvS] at hop
  clear hv hvS
  have HOP := hid (fun wx hx => open_any b b1 b2 b3 v 1 1 ⟨#[]⟩ ⟨#[97, 98, 97, 98, 97, 98, 97, 98, 97, 98, 97, 98, 97, 98, 97, 98]⟩ wx hx)
  rw [hop] at HOP
  have HD := hid (fun wx hx => drawn_any b b1 b2 b3 v (by omega) wx hx)
  rw [hvd] at HD
  have HRS := hid (fun wx hx hy hz => rseal_any r q page hpl hpb2.out 1 2 [120] [112, 108, 97, 105, 110] (by decide) (by decide) (by decide) (by decide) wx hx hy hz)
  have HRO := hid (fun wx hx hy hz => ropen_any r q page hpl hpb2.out 1 2 [120] [112, 108, 97, 105, 110] (by decide) (by decide) (by decide) (by decide) wx hx hy hz)
  generalize str (Ax.sealed page (nonceL (Iv.lim 1, Iv.lim 2)) [120] [112, 108, 97, 105, 110]) = R at *
  rw [show str [120] = ⟨#[120]⟩ from rfl, show str [112, 108, 97, 105, 110] = ⟨#[112, 108, 97, 105, 110]⟩ from rfl] at HRS HRO
  have HRD := hid (fun wx hx => rdrawn_any r q page wx hx)
  clear hop hvd
  go_wp2_with fail
  refine HSE.out.mono ?_
  rintro e w3 ⟨rfl, h3, hk3⟩
  have hr3 := HR2.out.kept hk3 (by omega) (by omega)
  have hs2 := HB2.out.size
  have HB3 := hid (HB2.out.trans (hk3.below (B := w.heap.size) (fun k hk => by omega) HB2.out.size))
  clear hk3 HSE HR2 HB2
  go_wp2_with fail
  refine (HOP.out _ h3).mono ?_
  rintro e w4 ⟨rfl, hb4⟩
  have h4 := h3.below hb4
  have hr4 := hr3.below hb4
  have HB4 := hid (HB3.out.next (Nat.le_refl _) hb4)
  clear h3 hr3 hb4 HB3 HOP
  go_wp2_with fail
  refine (HRS.out w4 (HT.out.2.2.below HB4.out (Nat.le_refl _)) (HT.out.2.1.below HB4.out (Nat.le_refl _)) hr4).mono ?_
  rintro e w5 ⟨rfl, hb5⟩
  have h5 := h4.below hb5
  have hr5 := hr4.below hb5
  have HB5 := hid (HB4.out.next (Nat.le_refl _) hb5)
  clear h4 hr4 hb5 HB4 HRS
  go_wp2_with fail
  refine (HRO.out w5 (HT.out.2.2.below HB5.out (Nat.le_refl _)) (HT.out.2.1.below HB5.out (Nat.le_refl _)) hr5).mono ?_
  rintro e w6 ⟨rfl, hb6⟩
  have h6 := h5.below hb6
  have hr6 := hr5.below hb6
  have HB6 := hid (HB5.out.next (Nat.le_refl _) hb6)
  clear h5 hr5 hb6 HB5 HRO
  go_wp2_with fail
  refine (HD.out w6 h6).mono ?_
  rintro e w7 ⟨rfl, hw7⟩
  obtain rfl : w7 = w6 := hw7
  go_wp2_with fail
  refine (HRD.out _ hr6).mono ?_
  rintro e w8 ⟨rfl, hw8⟩
  obtain rfl : w8 = _ := hw8
  go_wp2_with fail
  go_ret
  exact ⟨rfl, HB6.out⟩
end Go.Proofs.YtgjkkcggcljcdaaDoor
