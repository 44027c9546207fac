/-
  Layer 7: what tree.clash and tree.Clash return.
-/
import Derived.Test.YtnhecallffkedabDoorBase
import Derived.Test.YtnhecallffkedabDoorTree12
namespace Go.Proofs.YtnhecallffkedabDoor
open Go.RowKit
open Go.Lib (hid)

namespace Tx
/-- The texts of a way are of bytes, and not too long. -/
theorem wt_good (i : Nat) (t : List Nat) (l : List (List Nat)) (ht : ∀ x ∈ t, x < 256) (htl : t.length ≤ 10000000) (hl : ∀ f ∈ l, f.length = 32) (hlb : ∀ f ∈ l, ∀ x ∈ f, x < 256) : ∀ k, k ≤ l.length → (∀ x ∈ wt i t l k, x < 256) ∧ (wt i t l k).length ≤ 10000100 := by
  intro k hk
  cases k with
  | zero => exact ⟨leaf_lt t ht, by simp only [wt, leaf, List.length_cons]; omega⟩
  | succ k =>
    have hm : l.getD k [] ∈ l := by rw [List.getD_eq_getElem?_getD, List.getElem?_eq_getElem (show k < l.length by omega)]; exact List.getElem_mem _
    have h1 := hl _ hm
    have h2 := hlb _ hm
    have h3 := digest_length (wt i t l k)
    have h4 := digest_lt (wt i t l k)
    simp only [wt]
    split
    · exact ⟨node_lt _ _ h2 h4, by simp only [node, List.length_cons, List.length_append]; omega⟩
    · exact ⟨node_lt _ _ h4 h2, by simp only [node, List.length_cons, List.length_append]; omega⟩
theorem wayN_good (i : Nat) (t : List Nat) (l : List (List Nat)) (ht : ∀ x ∈ t, x < 256) (htl : t.length ≤ 10000000) (hl : ∀ f ∈ l, f.length = 32) (hlb : ∀ f ∈ l, ∀ x ∈ f, x < 256) : ∀ x ∈ wayN i t l l.length, (∀ y ∈ x, y < 256) ∧ x.length ≤ 10000100 := by
  intro x hx
  obtain ⟨k, hk, rfl⟩ := List.mem_iff_getElem.1 hx
  have hk' := hk
  rw [wayN_length] at hk'
  have := wayN_getD i t l l.length k (by omega)
  rw [List.getD_eq_getElem?_getD, List.getElem?_eq_getElem hk, Option.getD_some] at this
  rw [this]
  exact wt_good i t l ht htl hl hlb k (by omega)
/-- What Clash tells. -/
def Clashed (i : Int) (a : List Nat) (la : List (List Nat)) (b : List Nat) (lb : List (List Nat)) (x y : List Nat) (is : Bool) : Prop :=
  (is = true ∧ a ≠ b ∧ x ≠ y ∧ Sx.digest x = Sx.digest y ∧ ((∀ z ∈ x, z < 256) ∧ x.length ≤ 10000100) ∧ ((∀ z ∈ y, z < 256) ∧ y.length ≤ 10000100)) ∨
  (is = false ∧ x = [] ∧ y = [] ∧ (la.length = lb.length → isPos i la.length = true → top i.toNat a la = top i.toNat b lb → a = b))
def ClashedE (i : Int) (a : List Nat) (la : List (List Nat)) (b : List Nat) (lb : List (List Nat)) (e : Ending) : Prop := ∃ x y is, e = .returned (.tuple #[.string (str x), .string (str y), .bool is]) ∧ Clashed i a la b lb x y is
end Tx
theorem neq_sums (w : World) (l r : List Nat) (hl : ∀ x ∈ l, x < 256) (hr : ∀ x ∈ r, x < 256) (l32 : l.length = 32) (r32 : r.length = 32) :
    (Op.equalIn 10000 27 (.agg (ints .u8 l)) (.agg (ints .u8 r))).run Tryd.prog w = .ok (l == r) w := by
  rw [ints_cell l hl, ints_cell r hr, run_equalIn_bytes w 9998 27 5 32 Tryd.underlying27 Tryd.underlying5 (fun w => by kernel_rfl) _ _ (by simpa using l32) (by simpa using r32), map_u8_inj l r hl hr]

set_option maxHeartbeats 2000000 in
set_option maxRecDepth 100000 in
theorem clash_any (i : Int) (a b : List Nat) (ha : ∀ x ∈ a, x < 256) (hb : ∀ x ∈ b, x < 256) (hal : a.length ≤ 10000000) (hbl : b.length ≤ 10000000) (la lb : List (List Nat)) (hla : ∀ f ∈ la, f.length = 32) (hlab : ∀ f ∈ la, ∀ x ∈ f, x < 256) (hlb : ∀ f ∈ lb, f.length = 32) (hlbb : ∀ f ∈ lb, ∀ x ∈ f, x < 256) (hll : la.length ≤ 1000) (hlm : lb.length ≤ 1000)
    (ao bo : Option Addr) (ca cb : Nat) (w : World) (hT : Tabs w) (hA : Sums w (.slice ao la.length ca) la) (hB : Sums w (.slice bo lb.length cb) lb) :
    Calls Tryd.prog 30 #[.func (.func 7) #[] #[], .int .i64 i, .string (str a), .slice ao la.length ca, .string (str b), .slice bo lb.length cb] w
      fun e w' => Tx.ClashedE i a la b lb e ∧ Below w.heap.size w w' := by
  have hbq : ((str a).toList == (str b).toList) = (a == b) := str_beq a b ha hb
  have HIP := hid (fun wx => isPos_any i la.length (by omega) wx)
  by_cases hab : a = b
  · rw [show (a == b) = true from by rw [hab]; exact beq_self_eq_true _] at hbq
    have HE := hid hab
    clear hab ha hb hla hlab hlb hlbb hT hA hB hal hbl
    generalize str a = SA at *
    generalize str b = SB at *
    go_enter Tryd.func30, Tryd.ntmps30
    go_wp2
    refine bodyPost_ret (results_tmp3 Tryd.results30 _ _ _) rfl ?_
    exact ⟨⟨[], [], false, rfl, Or.inr ⟨rfl, rfl, rfl, fun _ _ _ => HE.out⟩⟩, Below.refl _ _⟩
  · rw [show (a == b) = false from by simpa using hab] at hbq
    by_cases hlen : la.length = lb.length
    · by_cases hp : Tx.isPos i la.length = true
      · rw [hp] at HIP
        have h0 : 0 ≤ i ∧ i < ((2 ^ la.length : Nat) : Int) ∧ la.length ≤ 16 := by
          simp only [Tx.isPos, Bool.and_eq_true, decide_eq_true_eq] at hp
          exact ⟨hp.1.2, hp.2, hp.1.1⟩
        obtain ⟨n, rfl⟩ : ∃ n : Nat, i = (n : Int) := ⟨i.toNat, by omega⟩
        have hn : n < 65536 := by
          have : 2 ^ la.length ≤ 2 ^ 16 := Nat.pow_le_pow_right (by decide) h0.2.2
          omega
        have HRA := hid (fun wx hx hy => rise_any n hn a ha hal la hla hlab hll (.slice ao la.length ca) wx hx hy)
        have HRB := hid (fun wx hx hy => rise_any n hn b hb hbl lb hlb hlbb hlm (.slice bo lb.length cb) wx hx hy)
        have hwa := Tx.wayN_length n a la la.length
        have hwb := Tx.wayN_length n b lb lb.length
        have HTA := hid (fun v wx hx => wroot_any v (Tx.wayN n a la la.length) (by omega) (by omega) wx hx)
        rw [show (Tx.wayN n a la la.length).length - 1 = la.length from by omega, show Sx.digest ((Tx.wayN n a la la.length).getD la.length []) = Tx.top n a la from rfl] at HTA
        have HTB := hid (fun v wx hx => wroot_any v (Tx.wayN n b lb lb.length) (by omega) (by omega) wx hx)
        rw [show (Tx.wayN n b lb lb.length).length - 1 = lb.length from by omega, show Sx.digest ((Tx.wayN n b lb lb.length).getD lb.length []) = Tx.top n b lb from rfl] at HTB
        have HGA := hid (Tx.wayN_good n a la ha hal hla hlab)
        have HGB := hid (Tx.wayN_good n b lb hb hbl hlb hlbb)
        have HME := hid (fun va vb wx hx hy => meeting_any va vb (Tx.wayN n a la la.length) (Tx.wayN n b lb lb.length) (by rw [hwa, hwb, hlen]) (by rw [hwa]; omega) (fun t ht => (HGA.out t ht).1) (fun t ht => (HGB.out t ht).1) wx hx hy)
        have HMT := hid (fun (hno : ∀ k, k < (Tx.wayN n a la la.length).length → Sx.digest ((Tx.wayN n a la la.length).getD k []) = Sx.digest ((Tx.wayN n b lb lb.length).getD k []) → (Tx.wayN n a la la.length).getD k [] = (Tx.wayN n b lb lb.length).getD k []) (ht : Tx.top n a la = Tx.top n b lb) => (show a = b from by
          refine Tx.meets n a b la lb la.length hla hlb rfl hlen.symm ?_ ?_
          · intro k hk
            have := hno k (by rw [hwa]; omega)
            rwa [Tx.wayN_getD _ _ _ _ _ hk, Tx.wayN_getD _ _ _ _ _ (by omega)] at this
          · rw [Tx.top_eq, Tx.top_eq, ← hlen] at ht; exact ht))
        have heq := fun wx => neq_sums wx (Tx.top n a la) (Tx.top n b lb) (Tx.top_lt _ _ _) (Tx.top_lt _ _ _) (Tx.top_length _ _ _) (Tx.top_length _ _ _)
        have HT := hid hT
        have HA := hid hA
        have HB := hid hB
        have HAB := hid hab
        rw [← hlen]
        rw [← hlen] at HRB HTB HGB HME HMT HB
        clear ha hb hla hlab hlb hlbb hT hA hB hab hal hbl h0 hp hwa hwb hlen hlm
        generalize str a = SA at *
        generalize str b = SB at *
        go_enter Tryd.func30, Tryd.ntmps30
        go_wp2_with fail
        refine (HIP.out _).mono ?_
        rintro e w1 ⟨rfl, hw1⟩
        rw [hw1]
        clear hw1 w1
        go_wp2_with fail
        refine (HRA.out _ HT.out HA.out).mono ?_
        rintro e w2 ⟨v2, rfl, ho2, hb2⟩
        have HO2 := hid ho2
        have HB2 := hid hb2
        clear ho2 hb2
        go_wp2_with fail
        refine (HRB.out _ (HT.out.below HB2.out (Nat.le_refl _)) (HB.out.below HB2.out)).mono ?_
        rintro e w3 ⟨v3, rfl, ho3, hb3⟩
        have HO3 := hid ho3
        have HO2' := hid (HO2.out.below hb3)
        have HB3 := hid (HB2.out.trans (hb3.mono HB2.out.size))
        clear ho3 hb3 HO2 HB2
        go_wp2_with fail
        refine (HTA.out _ _ HO2'.out.ways).mono ?_
        rintro e w4 ⟨rfl, hb4⟩
        have HO4 := hid (HO2'.out.below hb4)
        have HP4 := hid (HO3.out.below hb4)
        have HB4 := hid (HB3.out.trans (hb4.mono HB3.out.size))
        clear hb4 HO2' HO3 HB3
        go_wp2_with fail
        refine (HTB.out _ _ HP4.out.ways).mono ?_
        rintro e w5 ⟨rfl, hb5⟩
        have HO5 := hid (HO4.out.below hb5)
        have HP5 := hid (HP4.out.below hb5)
        have HB5 := hid (HB4.out.trans (hb5.mono HB4.out.size))
        clear hb5 HO4 HP4 HB4 HTA HTB HRA HRB
        by_cases htop : Tx.top n a la = Tx.top n b lb
        · rw [show (Tx.top n a la == Tx.top n b lb) = true from by rw [htop]; exact beq_self_eq_true _] at heq
          have HTOP := hid htop
          clear htop
          generalize Tx.top n a la = TA at *
          generalize Tx.top n b lb = TB at *
          go_wp2_with fail
          refine (HME.out _ _ _ HO5.out.ways HP5.out.ways).mono ?_
          rintro e w6 ⟨⟨x, y, is, rfl, hm⟩, hb6⟩
          have HM := hid hm
          have HB6 := hid (HB5.out.trans (hb6.mono HB5.out.size))
          clear hm hb6
          obtain ⟨SX, hSX⟩ : ∃ S, S = str x := ⟨_, rfl⟩
          obtain ⟨SY, hSY⟩ : ∃ S, S = str y := ⟨_, rfl⟩
          rw [← hSX, ← hSY]
          have HSX := hid hSX
          have HSY := hid hSY
          clear hSX hSY
          go_wp2
          refine bodyPost_ret (results_tmp3 Tryd.results30 _ _ _) rfl ?_
          refine ⟨⟨x, y, is, by rw [← HSX.out, ← HSY.out]; rfl, ?_⟩, HB6.out⟩
          rcases HM.out with ⟨h1, h2, h3, h4, h5⟩ | ⟨h1, h2, h3, h4⟩
          · exact Or.inl ⟨h1, HAB.out, h2, h3, HGA.out _ h4, HGB.out _ h5⟩
          · exact Or.inr ⟨h1, h2, h3, fun _ _ _ => HMT.out h4 HTOP.out⟩
        · rw [show (Tx.top n a la == Tx.top n b lb) = false from by simpa using htop] at heq
          have HTOP := hid htop
          clear htop
          generalize hTA : Tx.top n a la = TA at *
          generalize hTB : Tx.top n b lb = TB at *
          have H1 := hid hTA
          have H2 := hid hTB
          clear hTA hTB
          go_wp2_with fail
          refine bodyPost_ret (results_tmp3 Tryd.results30 _ _ _) rfl ?_
          exact ⟨⟨[], [], false, rfl, Or.inr ⟨rfl, rfl, rfl, fun _ _ h => absurd h (by rw [Int.toNat_natCast, H1.out, H2.out]; exact HTOP.out)⟩⟩, HB5.out⟩
      · have hp' : Tx.isPos i la.length = false := by simpa using hp
        rw [hp'] at HIP
        have HP := hid hp
        rw [← hlen]
        clear hab ha hb hla hlab hlb hlbb hT hA hB hal hbl hp hp' hlen hlm
        generalize str a = SA at *
        generalize str b = SB at *
        go_enter Tryd.func30, Tryd.ntmps30
        go_wp2_with fail
        refine (HIP.out _).mono ?_
        rintro e w1 ⟨rfl, hw1⟩
        rw [hw1]
        clear hw1 w1
        go_wp2_with fail
        refine bodyPost_ret (results_tmp3 Tryd.results30 _ _ _) rfl ?_
        exact ⟨⟨[], [], false, rfl, Or.inr ⟨rfl, rfl, rfl, fun _ h _ => absurd h HP.out⟩⟩, Below.refl _ _⟩
    · have hli : ¬ (la.length : Int) = lb.length := by omega
      have HLEN := hid hlen
      clear hab ha hb hla hlab hlb hlbb hT hA hB hal hbl hlen
      generalize str a = SA at *
      generalize str b = SB at *
      go_enter Tryd.func30, Tryd.ntmps30
      go_wp2
      refine bodyPost_ret (results_tmp3 Tryd.results30 _ _ _) rfl ?_
      exact ⟨⟨[], [], false, rfl, Or.inr ⟨rfl, rfl, rfl, fun h _ _ => absurd h HLEN.out⟩⟩, Below.refl _ _⟩

set_option maxRecDepth 100000 in
set_option maxHeartbeats 1000000 in
theorem clashX_any (i : Int) (a b : List Nat) (ha : ∀ x ∈ a, x < 256) (hb : ∀ x ∈ b, x < 256) (hal : a.length ≤ 10000000) (hbl : b.length ≤ 10000000) (la lb : List (List Nat)) (hla : ∀ f ∈ la, f.length = 32) (hlab : ∀ f ∈ la, ∀ x ∈ f, x < 256) (hlb : ∀ f ∈ lb, f.length = 32) (hlbb : ∀ f ∈ lb, ∀ x ∈ f, x < 256) (hll : la.length ≤ 1000) (hlm : lb.length ≤ 1000)
    (ao bo : Option Addr) (ca cb : Nat) (w : World) (hT : Tabs w) (hA : Sums w (.slice ao la.length ca) la) (hB : Sums w (.slice bo lb.length cb) lb) :
    Calls Tryd.prog 13 #[.int .i64 i, .string (str a), .slice ao la.length ca, .string (str b), .slice bo lb.length cb] w
      fun e w' => Tx.ClashedE i a la b lb e ∧ Below w.heap.size w w' := by
  have HC := hid (clash_any i a b ha hb hal hbl la lb hla hlab hlb hlbb hll hlm ao bo ca cb w hT hA hB)
  clear ha hb hal hbl hla hlab hlb hlbb hT hA hB
  generalize str a = SA at *
  generalize str b = SB at *
  go_enter Tryd.func13, Tryd.ntmps13
  go_wp2_with fail
  refine HC.out.mono ?_
  rintro e w6 ⟨⟨x, y, is, rfl, hm⟩, hb6⟩
  have HM := hid hm
  have HB6 := hid hb6
  clear hm hb6
  obtain ⟨SX, hSX⟩ : ∃ S, S = str x := ⟨_, rfl⟩
  obtain ⟨SY, hSY⟩ : ∃ S, S = str y := ⟨_, rfl⟩
  rw [← hSX, ← hSY]
  have HSX := hid hSX
  have HSY := hid hSY
  clear hSX hSY
  go_wp2
  refine bodyPost_ret (results_tmp3 Tryd.results13 _ _ _) rfl ?_
  exact ⟨⟨x, y, is, by rw [← HSX.out, ← HSY.out]; rfl, HM.out⟩, HB6.out⟩
end Go.Proofs.YtnhecallffkedabDoor
