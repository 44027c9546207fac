/-
  Layer 9: Read.
-/
import Derived.Test.YtkhkpcigjpibiaaDk10
import Derived.Sort.CutIn
namespace Go.Proofs.Ytkhkpcigjpibiaa
open Go.ChangeShapes Go.WideShapes Go.ChangeAt Go.RowKit Go.Shelf
open Go.Conc
open Go.Lib (hid)

attribute [local go_sem] Oper.semAt_some

namespace Dv
/-- What was written last. -/
def last (p : Nat) (s : ByteArray) (q : O) : ByteArray := if q.2.1 = p then q.2.2 else s
def read (D : Dv.D) (p : Int) : ByteArray × Nat := if Dv.refuses D p ≠ 0 then (⟨#[]⟩, Dv.refuses D p) else (D.Q.foldl (last p.toNat) (D.P.getD p.toNat ByteArray.empty), 0)
def look (p : Nat) (s : Dv.D × ByteArray) (q : O) : Dv.D × ByteArray := ({ s.1 with Q := s.1.Q.tail ++ [q] }, last p s.2 q)
theorem look_snd (p : Nat) : ∀ (l : List O) (s : Dv.D × ByteArray), (l.foldl (look p) s).2 = l.foldl (last p) s.2
  | [], _ => rfl
  | q :: l, s => by rw [List.foldl_cons, List.foldl_cons, look_snd p l]; rfl
end Dv
section
variable {d gs c : Nat} {vv : Value} {D : Dv.D}
set_option maxHeartbeats 1000000 in
set_option maxRecDepth 100000 in
theorem read_any (p : Int) (w : World) (h : IsD w d gs c vv D) :
    Calls Try.prog 23 #[.pointer (some ⟨d, 0, none⟩), .int .i64 p] w fun e w' => e = .returned (.tuple #[.string (Dv.read D p).1, .int .i64 ((Dv.read D p).2 : Int)]) ∧ IsD w' d gs c vv D ∧ KeptQ (fun k => k = c) w w' := by
  refine (callsIn_wide (n := 9)).1 ?_
  refine callsIn_of_wp_marks Try.func23 rfl trivial ?_ rfl
  simp only [Try.ntmps23, List.size_toArray, List.length_cons, List.length_nil, Nat.reduceAdd, Nat.reduceSub, Array.replicate_succ, Array.replicate_zero, List.push_toArray, List.append_toArray, List.nil_append, List.cons_append]
  have hmf := run_mkF' Try.prog
  have HH := hid h
  have hb1 : Below w.heap.size w (w.alloc (.cells #[.int .i64 p] 3)) := (Below.refl _ _).alloc (Nat.le_refl _) _
  have hbx := heap_alloc_new w (.cells #[.int .i64 p] 3)
  have h1 := HH.out.below hb1
  have e0 : (w.alloc (.cells #[.int .i64 p] 3)).cell? ⟨w.heap.size, 0, none⟩ = some (.int .i64 p) := by rw [cell_of_row _ _ _ _ _ _ hbx]; rfl
  have href := refuses_any p h1
  have HB1 := hid hb1
  have HBX := hid hbx
  have H1 := hid h1
  clear h h1 hb1 hbx
  by_cases h0 : Dv.refuses D p = 0
  · have hp : 0 ≤ p ∧ p < D.P.length := by
      unfold Dv.refuses at h0
      split at h0
      · cases h0
      · split at h0
        · assumption
        · cases h0
    obtain ⟨n, rfl⟩ : ∃ n : Nat, p = n := ⟨p.toNat, by omega⟩
    have hrd : Dv.read D n = (D.Q.foldl (Dv.last n) (D.P.getD n ByteArray.empty), 0) := by
      unfold Dv.read
      rw [if_neg (by simp [h0]), Int.toNat_natCast]
    rw [h0] at href
    gi_wp2
    refine ⟨by first | trivial | decide | simp [Fence.wide], (callsIn_wide.2 href).mono ?_⟩
    rintro e w1 ⟨rfl, hw1⟩
    subst hw1
    gi_upto_region 4 with (fail)
    generalize hw1 : w.alloc (.cells #[.int .i64 (n : Int)] 3) = w1 at *
    have hsz1 : w1.heap.size = w.heap.size + 1 := by rw [← hw1, World.size_alloc]
    clear hw1 e0 href
    have hpn := hp.2
    have hS1 : (fun W : World => W.heap[d]? = some (.cells (dkC gs c vv D) 65 (0, 0)) ∧ TRow W gs D.P ∧ W.heap[w.heap.size]? = some (.cells #[.int .i64 (n : Int)] 3 (0, 0))) w1.drew := ⟨H1.out.row, H1.out.st.at rfl, HBX.out⟩
    refine wpIn_wide.2 ?_
    refine wp_region_noPanic ?_
    refine wp_region_L 8 (fun W : World => W.heap[d]? = some (.cells (dkC gs c vv D) 65 (0, 0)) ∧ TRow W gs D.P ∧ W.heap[w.heap.size]? = some (.cells #[.int .i64 (n : Int)] 3 (0, 0))) (by kernel_rfl) 9 rfl (fun hcl0 => ?_)
    refine wpAnyL_take (i := 0) (oi := ?oi2) (v := .pointer (some ⟨d, 0, none⟩)) ?hi2 (by kernel_rfl) (by kernel_rfl) (by kernel_rfl) (by kernel_rfl) hcl0 (fun _ _ _ h => h) ?hy2 hS1 (fun hcl1 => ?_)
    case hi2 => simp only [List.getElem?_toArray, List.getElem?_cons_zero]; rfl
    case hy2 => exact Or.inl ⟨rfl, fun _ hSw => rfl⟩
    simp only [Act.put, List.setIfInBounds_toArray, List.set_cons_zero, List.set_cons_succ]
    refine wpAnyL_take (i := 1) (oi := ?oi3) (v := .pointer (some ⟨d, 0, none⟩)) ?hi3 (by kernel_rfl) (by kernel_rfl) (by kernel_rfl) (by kernel_rfl) hcl1 (fun _ _ _ h => h) ?hy3 hS1 (fun hcl2 => ?_)
    case hi3 => simp only [List.getElem?_toArray, List.getElem?_cons_succ, List.getElem?_cons_zero]; rfl
    case hy3 => exact Or.inl ⟨rfl, fun _ hSw => by go_simp⟩
    simp only [Act.put, List.setIfInBounds_toArray, List.set_cons_zero, List.set_cons_succ]
    refine wpAnyL_take (i := 2) (oi := ?oi4) (v := .pointer (some ⟨d, 0, none⟩)) ?hi4 (by kernel_rfl) (by kernel_rfl) (by kernel_rfl) (by kernel_rfl) hcl2 (fun _ _ _ h => h) ?hy4 hS1 (fun hcl3 => ?_)
    case hi4 => simp only [List.getElem?_toArray, List.getElem?_cons_succ, List.getElem?_cons_zero]; rfl
    case hy4 => exact Or.inl ⟨rfl, fun _ hSw => by go_simp⟩
    simp only [Act.put, List.setIfInBounds_toArray, List.set_cons_zero, List.set_cons_succ]
    refine wpAnyL_take (i := 3) (oi := ?oi5) (v := .slice (some ⟨gs, 0, none⟩) D.P.length D.pc) ?hi5 (by kernel_rfl) (by kernel_rfl) (by kernel_rfl) (by kernel_rfl) hcl3 (fun _ _ _ h => h) ?hy5 hS1 (fun hcl4 => ?_)
    case hi5 => simp only [List.getElem?_toArray, List.getElem?_cons_succ, List.getElem?_cons_zero]; rfl
    case hy5 => exact Or.inl ⟨rfl, fun _ hSw => by have hc := (dkC_cells hSw.1).1; go_simp⟩
    simp only [Act.put, List.setIfInBounds_toArray, List.set_cons_zero, List.set_cons_succ]
    refine wpAnyL_take (i := 4) (oi := ?oi6) (v := .int .i64 (n : Int)) ?hi6 (by kernel_rfl) (by kernel_rfl) (by kernel_rfl) (by kernel_rfl) hcl4 (fun _ _ _ h => h) ?hy6 hS1 (fun hcl5 => ?_)
    case hi6 => simp only [List.getElem?_toArray, List.getElem?_cons_succ, List.getElem?_cons_zero]; rfl
    case hy6 => exact Or.inl ⟨rfl, fun _ hSw => by have hc := range_row hSw.2.2 0 (.int .i64 (n : Int)) rfl; go_simp⟩
    simp only [Act.put, List.setIfInBounds_toArray, List.set_cons_zero, List.set_cons_succ]
    refine wpAnyL_take (i := 5) (oi := ?oi7) (v := .pointer (some ⟨gs, n, none⟩)) ?hi7 (by kernel_rfl) (by kernel_rfl) (by kernel_rfl) (by kernel_rfl) hcl5 (fun _ _ _ h => h) ?hy7 hS1 (fun hcl6 => ?_)
    case hi7 => simp only [List.getElem?_toArray, List.getElem?_cons_succ, List.getElem?_cons_zero]; rfl
    case hy7 => exact Or.inl ⟨rfl, fun _ hSw => by go_simp⟩
    simp only [Act.put, List.setIfInBounds_toArray, List.set_cons_zero, List.set_cons_succ]
    refine wpAnyL_take (i := 6) (oi := ?oi8) (v := .string (D.P.getD n ByteArray.empty)) ?hi8 (by kernel_rfl) (by kernel_rfl) (by kernel_rfl) (by kernel_rfl) hcl6 (fun _ _ _ h => h) ?hy8 hS1 (fun hcl7 => ?_)
    case hi8 => simp only [List.getElem?_toArray, List.getElem?_cons_succ, List.getElem?_cons_zero]; rfl
    case hy8 => exact Or.inl ⟨rfl, fun _ hSw => by have hc := hSw.2.1.cell n (by omega); go_simp⟩
    simp only [Act.put, List.setIfInBounds_toArray, List.set_cons_zero, List.set_cons_succ]
    clear hcl0 hcl1 hcl2 hcl3 hcl4 hcl5 hcl6 hcl7
    refine wpAnyL_one (i := 7) (o := ?oi9) (by kernel_rfl) ?hi9 ?hw9 ?step9
    case hi9 => simp only [List.getElem?_toArray, List.getElem?_cons_succ, List.getElem?_cons_zero]; rfl
    case hw9 => rfl
    intro K hK
    go_simp
    have hb6 : Below w1.heap.size w1 (w1.alloc (.cells #[.string ⟨#[]⟩] 9)).drew := ((Below.refl _ w1).alloc (Nat.le_refl _) _).drew
    have hn6 : (w1.alloc (.cells #[.string ⟨#[]⟩] 9)).drew.heap[w1.heap.size]? = some (.cells #[.string ⟨#[]⟩] 9 (0, 0)) := heap_alloc_new w1 (.cells #[.string ⟨#[]⟩] 9)
    have hsz6 : (w1.alloc (.cells #[.string ⟨#[]⟩] 9)).drew.heap.size = w.heap.size + 2 := by show (w1.alloc (.cells #[.string ⟨#[]⟩] 9)).heap.size = _; rw [World.size_alloc, hsz1]
    generalize (w1.alloc (.cells #[.string ⟨#[]⟩] 9)).drew = w6 at *
    rw [hsz1] at hn6
    have H6 := hid (H1.out.below hb6)
    have hx6 := (hb6.block _ (Array.getElem?_eq_some_iff.1 HBX.out).1).trans HBX.out
    have HX6 := hid hx6
    refine hK.out _ _ (fun _ => ⟨H6.out.row, H6.out.st, HX6.out⟩) ?_
    clear hK K hS1 hx6
    try simp only [Act.put, List.setIfInBounds_toArray, List.set_cons_zero, List.set_cons_succ]
    refine wpAnyL_one (i := 8) (o := ?oi10) (by kernel_rfl) ?hi10 ?hw10 ?step10
    case hi10 => simp only [List.getElem?_toArray, List.getElem?_cons_succ, List.getElem?_cons_zero]; rfl
    case hw10 => rfl
    intro K hK
    have hfz := frozen_of_row w6 (w.heap.size + 1) 0 _ _ hn6
    have hcz : w6.cell? ⟨w.heap.size + 1, 0, none⟩ = some (.string ⟨#[]⟩) := by rw [cell_of_row _ _ _ _ _ _ hn6]; rfl
    go_simp
    refine hK.out _ _ (fun h => absurd rfl h) ?_
    clear hK K
    try simp only [Act.put, List.setIfInBounds_toArray, List.set_cons_zero, List.set_cons_succ]
    refine wpAnyL_done (by kernel_rfl) ?_ _
    refine NoPanic.normal ?_
    generalize hS0 : D.P.getD n ByteArray.empty = S0 at *
    rw [show D.P[n]?.getD ByteArray.empty = S0 from by rw [← hS0, List.getD_eq_getElem?_getD]]
    have hB2 : Below w.heap.size w6 (w6.setCell ⟨w.heap.size + 1, 0, none⟩ (.string S0)) := by
      have hk : KeptQ (fun k => k = w.heap.size + 1) w6 (w6.setCell ⟨w.heap.size + 1, 0, none⟩ (.string S0)) := KeptQ.setCell _ _ _ rfl
      exact hk.below (fun k hk => by omega) (by omega)
    have hdt2 : (w6.setCell ⟨w.heap.size + 1, 0, none⟩ (.string S0)).heap[w.heap.size + 1]? = some (.cells #[.string S0] 9 (0, 0)) := by
      rw [heap_setCell_same _ _ 0 _ _ _ hn6]; rfl
    have hbx2 : (w6.setCell ⟨w.heap.size + 1, 0, none⟩ (.string S0)).heap[w.heap.size]? = some (.cells #[.int .i64 (n : Int)] 3 (0, 0)) := by
      rw [heap_setCell_other _ ⟨w.heap.size + 1, 0, none⟩ _ _ (by simp)]; exact HX6.out
    have hsz2 : (w6.setCell ⟨w.heap.size + 1, 0, none⟩ (.string S0)).heap.size = w.heap.size + 2 := by simpa [World.setCell] using hsz6
    generalize w6.setCell ⟨w.heap.size + 1, 0, none⟩ (.string S0) = w2 at *
    have hB : Below w.heap.size w w2 := by
      have h6 : Below w.heap.size w w6 := ⟨hb6.os.trans HB1.out.os, hb6.tape.trans HB1.out.tape, hb6.output.trans HB1.out.output, by omega, fun k hk => (hb6.block k (by omega)).trans (HB1.out.block k hk)⟩
      exact ⟨hB2.os.trans h6.os, hB2.tape.trans h6.tape, hB2.output.trans h6.output, by omega, fun k hk => (hB2.block k hk).trans (h6.block k hk)⟩
    have HD2 := hid (HH.out.below hB)
    have HB2 := hid hB
    have HBX2 := hid hbx2
    have HDT2 := hid hdt2
    have hdl := HH.out.ltd
    have hgl := HH.out.st.lt
    have hcw := HH.out.ltc
    have hcl : c < w2.heap.size := by omega
    clear hb6 hn6 hsz6 hfz hcz hB2 hdt2 hbx2 hB H6 HX6 H1 HB1 HBX hsz1 hp
    gi_wp2
    have hs1 : (D.Q.foldl (Dv.look n) (D, S0)).1 = D := by
      have := rot_all Prod.fst (Dv.look n) (fun s q r hq => by simp only [Dv.look]; rw [hq]; rfl) D.Q (D, S0) [] (by simp)
      rw [this]
      rfl
    have hcel : ∀ {W W' : World} {k : Nat} {o : Obj}, W.heap[k]? = some o → KeptQ (fun k => k = c) W W' → k ≠ c → W'.heap[k]? = some o := fun h hk hne => (hk.block _ (Array.getElem?_eq_some_iff.1 h).1 hne).trans h
    refine wp_rangeAll (by decide) rfl (enters_of Try.func46 (by kernel_rfl) rfl) opV
      (fun (s : Dv.D × ByteArray) W => IsD W d gs c vv s.1 ∧ KeptQ (fun k => k = c) w W ∧ w2.heap.size ≤ W.heap.size ∧ W.heap[w.heap.size]? = some (.cells #[.int .i64 (n : Int)] 3 (0, 0)) ∧ W.heap[w.heap.size + 1]? = some (.cells #[.string s.2] 9 (0, 0)))
      (Dv.look n) (D, S0) (D.Q.foldl (Dv.look n) (D, S0))
      (fun s q W => ∃ r, s.1.Q = q :: r ∧ IsD W d gs c vv { s.1 with Q := r ++ [q] } ∧ KeptQ (fun k => k = c) w W ∧ w2.heap.size ≤ W.heap.size ∧ W.heap[w.heap.size]? = some (.cells #[.int .i64 (n : Int)] 3 (0, 0)) ∧ W.heap[w.heap.size + 1]? = some (.cells #[.string s.2] 9 (0, 0)))
      (fun s q a' W => ∃ L r, s.1.Q = q :: r ∧ w2.heap.size ≤ L ∧ W.heap[L]? = some (.cells (opC q) 78 (0, 0)) ∧ IsD W d gs c vv { s.1 with Q := r ++ [q] } ∧ (KeptQ (fun k => k = c) w W ∧ w2.heap.size ≤ W.heap.size ∧ W.heap[w.heap.size]? = some (.cells #[.int .i64 (n : Int)] 3 (0, 0)) ∧ W.heap[w.heap.size + 1]? = some (.cells #[.string s.2] 9 (0, 0))) ∧
        a' = { tmps := #[.pointer (some ⟨d, 0, none⟩), .int .i64 (n : Int), undef, .pointer (some ⟨w.heap.size, 0, none⟩), .string ⟨#[]⟩, .int .i64 0, .int .i64 0, .pointer (some ⟨w.heap.size + 1, 0, none⟩), .pointer (some ⟨L, 0, none⟩), .pointer (some ⟨d, 0, none⟩), .int .i64 (n : Int), .int .i64 0, .int .i64 0, .bool false, undef, .pointer (some ⟨d, 0, none⟩), .pointer (some ⟨d, 0, none⟩), .pointer (some ⟨d, 0, none⟩), .slice (some ⟨gs, 0, none⟩) D.P.length D.pc, .int .i64 (n : Int), .pointer (some ⟨gs, n, none⟩), .string S0, .pointer (some ⟨d, 0, none⟩), .func (.func 46) #[.pointer (some ⟨d, 0, none⟩)] #[], opV q, undef, undef, undef, undef, undef, undef, undef], defers := [] })
      (fun k => k = c) (fun k hk => by rw [hk]; exact hcl) ⟨HD2.out, KeptQ.of_below HB2.out, Nat.le_refl _, HBX2.out, HDT2.out⟩
      (fun s W W' he hb => ⟨he.1.book hb hcl, he.2.1.book hb (by omega), Nat.le_trans he.2.2.1 hb.size, cells_book he.2.2.2.1 hb, cells_book he.2.2.2.2 hb⟩)
      (fun s q a' W W' he hb => by
        obtain ⟨L, r, e1, e3, e4, e5, ⟨e6, e7, e8, e9⟩, e10⟩ := he
        exact ⟨L, r, e1, e3, cells_book e4 hb, e5.book hb hcl, ⟨e6.book hb (by omega), Nat.le_trans e7 hb.size, cells_book e8 hb, cells_book e9 hb⟩, e10⟩)
      ?iter ?assign ?body ?done
    case iter =>
      intro l X W1 hl hE hX hXk hY
      have := waiting_in (9 - 1) (by decide) d gs c vv Prod.fst (fun (s : Dv.D × ByteArray) W => KeptQ (fun k => k = c) w W ∧ w2.heap.size ≤ W.heap.size ∧ W.heap[w.heap.size]? = some (.cells #[.int .i64 (n : Int)] 3 (0, 0)) ∧ W.heap[w.heap.size + 1]? = some (.cells #[.string s.2] 9 (0, 0))) (Dv.look n) (fun s q r hq => by simp only [Dv.look]; rw [hq]; rfl)
        (fun s W W' he hk => ⟨he.1.trans hk, Nat.le_trans he.2.1 hk.size, hcel he.2.2.1 hk (by omega), hcel he.2.2.2 hk (by omega)⟩) (D, S0) l X W1 hE hX (fun W W' hx hk => hXk W W' hx (fun k h1 h2 => hk k h1 h2)) (fun s q W hr hx => hY s q W hr hx)
      refine CallsIn.mono this ?_
      rintro e W' ⟨hv, ⟨h1, h2⟩, hx⟩
      exact ⟨hv, ⟨by rw [hs1]; exact h1, h2⟩, hx⟩
    case assign =>
      rintro l s q W hl ⟨r, e1, e3, e4, e5, e7, e8⟩
      unfold opV opC
      gi_wp2
      have hbb : Below W.heap.size W (W.alloc (.cells #[.int .i64 (q.1 : Int), .int .i64 (q.2.1 : Int), .string q.2.2] 78)) := (Below.refl _ _).alloc (Nat.le_refl _) _
      refine ⟨fun k o hk ho hc => (Below.heap_alloc _ _ _ (Array.getElem?_eq_some_iff.1 ho).1).trans ho, W.heap.size, by omega, heap_alloc_new _ _, e3.below hbb, ?_⟩
      exact ⟨⟨e4.trans (KeptQ.alloc _ _), by omega, (Below.heap_alloc _ _ _ (by omega)).trans e7, (Below.heap_alloc _ _ _ (by omega)).trans e8⟩, rfl⟩
    case body =>
      rintro l s q a' W hl ⟨L, r, e1, e3, e4, e5, ⟨e6, e7, e8, e9⟩, rfl⟩
      have eb : W.cell? ⟨w.heap.size, 0, none⟩ = some (.int .i64 (n : Int)) := by rw [cell_of_row _ _ _ _ _ _ e8]; rfl
      have ed : W.cell? ⟨w.heap.size + 1, 0, none⟩ = some (.string s.2) := by rw [cell_of_row _ _ _ _ _ _ e9]; rfl
      have fd : W.frozen? ⟨w.heap.size + 1, 0, none⟩ = false := frozen_of_row _ _ _ _ _ e9
      obtain ⟨o0, o1, o2⟩ := opRow_cells e4
      unfold opV
      by_cases hqn : q.2.1 = n
      · have g1 : (q.2.1 : Int) = n := by omega
        rw [g1] at o1
        gi_wp2
        have hk3 : KeptQ (fun k => k = w.heap.size + 1) W (W.setCell ⟨w.heap.size + 1, 0, none⟩ (.string q.2.2)) := KeptQ.setCell _ _ _ rfl
        have hlk : Dv.look n s q = ({ s.1 with Q := r ++ [q] }, q.2.2) := by
          unfold Dv.look Dv.last
          rw [if_pos hqn, e1]
          rfl
        rw [hlk]
        refine ⟨fun k o hk ho hc => (hk3.block k (Array.getElem?_eq_some_iff.1 ho).1 (by omega)).trans ho, e5.kept hk3 (fun k hk he => ?_), ⟨e6.os, e6.tape, e6.output, by simpa [World.setCell] using e6.size, fun k hk hp => (hk3.block k (by omega) (by omega)).trans (e6.block k hk hp)⟩, by omega, (hk3.block _ (by omega) (by omega)).trans e8, ?_⟩
        · subst he
          exact HH.out.fresh (by omega) hk
        · rw [heap_setCell_same _ _ _ _ _ _ e9]
          rfl
      · have g1 : ((q.2.1 : Int) == n) = false := by simp; omega
        gi_wp2
        have hlk : Dv.look n s q = ({ s.1 with Q := r ++ [q] }, s.2) := by
          unfold Dv.look Dv.last
          rw [if_neg hqn, e1]
          rfl
        rw [hlk]
        exact ⟨Books.refl _ _, e5, by omega, rfl⟩
    case done =>
      rintro W ⟨hd, hk, hsz, hbx, hdt⟩ hD
      have ed : W.cell? ⟨w.heap.size + 1, 0, none⟩ = some (.string (D.Q.foldl (Dv.look n) (D, S0)).2) := by rw [cell_of_row _ _ _ _ _ _ hdt]; rfl
      gi_wp2
      have hbk : BookAt w2.heap.size W (W.putObj w2.heap.size (.deferred none)) := bookAt_put (Nat.le_refl _) hD rfl
      refine ⟨by simp, .inl ⟨_, _, rfl, run_takeDeferred hD, ?_⟩⟩
      rw [hs1] at hd
      exact ⟨_, results_tmp2 rfl _ _ _, by rw [hrd, ← Dv.look_snd n D.Q (D, S0)]; rfl, hd.book hbk hcl, hk.book hbk (by omega)⟩
  · have hrd : Dv.read D p = (⟨#[]⟩, Dv.refuses D p) := by
      unfold Dv.read
      rw [if_pos h0]
    rw [hrd]
    generalize Dv.refuses D p = r at *
    have h0' : ((r : Int) != 0) = true := by simp; omega
    gi_wp2
    refine ⟨by first | trivial | decide | simp [Fence.wide], (callsIn_wide.2 href).mono ?_⟩
    rintro e w1 ⟨rfl, hw1⟩
    subst hw1
    gi_wp2
    exact ⟨_, results_tmp2 rfl _ _ _, rfl, H1.out, KeptQ.of_below HB1.out⟩
end
end Go.Proofs.Ytkhkpcigjpibiaa
