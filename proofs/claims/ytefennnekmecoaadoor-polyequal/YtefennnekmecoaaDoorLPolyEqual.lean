/-
  Tags are equal just if they are alike, and made of texts (law PolyEqual); for every input.
-/
import Derived.Test.YtefennnekmecoaaDoorLPoly
namespace Go.Proofs.YtefennnekmecoaaDoor
open Go.ChangeShapes Go.WideShapes Go.ChangeAt Go.RowKit
open Go.Lib (hid)

set_option maxRecDepth 100000 in
theorem open_tag {H : Type} {enc : TypeId × Value → H} {W : World} {base : Nat} {sp : Nat → Bool} {held : Bool} {r : Reach} {b0 : Nat} {v : Value} {d : DataW H} {p : List MemPlace}
    (hv : Value.okWide Tryd.prog W r b0 48 v) (h : DataW.Trod enc Tryd.prog W base sp held 48 v d p) :
    ∃ xs : List Nat, v = .agg (ints .u8 xs) ∧ xs.length = 16 ∧ ∀ x ∈ xs, x < 256 := by
  obtain ⟨zs, rfl, hl, hw⟩ := open_arr Tryd.underlying48 Tryd.underlying5 (by kernel_rfl) (by kernel_rfl) hv h
  have hb : ∀ z ∈ zs, 0 ≤ z ∧ z ≤ 255 := fun z hz => bounds_u8 (hw z hz)
  refine ⟨zs.map Int.toNat, by rw [ints_of (fun z hz => (hb z hz).1)], by rw [List.length_map]; exact hl, ?_⟩
  intro x hx
  simp only [List.mem_map] at hx
  obtain ⟨z, hz, rfl⟩ := hx
  have := hb z hz
  omega
theorem eql_tags (w : World) (l r : List Nat) (hl : ∀ x ∈ l, x < 256) (hr : ∀ x ∈ r, x < 256) (l16 : l.length = 16) (r16 : r.length = 16) :
    (binOp .eql 48 (.agg (ints .u8 l)) (.agg (ints .u8 r))).run Tryd.prog w = .ok (.bool (l == r)) w := by
  rw [ints_cell l hl, ints_cell r hr, run_eql_bytes w 48 5 16 Tryd.underlying48 Tryd.underlying5 (fun w => by kernel_rfl) _ _ (by simpa using l16) (by simpa using r16), map_u8_inj l r hl hr]

theorem wpQuiet_eql {P : Program} {ops : Array Oper} {C : World → Prop} {Q : Act → Prop} {rest : List Oper} {o : Oper} {a : Act} (hgd : Region.wanted o (yielded ops a.tmps) = true) (ty ty2 : TypeId) (x y : Operand) (ho : o.op = .binOp .eql ty x y ty2)
    (vx vy : Array Value) (hx : a.eval x = .agg vx) (hy : a.eval y = .agg vy) (hg : P.eqGuardType P.depth ty = false) (e : Bool) (hc : ∀ w, C w → (binOp .eql ty (.agg vx) (.agg vy)).run P w = .ok (.bool e) w)
    (h : wpQuiet P ops C Q rest (a.put o.dst (.bool e))) : wpQuiet P ops C Q (o :: rest) a := by
  refine wpQuiet_step (fun K hK => ?_)
  rw [if_pos hgd]
  refine ⟨.bool e, fun w hw => ?_, hK _ h⟩
  have hrun := hc w hw
  have hgr : (eqGuard .eql ty x y (.agg vx) (.agg vy)).run P w = .ok () w := by
    simp [eqGuard, hg]
  unfold Oper.quietAt execOp
  simp only [ho, hx, hy, Sem.run_bind, Sem.run_pure, Result.andThen_ok, hrun, hgr]
  exact ⟨rfl, rfl⟩
namespace PolyEqual
/-- A world for the witnesses: the settled one, the table holding what its initialiser lays. -/
noncomputable def laidWorld (os : Os) : World :=
  { World.holding Tryd.prog os ⟨#[], #[], []⟩ with heap := (World.holding Tryd.prog os ⟨#[], #[], []⟩).heap.modify 1 (relaid (ints .u8 Px.kept)) }

def S (w : World) (ba bb bt : Nat) (a b c : List Nat) (u : World) : Prop :=
  Row u ba .u8 48 a ∧ Row u bb .u8 48 b ∧ Row u bt .u8 48 c ∧ Below w.heap.size w u ∧ w.heap.size ≤ u.heap.size
theorem S.keep {w : World} {ba bb bt : Nat} {a b c : List Nat} {u u' : World} (h : S w ba bb bt a b c u) (hb : Below u.heap.size u u') : S w ba bb bt a b c u' :=
  ⟨h.1.below hb h.1.lt, h.2.1.below hb h.2.1.lt, h.2.2.1.below hb h.2.2.1.lt, h.2.2.2.1.trans (hb.mono h.2.2.2.2), Nat.le_trans h.2.2.2.2 hb.size⟩
theorem pad_take (t : List Nat) (j : Nat) (h : 16 ≤ t.length + j) (hj : j = 0 ∨ t.length + j ≤ 16) : (t ++ List.replicate j 0).take 16 = Cx.padL t 16 := by
  unfold Cx.padL
  rcases hj with rfl | hj
  · rw [List.replicate_zero, List.append_nil, show 16 - t.length = 0 from by omega, List.replicate_zero, List.append_nil]
  · rw [List.take_of_length_le (by simp; omega), List.take_of_length_le (show t.length ≤ 16 by omega), show 16 - t.length = j from by omega]
theorem pad_same (a : List Nat) (h : a.length = 16) : Cx.padL a 16 = a := by
  unfold Cx.padL
  rw [h, Nat.sub_self, List.replicate_zero, List.append_nil, List.take_of_length_le (by omega)]

set_option maxHeartbeats 2000000 in
set_option maxRecDepth 100000 in
theorem walk (a b : List Nat) (hal : a.length = 16) (ha : ∀ x ∈ a, x < 256) (hbl : b.length = 16) (hb : ∀ x ∈ b, x < 256) (s : ByteArray) (hs : s.size ≤ maxLen) (w : World) (hT : TabK w) :
    Calls Tryd.prog 9 #[.agg (ints .u8 a), .agg (ints .u8 b), .string s] w fun e w' => e = .returned (.bool true) ∧ Below w.heap.size w w' := by
  have HCUT := hid (fun wx => cut_any s 30 wx hs (by omega))
  obtain ⟨t, ht⟩ : ∃ t, t = (nums s).take 30 := ⟨_, rfl⟩
  have tb : ∀ x ∈ t, x < 256 := by rw [ht]; exact fun x hx => nums_lt s x (List.mem_of_mem_take hx)
  have tl : t.length ≤ 30 := by rw [ht, List.length_take]; omega
  rw [← ht] at HCUT
  have HTG := hid (fun wx => tagof_any t tb wx)
  have hpl := Cx.padL_length t 16
  have hpb := Cx.padL_lt t 16 tb
  have HTX := hid (fun wx => ttext_any (Cx.padL t 16) hpl wx)
  have HAX := hid (fun wx => ttext_any a hal wx)
  have HAT := hid (fun wx => tagof_any a ha wx)
  rw [pad_same a hal] at HAT
  have HEQ := hid (fun wx => pequal_any a b hal hbl ha hb wx)
  have HEE := hid (fun wx => pequal_any a a hal hal ha ha wx)
  have HQ1 := hid (fun wx => eql_tags wx a b ha hb hal hbl)
  have HQ2 := hid (fun wx => eql_tags wx a a ha ha hal hal)
  rw [beq_self_eq_true] at HEE HQ2
  have hs1 : (ints .u8 a).size = 16 := by rw [ints_size, hal]
  have hs2 : (ints .u8 b).size = 16 := by rw [ints_size, hbl]
  have hs3 : (ints .u8 (Cx.padL t 16)).size = 16 := by rw [ints_size, hpl]
  have HT := hid hT
  have HPT := hid (pad_take t)
  have HTB := hid tb
  clear hT ht ha hb hs hpl hpb tb hal hbl
  generalize hD : Cx.padL t 16 = D at *
  go_enter Tryd.func9, Tryd.ntmps9
  go_upto_region 1 with (fail)
  generalize hw0 : (w.alloc _).alloc _ = w0
  have ra : Row w0 w.heap.size .u8 48 a := by rw [← hw0]; unfold Row; rw [heap_alloc2_old]
  have rb : Row w0 (w.heap.size + 1) .u8 48 b := by rw [← hw0]; unfold Row; rw [heap_alloc2_new]
  have hb0 : Below w.heap.size w w0 := by rw [← hw0]; exact ((Below.refl _ _).alloc (Nat.le_refl _) _).alloc (by simp) _
  clear hw0
  have HA0 := hid ra
  have HB0 := hid rb
  have HW0 := hid hb0
  clear ra rb hb0
  go_wp2_with fail
  refine (awake4_any _ (HT.out.below HW0.out (Nat.le_refl _))).mono ?_
  rintro e w1 ⟨rfl, hb1⟩
  have HA1 := hid (HA0.out.below hb1 HA0.out.lt)
  have HB1 := hid (HB0.out.below hb1 HB0.out.lt)
  have HW1 := hid (HW0.out.trans (hb1.mono HW0.out.size))
  clear hb1 HA0 HB0 HW0
  go_upto_region 5 with (first
    | (go_at_call 17; refine (HCUT.out _).mono ?_; rintro e w2 ⟨rfl, hw2⟩; obtain rfl : w1 = w2 := hw2)
    | (go_at_call 34; refine (HTG.out _).mono ?_; rintro e w2 ⟨rfl, hb2⟩)
    | (refine wpList_store_row rfl _ _ _ rfl w2.heap.size _ rfl rfl _ _ (heap_alloc_new _ _) (by rw [hs3]; exact info48) (by rw [hs3]; rfl) (ints_one _ _) ?_))
  generalize hw3 : (w2.alloc _).setRow _ _ = w3
  have HS3 := hid (show S w w.heap.size (w.heap.size + 1) w2.heap.size a b D w3 from by
    have la := HA1.out.below hb2 HA1.out.lt
    have lb := HB1.out.below hb2 HB1.out.lt
    have lw := HW1.out.trans (hb2.mono HW1.out.size)
    have h1 := la.lt
    have h2 := lb.lt
    rw [← hw3]
    refine ⟨?_, ?_, setRow_heap _ _ _ _ _ _ (heap_alloc_new _ _), below_setRow (lw.alloc lw.size _) lw.size _, ?_⟩
    · unfold Row; rw [setRow_other _ _ _ _ (by omega)]; exact la.alloc _
    · unfold Row; rw [setRow_other _ _ _ _ (by omega)]; exact lb.alloc _
    · simp; exact Nat.le_trans lw.size (Nat.le_succ _))
  clear hw3 hb2 HA1 HB1 HW1
  generalize w2.heap.size = bt at *
  go_upto_region 6 with (fail)
  go_loopw [8] (fun v wr => wr = w3 ∧ ∃ j : Nat, v = .string (str (t ++ List.replicate j 0)) ∧ (j = 0 ∨ t.length + j ≤ 16))
    (fun v _ => match v with | .string y => 16 - y.size | _ => 0)
  case atStart => exact ⟨rfl, 0, by simp, Or.inl rfl⟩
  case round =>
    obtain ⟨rfl, j, rfl, hj⟩ := hrel
    have hz : (str (t ++ List.replicate j 0)).size = t.length + j := by rw [str_size]; simp
    by_cases hlt : t.length + j < 16
    · have hap := str_append (t ++ List.replicate j 0) [0]
      rw [show str [0] = ⟨#[0]⟩ from rfl, List.append_assoc, show List.replicate j 0 ++ [0] = List.replicate (j + 1) 0 from (List.replicate_succ' ..).symm] at hap
      have HZ := hid (show (str (t ++ List.replicate (j + 1) 0)).size = t.length + j + 1 from by rw [str_size]; simp; omega)
      have hlt' : ((t.length : Int) + (j : Int)) < 16 := by omega
      generalize hS1 : str (t ++ List.replicate j 0) = S1 at *
      generalize hS2 : str (t ++ List.replicate (j + 1) 0) = S2 at *
      have HS2 := hid hS2
      clear hS1 hS2
      go_wp2
      exact ⟨⟨by trivial, j + 1, by rw [HS2.out], Or.inr (by omega)⟩, by show 16 - S2.size < 16 - S1.size; rw [HZ.out, hz]; omega⟩
    · have hge : ¬ ((t.length : Int) + (j : Int)) < 16 := by omega
      have hex : (str (t ++ List.replicate j 0)).extract 0 16 = str D := by
        have := extract_mid (t ++ List.replicate j 0) (by
          intro x hx
          rcases List.mem_append.1 hx with h | h
          · exact HTB.out x h
          · rw [List.eq_of_mem_replicate h]; omega) 0 16
        rwa [Nat.zero_add, List.drop_zero, HPT.out j (by omega) hj] at this
      generalize hS1 : str (t ++ List.replicate j 0) = S1 at *
      clear hS1
      go_upto_region 8 with (fail)
      refine wp_region_class (S w w.heap.size (w.heap.size + 1) bt a b D) (by kernel_rfl) (by kernel_rfl) (HS3.out.keep ((Below.refl _ _).drew)) ?_
      intro Z φ hne hSφ hφ
      have HSZ := hid hSφ
      have RA := hid (show ∀ u : World, (∃ z, u = φ z) → u.rangeAt w.heap.size 0 (ints .u8 a).toList from fun u ⟨z, hz⟩ => by rw [hz]; exact row_range0 (hSφ z).1)
      have RB := hid (show ∀ u : World, (∃ z, u = φ z) → u.rangeAt (w.heap.size + 1) 0 (ints .u8 b).toList from fun u ⟨z, hz⟩ => by rw [hz]; exact row_range0 (hSφ z).2.1)
      have RD := hid (show ∀ u : World, (∃ z, u = φ z) → u.rangeAt bt 0 (ints .u8 D).toList from fun u ⟨z, hz⟩ => by rw [hz]; exact row_range0 (hSφ z).2.2.1)
      have IA := hid (show (Tryd.prog.info? 48).map (·.size) = some (ints .u8 a).toList.length from by rw [Array.length_toList, hs1]; exact info48)
      have IB := hid (show (Tryd.prog.info? 48).map (·.size) = some (ints .u8 b).toList.length from by rw [Array.length_toList, hs2]; exact info48)
      have ID := hid (show (Tryd.prog.info? 48).map (·.size) = some (ints .u8 D).toList.length from by rw [Array.length_toList, hs3]; exact info48)
      have C1 := hid (fun z => calls_class hφ ((HEQ.out (φ z)).mono fun e w' h => ⟨h.1, (hSφ z).keep h.2⟩))
      have C2 := hid (fun z => calls_class hφ ((HEE.out (φ z)).mono fun e w' h => ⟨h.1, (hSφ z).keep h.2⟩))
      have C3 := hid (fun z => calls_class hφ ((HTX.out (φ z)).mono fun e w' h => ⟨h.1, (hSφ z).keep h.2⟩))
      have C4 := hid (fun z => calls_class hφ ((HAX.out (φ z)).mono fun e w' h => ⟨h.1, (hSφ z).keep h.2⟩))
      have C5 := hid (fun z => calls_class hφ ((HAT.out (φ z)).mono fun e w' h => ⟨h.1, (hSφ z).keep h.2⟩))
      have q1 := fun z => HQ1.out (φ z)
      have q2 := fun z => HQ2.out (φ z)
      have hee : ((a == b) == (a == b)) = true := beq_self_eq_true _
      clear hSφ hφ
      generalize (a == b) = E at *
      generalize str D = SD at *
      generalize str a = SA at *
      have Q1 := hid (show ∀ u : World, (∃ z, u = φ z) → (binOp .eql 48 (.agg (ints .u8 a)) (.agg (ints .u8 b))).run Tryd.prog u = .ok (.bool E) u from fun u ⟨z, hz⟩ => by rw [hz]; exact q1 z)
      have Q2 := hid (show ∀ u : World, (∃ z, u = φ z) → (binOp .eql 48 (.agg (ints .u8 a)) (.agg (ints .u8 a))).run Tryd.prog u = .ok (.bool true) u from fun u ⟨z, hz⟩ => by rw [hz]; exact q2 z)
      clear q1 q2
      repeat (first
        | (refine wpQuiet_eql rfl _ _ _ _ rfl _ _ rfl rfl (by kernel_rfl) _ Q1.out ?_; simp only [Act.put, List.setIfInBounds_toArray, List.set_cons_zero, List.set_cons_succ])
        | (refine wpQuiet_eql rfl _ _ _ _ rfl _ _ rfl rfl (by kernel_rfl) _ Q2.out ?_; simp only [Act.put, List.setIfInBounds_toArray, List.set_cons_zero, List.set_cons_succ])
        | (refine wpQuiet_load_arr rfl _ _ rfl w.heap.size 0 rfl _ _ RA.out Tryd.underlying48 rfl IA.out ?_; simp only [Act.put, List.setIfInBounds_toArray, List.set_cons_zero, List.set_cons_succ])
        | (refine wpQuiet_load_arr rfl _ _ rfl (w.heap.size + 1) 0 rfl _ _ RB.out Tryd.underlying48 rfl IB.out ?_; simp only [Act.put, List.setIfInBounds_toArray, List.set_cons_zero, List.set_cons_succ])
        | (refine wpQuiet_load_arr rfl _ _ rfl bt 0 rfl _ _ RD.out Tryd.underlying48 rfl ID.out ?_; simp only [Act.put, List.setIfInBounds_toArray, List.set_cons_zero, List.set_cons_succ])
        | go_big_quiet_step (first | (go_at_call 33; with_reducible exact C1.out _) | (go_at_call 33; with_reducible exact C2.out _) | (go_at_call 30; with_reducible exact C3.out _) | (go_at_call 30; with_reducible exact C4.out _) | (go_at_call 34; with_reducible exact C5.out _)))
      refine wpQuiet_nil ?_
      intro z
      go_wp2
      go_ret
      exact ⟨rfl, (HSZ.out z).2.2.2.1⟩


set_option maxRecDepth 100000 in
theorem contract (H : Type) (enc : TypeId × Value → H) (W : World) (base : Nat) (args : Array Value) (ds gs : List (DataW H)) (before : List MemPlace)
    (hval : ∀ (j : Nat) t v, Tryd.f9.params[j]? = some t → args[j]? = some v → Value.okWide Tryd.prog W .any base t v)
    (hW : DataW.Whole enc Tryd.prog Tryd.f9.params.toList Rows.polyEqualSpec.vars false W args.toList ds gs before) (hL : laidMetH Tryd.prog Rows.polyEqualRow.laid W) :
    Calls Tryd.prog 9 args W fun e W' => ∃ v, e = .returned v ∧ Rows.polyEqualSpec.post enc Tryd.prog Tryd.f9 false true false false W args v W' := by
  have hW' := hW
  obtain ⟨p, q, hA0, hV, rfl, hfz, hnd⟩ := hW
  have hA : DataW.TrodAll enc Tryd.prog W 0 (fun _ => true) true Tryd.f9.params.toList args.toList ds p := hA0
  rw [Tryd.params9] at hA hval
  obtain ⟨v0, vs0, d0, ds0, p0, q0, hargs, rfl, rfl, h0, r0⟩ := trodAll_cons hA
  obtain ⟨v1, vs1, d1, ds1, p1, q1, rfl, rfl, rfl, h1, r1⟩ := trodAll_cons r0
  obtain ⟨v2, vs2, d2, ds2, p2, q2, rfl, rfl, rfl, h2, r2⟩ := trodAll_cons r1
  obtain ⟨rfl, rfl, rfl⟩ := trodAll_nil r2
  obtain rfl : args = #[v0, v1, v2] := by cases args; simp_all
  obtain ⟨xs0, rfl, hl0, hx0⟩ := open_tag (hval 0 48 v0 rfl rfl) h0
  obtain ⟨xs1, rfl, hl1, hx1⟩ := open_tag (hval 1 48 v1 rfl rfl) h1
  obtain ⟨s2, rfl, rfl, rfl, hs2⟩ := Go.ChangeMaps.open_string Tryd.underlying9 (hval 2 9 v2 rfl rfl) h2
  refine (walk xs0 xs1 hl0 hx0 hl1 hx1 s2 hs2 W (tabk_of hL)).mono fun e W' ⟨he, hb⟩ => ?_
  subst he
  exact ⟨_, rfl, law_post rfl rfl (by rw [Tryd.params9]; decide +kernel) hW' rfl hb⟩

theorem laid_met (os : Os) : laidMet Tryd.prog Rows.polyEqualRow.laid ((laidWorld os).forCall (fun _ _ => 0) ⟨#[], #[.agg (ints .u8 (List.replicate 16 0)), .agg (ints .u8 (List.replicate 16 0)), .string ByteArray.empty], []⟩).memory :=
  laidMet_of_run' 8 (by kernel_rfl) (by kernel_rfl)
theorem reads (os : Os) {H : Type} (enc : TypeId × Value → H) : ∃ places, DataW.whole enc Tryd.prog ((laidWorld os).forCall (fun _ _ => 0) ⟨#[], #[.agg (ints .u8 (List.replicate 16 0)), .agg (ints .u8 (List.replicate 16 0)), .string ByteArray.empty], []⟩).memory Tryd.f9.params.toList Rows.polyEqualSpec.vars false (#[.agg (ints .u8 (List.replicate 16 0)), .agg (ints .u8 (List.replicate 16 0)), .string ByteArray.empty] : Array Value).toList 8
    = some ([.agg (List.replicate 16 (.lit (.int .u8 0))), .agg (List.replicate 16 (.lit (.int .u8 0))), .lit (.string [])], [], places) :=
  ⟨[], by kernel_rfl⟩

set_option maxRecDepth 100000 in
theorem lifted (os : Os) (started : os.Started) (H : Type) (enc : TypeId × Value → H) (F : Stop.Interp) :
    ReturnsInHanded {} Tryd.checked os 9 .any ((OpenSpec.ofChange Rows.polyEqualSpec).preRow enc Tryd.prog Tryd.f9 Rows.polyEqualRow.domain false Rows.polyEqualRow.laid) (((OpenSpec.ofChange Rows.polyEqualSpec).at F).post enc Tryd.prog Tryd.f9 false true false false) := by
  obtain ⟨places, hx⟩ := reads os enc
  refine returnsInHanded_of_row (C := Tryd.checked) (s := OpenSpec.ofChange Rows.polyEqualSpec) own started (by kernel_rfl) Tryd.func9
    (witness_row_at (enc := enc) (C := Tryd.checked) false (laidWorld os) #[.agg (ints .u8 (List.replicate 16 0)), .agg (ints .u8 (List.replicate 16 0)), .string ByteArray.empty] rfl (by kernel_rfl) (by kernel_rfl) (by kernel_rfl)
      (OpenSpec.preRow_of_cond 8 hx (by kernel_rfl) (fun k hk => by cases hk) (by kernel_rfl) (laid_met os))) ?_
  intro W base args ds gs before hval hW _ _ _ hL _ _
  exact contract H enc W base args ds gs before hval hW hL

theorem said : Rows.PolyEqualSaid :=
  OpenClaim.holds_of_cond 9 Tryd.f9 rfl rfl rfl rfl rfl rfl rfl ⟨rfl, rfl, rfl, rfl, rfl⟩ rfl rfl rfl rfl rfl (by kernel_rfl) Tryd.func9 (by kernel_rfl)
    (of_decide_eq_true (by kernel_rfl)) (by unfold Func.isWrapper; first | (rw [if_pos (by decide +kernel)]; kernel_rfl) | (rw [if_neg (by decide +kernel)]; exact ⟨rfl, rfl⟩))
    (fun os started H enc _ F => by rw [OpenClaim.pre_eq_preRow]; exact lifted os started H enc F)

theorem plain (f : FuncId) (fn : Func) (hf : Tryd.pinned.checked.prog.funcNamed "sealwax/sealwaxlaw04.PolyEqual" = some f) (hfn : Tryd.pinned.checked.prog.funcs[f]? = some fn) :
    false = Tryd.pinned.checked.prog.looks [] ∧ ∀ (j : Nat) t, fn.params[j]? = some t → Tryd.pinned.checked.prog.wantsStandIn t = false := by
  obtain rfl : f = 9 := Option.some.inj ((show Tryd.prog.funcNamed "sealwax/sealwaxlaw04.PolyEqual" = some 9 by kernel_rfl).symm.trans hf) |>.symm
  obtain rfl : fn = Tryd.f9 := (Option.some.inj (Tryd.func9.symm.trans hfn)).symm
  refine ⟨by kernel_rfl, fun j t ht => ?_⟩
  rw [Tryd.params9] at ht
  have hmem := Array.mem_of_getElem? ht
  exact (show ∀ t ∈ (Tryd.f9.params), Tryd.prog.wantsStandIn t = false from by rw [Tryd.params9]; decide +kernel) t (by rw [Tryd.params9]; exact hmem)

theorem card : Rows.PolyEqualCardSaid :=
  Claim7.holds_tied_plain_at .later [] _ _ _ _ said (fun _ h => by cases h) (by kernel_rfl) (fun _ h => by cases h) polyEqual_row_tie rfl ⟨rfl, rfl⟩ (by kernel_rfl) rfl plain (by kernel_rfl)

end PolyEqual
theorem polyEqual_card : Rows.PolyEqualCardSaid := PolyEqual.card
end Go.Proofs.YtefennnekmecoaaDoor
