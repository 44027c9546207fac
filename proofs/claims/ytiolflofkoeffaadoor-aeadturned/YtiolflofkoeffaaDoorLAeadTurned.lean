/-
  With a bit of its tag turned it isn't opened (law AeadTurned); for every input.
-/
import Derived.Test.YtiolflofkoeffaaDoorLAeadP
import Derived.Lib.ConvBytes
import Derived.Lib.AtoiErrMem
namespace Go.Proofs.YtiolflofkoeffaaDoor
open Go.ChangeShapes Go.WideShapes Go.ChangeAt Go.RowKit
open Go.Lib (hid)

/-- Bytes made of a text: a block's first cells; the mark of a conversion lies behind them all. -/
def Byt (w : World) (b : Nat) (l : List Nat) : Prop := ∃ r : Array Value, w.heap[b]? = some (.cells (ints .u8 l ++ r) 5 ((ints .u8 l ++ r).size, (ints .u8 l ++ r).size + 1))
theorem Byt.cell {w : World} {b : Nat} {l : List Nat} (h : Byt w b l) (i : Nat) (hi : i < l.length) : w.cell? ⟨b, i, none⟩ = some (.int .u8 (l.getD i 0 : Nat)) := by
  obtain ⟨r, h⟩ := h
  rw [cell_of_row w b i _ _ _ h, Array.getElem?_append_left (by rw [ints_size]; exact hi), ints_get .u8 l i hi]
theorem Byt.free {w : World} {b : Nat} {l : List Nat} (h : Byt w b l) (i : Nat) (hi : i < l.length) : w.frozen? ⟨b, i, none⟩ = false := by
  obtain ⟨r, h⟩ := h
  have : i < (ints .u8 l ++ r).size := by rw [Array.size_append, ints_size]; omega
  simp only [World.frozen?, h]
  simp
  intro h1
  simp only [ints_size] at h1
  omega
theorem Byt.set {w : World} {b : Nat} {l : List Nat} (h : Byt w b l) (i n : Nat) (hi : i < l.length) : Byt (w.setCell ⟨b, i, none⟩ (.int .u8 (n : Int))) b (l.set i n) := by
  obtain ⟨r, h⟩ := h
  refine ⟨r, ?_⟩
  have h1 := setCell_eq_setRow w b i _ _ _ (.int .u8 (n : Int)) h
  rw [h1, setRow_heap w b _ _ _ _ h, Array.setIfInBounds_append_left (by rw [ints_size]; exact hi), ints_set]
  simp only [Array.size_append, ints_size, List.length_set]
theorem Byt.lt {w : World} {b : Nat} {l : List Nat} (h : Byt w b l) : b < w.heap.size := by
  obtain ⟨r, h⟩ := h
  exact (Array.getElem?_eq_some_iff.1 h).1
theorem Byt.below {w w' : World} {B b : Nat} {l : List Nat} (h : Byt w b l) (hb : Below B w w') (hlt : b < B) : Byt w' b l := by
  obtain ⟨r, h⟩ := h
  exact ⟨r, by rw [hb.block b hlt]; exact h⟩
theorem Byt.str {w : World} {b : Nat} {l : List Nat} (h : Byt w b l) (n cap : Nat) (hn : n ≤ l.length) :
    (convert 44 9 (.slice (some ⟨b, 0, none⟩) n cap)).run Tryd.prog w = .ok (.string (str (l.take n))) w := by
  rw [← strOf_ints]
  refine run_convert_bytes_arg w 44 5 Tryd.underlying44 Tryd.underlying5 b 0 n cap _ (by simp; omega) (fun i hi => ?_) 9 Tryd.underlying9
  rw [Nat.zero_add, h.cell i (by omega)]
  simp [hi]
  rw [List.getElem?_eq_getElem (by omega)]
  simp
theorem Byt.made (w : World) (l : List Nat) (h : ∀ x ∈ l, x < 256) : Byt (Lib.bytesWorld w 5 (Go.Proofs.YtiolflofkoeffaaDoor.str l)) w.heap.size l := by
  refine ⟨Array.replicate (grownCap w (Go.Proofs.YtiolflofkoeffaaDoor.str l).size 0 5 - (Go.Proofs.YtiolflofkoeffaaDoor.str l).size) (.int .u8 0), ?_⟩
  have e : Lib.bytesCells w 5 (Go.Proofs.YtiolflofkoeffaaDoor.str l) = ints .u8 l ++ Array.replicate (grownCap w (Go.Proofs.YtiolflofkoeffaaDoor.str l).size 0 5 - (Go.Proofs.YtiolflofkoeffaaDoor.str l).size) (.int .u8 0) := by
    unfold Lib.bytesCells
    congr 1
    apply Array.toList_inj.1
    simp only [Go.Proofs.YtiolflofkoeffaaDoor.str, ints, Array.toList_map, List.map_map]
    apply List.map_congr_left
    intro x hx
    have := h x hx
    simp only [Function.comp]
    congr 1
    rw [UInt8.toNat_ofNat']
    omega
  rw [Lib.bytesWorld_at_new, e]
theorem bytes_below (w : World) (s : ByteArray) : Below w.heap.size w (Lib.bytesWorld w 5 s) := Lib.bytesWorld_below w 5 s
/-- A place still lies there, and bytes. -/
def Tu (w : World) (bp : Nat) (PC : Array Value) (b : Nat) (l : List Nat) (u : World) : Prop := Pl5 w bp PC u ∧ Byt u b l
theorem Tu.keep {w : World} {bp : Nat} {PC : Array Value} {b : Nat} {l : List Nat} {u u' : World} (h : Tu w bp PC b l u) (hb : Below u.heap.size u u') : Tu w bp PC b l u' := ⟨h.1.keep hb, h.2.below hb h.2.lt⟩
namespace Ax
theorem xor_ne (x j : Nat) : x ^^^ 2 ^ j ≠ x := by
  intro h
  have := congrArg (·.testBit j) h
  simp [Nat.testBit_xor, Nat.testBit_two_pow_self] at this
/-- With a bit of its tag turned. -/
theorem opened_turned (key nonce ad p : List Nat) (i x : Nat) (hi : p.length ≤ i) (hi2 : i < p.length + 16) (hx : x ≠ (sealed key nonce ad p).getD i 0) : opened key nonce ad ((sealed key nonce ad p).set i x) = none := by
  unfold opened
  rw [List.length_set, sealed_length, if_neg (by omega), Nat.add_sub_cancel, List.take_set_of_le hi]
  have h1 : (sealed key nonce ad p).take p.length = hidden key nonce p := by unfold sealed; rw [List.take_left' (hidden_length key nonce p)]
  have h2 : (sealed key nonce ad p).drop p.length = tag key nonce ad (hidden key nonce p) := by unfold sealed; rw [List.drop_left' (hidden_length key nonce p)]
  rw [h1, if_neg]
  intro h
  rw [← h2] at h
  have h3 := congrArg (fun l => l.getD (i - p.length) 0) h
  simp only [List.getD_eq_getElem?_getD, List.getElem?_drop] at h3
  rw [show p.length + (i - p.length) = i from by omega, List.getElem?_set_self (by rw [sealed_length]; omega)] at h3
  apply hx
  rw [List.getD_eq_getElem?_getD, h3]
  rfl
end Ax
namespace AeadTurned
noncomputable def laidWorld := laidWorld5
set_option maxHeartbeats 4000000 in
set_option maxRecDepth 100000 in
theorem walk (key : List Nat) (c : Nat) (nonce : List Nat) (kl : key.length = 32) (kb : ∀ x ∈ key, x < 256) (nl : nonce.length = 12) (nb : ∀ x ∈ nonce, x < 256) (s : ByteArray) (hs : s.size ≤ maxLen) (at' : Int) (w : World) (hT : TabK w ∧ TabQ w) :
    Calls Tryd.prog 9 #[.agg (plC key c nonce), .string s, .int .i64 at'] w fun e w' => e = .returned (.bool true) ∧ Below w.heap.size w w' := by
  have HC2 := hid (fun wx => cut_any s 80 wx hs (by omega))
  obtain ⟨p, htt⟩ : ∃ t, t = (nums s).take 80 := ⟨_, rfl⟩
  have tb : ∀ x ∈ p, x < 256 := by rw [htt]; exact fun x hx => nums_lt s x (List.mem_of_mem_take hx)
  have tl : p.length ≤ 80 := by rw [htt, List.length_take]; omega
  rw [← htt, show ((80 : Nat) : Int) = 80 from rfl] at HC2
  obtain ⟨k, hk, hand⟩ := and_le at' 127 (by omega)
  rw [show ((127 : Nat) : Int) = 127 from rfl] at hand
  obtain ⟨m, hm, hand2⟩ := and_le at' 15 (by omega)
  rw [show ((15 : Nat) : Int) = 15 from rfl] at hand2
  have HSE := hid (fun wx hx hy => aseal_any key nonce [97, 100] p kb kl nb nl (by decide) (by simp) tb (by omega) wx hx hy)
  rw [show str [97, 100] = ⟨#[97, 100]⟩ from rfl] at HSE
  obtain ⟨E, hE⟩ : ∃ E, E = Ax.sealed key nonce [97, 100] p := ⟨_, rfl⟩
  have hEl : E.length = p.length + 16 := by rw [hE, Ax.sealed_length]
  have hEb : ∀ x ∈ E, x < 256 := by rw [hE]; exact Ax.sealed_lt key nonce [97, 100] p tb
  obtain ⟨i, hi⟩ : ∃ i, i = p.length + k / 8 := ⟨_, rfl⟩
  obtain ⟨y, hy⟩ : ∃ y, y = E.getD i 0 ^^^ 2 ^ (k % 8) := ⟨_, rfl⟩
  have hEi := getD_lt (by omega) hEb i
  have h2k : 2 ^ (k % 8) < 256 := by
    have : 2 ^ (k % 8) ≤ 2 ^ 7 := Nat.pow_le_pow_right (by decide) (by omega)
    omega
  have hyb : y < 256 := by rw [hy]; exact Nat.xor_lt_two_pow (n := 8) hEi h2k
  have hFb : ∀ x ∈ E.set i y, x < 256 := by
    intro x hx
    rcases List.mem_or_eq_of_mem_set hx with h | rfl
    · exact hEb x h
    · exact hyb
  have hop : Ax.opened key nonce [97, 100] (E.set i y) = none := by
    rw [hE]; exact Ax.opened_turned key nonce [97, 100] p i y (by omega) (by omega) (by rw [hy, ← hE]; exact Ax.xor_ne _ _)
  have HO1 := hid (fun wx hx hy => aopen_any key nonce [97, 100] (E.set i y) kb kl nb nl (by decide) (by simp) hFb (by rw [List.length_set]; omega) wx hx hy)
  rw [hop, show Ax.openedV none = .tuple #[.string ⟨#[]⟩, .bool false] from rfl, show str [97, 100] = ⟨#[97, 100]⟩ from rfl] at HO1
  have hop2 : Ax.opened key nonce [97, 100] ((E.set i y).take m) = none := by
    unfold Ax.opened; rw [if_pos (by simp; omega)]
  have HO2 := hid (fun wx hx hy => aopen_any key nonce [97, 100] ((E.set i y).take m) kb kl nb nl (by decide) (by simp) (fun x hx => hFb x (List.mem_of_mem_take hx)) (by simp; omega) wx hx hy)
  rw [hop2, show Ax.openedV none = .tuple #[.string ⟨#[]⟩, .bool false] from rfl, show str [97, 100] = ⟨#[97, 100]⟩ from rfl] at HO2
  have hx1 := xor8 (E.getD i 0) (2 ^ (k % 8)) hEi h2k
  rw [← hy] at hx1
  rw [← hE] at HSE
  have HEB := hid hEb
  have hzp := str_size p
  have hze : (str E).size = p.length + 16 := by rw [str_size, hEl]
  have I1 := hid (show (Tryd.prog.info? 23).map (·.size) = some (ints .u8 key).toList.length from by rw [ints_llen, kl]; exact info23)
  have I2 := hid (show (Tryd.prog.info? 26).map (·.size) = some (ints .u8 nonce).toList.length from by rw [ints_llen, nl]; exact info26)
  have KL := hid kl
  have HT := hid hT
  clear hT kb nb kl nl tb htt hs hop hop2 hE hFb hEb
  generalize str p = SP at *
  go_enter Tryd.func9, Tryd.ntmps9
  obtain ⟨PC, hPC⟩ : ∃ PC, PC = plC key c nonce := ⟨_, rfl⟩
  rw [← hPC]
  have HPC := hid hPC
  clear hPC
  go_upto_region 1 with (fail)
  have hp0 : (w.alloc (.cells (PC) 28)).heap[w.heap.size]? = some (.cells (PC) 28 (0, 0)) := heap_alloc_new _ _
  have hb0 : Below w.heap.size w (w.alloc (.cells (PC) 28)) := (Below.refl _ _).alloc (Nat.le_refl _) _
  generalize w.alloc _ = w0 at *
  have HS0 := hid (show Pl5 w w.heap.size PC w0 from ⟨⟨hp0, HT.out.2.below hb0 (Nat.le_refl _), hb0, hb0.size⟩, HT.out.1.below hb0 (Nat.le_refl _)⟩)
  clear hp0 hb0
  go_wp2_with fail
  refine (awake5_any _ HS0.out.1.2.1 HS0.out.2).mono ?_
  rintro e w1 ⟨rfl, hb1⟩
  have HS1 := hid (HS0.out.keep hb1)
  clear hb1 HS0
  have RK := hid (HS1.out.rk HPC.out)
  have RN := hid (HS1.out.rn HPC.out KL.out)
  go_upto_region 5 with (first
    | (refine wpList_load_mid rfl _ _ rfl w.heap.size 0 rfl _ _ RK.out Tryd.underlying23 rfl I1.out ?_; rw [Array.toArray_toList])
    | (refine wpList_load_mid rfl _ _ rfl w.heap.size 33 rfl _ _ RN.out Tryd.underlying26 rfl I2.out ?_; rw [Array.toArray_toList])
    | (go_at_call 20; with_reducible refine (HC2.out _).mono ?_; rintro e w2 ⟨rfl, hw2⟩; obtain rfl : w1 = w2 := hw2)
    | (go_at_call 22; refine (HSE.out _ HS1.out.1.2.1 HS1.out.2).mono ?_; rintro e w3 ⟨rfl, hb3⟩; have hcv := Lib.run_convert_string_bytes (P := Tryd.prog) w3 9 44 5 (str E) Tryd.underlying9 Tryd.underlying44 Tryd.underlying5))
  have HS3 := hid (show Tu w w.heap.size PC w3.heap.size E (Lib.bytesWorld w3 5 (str E)) from
    ⟨(HS1.out.keep hb3).keep (bytes_below w3 (str E)), Byt.made w3 E HEB.out⟩)
  have hq0 : w.heap.size < w3.heap.size := by
    have := (HS1.out.keep hb3).1.1
    exact (Array.getElem?_eq_some_iff.1 this).1
  clear hb3 RK RN HS1 HSE HEB hcv
  have hgc : p.length + 16 ≤ grownCap w3 (p.length + 16) 0 5 := grownCap_ge _ _ _ _
  generalize grownCap w3 _ 0 _ = gc at *
  generalize Lib.bytesWorld w3 _ _ = w4 at *
  generalize w3.heap.size = q at *
  have hcl := HS3.out.2.cell i (by omega)
  have hfr := HS3.out.2.free i (by omega)
  have HSM := hid (fun n => show Tu w w.heap.size PC q (E.set i y) ((w4.drewN n).setCell ⟨q, i, none⟩ (.int .u8 (y : Int))) from by
    have h0 := HS3.out.keep (show Below w4.heap.size w4 (w4.drewN n) from ⟨rfl, rfl, rfl, Nat.le_refl _, fun _ _ => rfl⟩)
    have hwq : w.heap.size ≤ q := by omega
    have hb' := h0.1.1.2.2.1.setCell (p := ⟨q, i, none⟩) hwq (.int .u8 (y : Int))
    refine ⟨⟨⟨?_, HT.out.2.below hb' (Nat.le_refl _), hb', hb'.size⟩, HT.out.1.below hb' (Nat.le_refl _)⟩, h0.2.set i y (by omega)⟩
    rw [heap_setCell_other _ _ _ _ (by show w.heap.size ≠ q; omega)]
    exact h0.1.1.1)
  clear hEi hy
  generalize E.getD i 0 = e0 at *
  generalize h2e : 2 ^ (k % 8) = pw at *
  have hsh : ∀ z : Int, z = (k : Int) % 8 → (1 : Int) * 2 ^ z.toNat = (pw : Int) := by
    intro z hz
    rw [hz, show ((k : Int) % 8).toNat = k % 8 from by omega, ← h2e]
    simp
  have hE2 := h2e
  clear h2e
  rw [hi] at hcl hfr
  have g1 : (p.length : Int) + (k : Int) / 8 < p.length + 16 := by omega
  have g0 : 0 ≤ (p.length : Int) + (k : Int) / 8 := by omega
  go_upto_region 8 with (fail)
  refine wp_region_noPanic ?_
  refine wp_region_hd1 12 2 rfl (by kernel_rfl) (by kernel_rfl) (fun _ _ _ _ _ h => h) ?_
  simp only [List.take_succ_cons, List.take_zero, List.drop_succ_cons, List.drop_zero]
  repeat (go_big_quiet_step (fail))
  refine wpQuiet_nil ?_
  intro n
  clear hx1 hsh
  go_wp2
  refine NoPanic.normal ?_
  rw [← hi]
  have HS5 := hid (HSM.out n)
  clear HSM HS3 hcl hfr
  have hFl : (E.set i y).length = p.length + 16 := by rw [List.length_set, hEl]
  generalize E.set i y = F at *
  generalize (w4.drewN n).setCell _ _ = w5 at *
  have hcv := HS5.out.2.str (p.length + 16) gc (by omega)
  rw [List.take_of_length_le (by omega)] at hcv
  have RK := hid (HS5.out.1.rk HPC.out)
  have RN := hid (HS5.out.1.rn HPC.out KL.out)
  generalize hsF : str F = SF at *
  clear hsF
  go_upto_region 10 with (first
    | (refine wpList_load_mid rfl _ _ rfl w.heap.size 0 rfl _ _ RK.out Tryd.underlying23 rfl I1.out ?_; rw [Array.toArray_toList])
    | (refine wpList_load_mid rfl _ _ rfl w.heap.size 33 rfl _ _ RN.out Tryd.underlying26 rfl I2.out ?_; rw [Array.toArray_toList])
    | (go_at_call 23; refine (HO1.out _ HS5.out.1.1.2.1 HS5.out.1.2).mono ?_; rintro e w6 ⟨rfl, hb6⟩))
  have HS6 := hid (HS5.out.keep hb6)
  clear hb6 RK RN HS5 hcv
  refine wp_region_class (Tu w w.heap.size PC q F) (by kernel_rfl) (by kernel_rfl) (HS6.out.keep ((Below.refl _ _).drew)) ?_
  intro Z φ hne hSφ hφ
  have HSZ := hid hSφ
  have RK := hid (show ∀ u : World, (∃ z, u = φ z) → u.rangeAt w.heap.size 0 (ints .u8 key).toList from fun u ⟨z, hz⟩ => by rw [hz]; exact (hSφ z).1.rk HPC.out)
  have RN := hid (show ∀ u : World, (∃ z, u = φ z) → u.rangeAt w.heap.size 33 (ints .u8 nonce).toList from fun u ⟨z, hz⟩ => by rw [hz]; exact (hSφ z).1.rn HPC.out KL.out)
  have C1 := hid (fun z => calls_class hφ ((HO2.out (φ z) (hSφ z).1.1.2.1 (hSφ z).1.2).mono fun e w' h => ⟨h.1, (hSφ z).keep h.2⟩))
  have hcv2 := fun z => (hSφ z).2.str m gc (by omega)
  clear hSφ hφ
  generalize str (F.take m) = SM at *
  have g5 : (m : Int) ≤ gc := by omega
  repeat (first
    | (refine wpQuiet_load_arr rfl _ _ rfl w.heap.size 0 rfl _ _ RK.out Tryd.underlying23 rfl I1.out ?_; simp only [Act.put, List.setIfInBounds_toArray, List.set_cons_zero, List.set_cons_succ])
    | (refine wpQuiet_load_arr rfl _ _ rfl w.heap.size 33 rfl _ _ RN.out Tryd.underlying26 rfl I2.out ?_; simp only [Act.put, List.setIfInBounds_toArray, List.set_cons_zero, List.set_cons_succ])
    | go_big_quiet_step (first | (go_at_call 23; with_reducible exact C1.out _)))
  refine wpQuiet_nil ?_
  intro z
  go_wp2
  go_ret
  exact ⟨rfl, (HSZ.out z).1.1.2.2.1⟩


set_option maxRecDepth 100000 in
theorem contract (H : Type) (enc : TypeId × Value → H) (W : World) (base : Nat) (args : Array Value) (ds gs : List (DataW H)) (before : List MemPlace)
    (hval : ∀ (j : Nat) t v, Tryd.f9.params[j]? = some t → args[j]? = some v → Value.okWide Tryd.prog W .any base t v)
    (hW : DataW.Whole enc Tryd.prog Tryd.f9.params.toList Rows.aeadTurnedSpec.vars false W args.toList ds gs before) (hL : laidMetH Tryd.prog Rows.aeadTurnedRow.laid W) :
    Calls Tryd.prog 9 args W fun e W' => ∃ v, e = .returned v ∧ Rows.aeadTurnedSpec.post enc Tryd.prog Tryd.f9 false true false false W args v W' := by
  have hW' := hW
  obtain ⟨p, q, hA0, hV, rfl, hfz, hnd⟩ := hW
  have hA : DataW.TrodAll enc Tryd.prog W 0 (fun _ => true) true Tryd.f9.params.toList args.toList ds p := hA0
  rw [Tryd.params9] at hA hval
  obtain ⟨v0, vs0, d0, ds0, p0, q0, hargs, rfl, rfl, h0, r0⟩ := trodAll_cons hA
  obtain ⟨v1, vs1, d1, ds1, p1, q1, rfl, rfl, rfl, h1, r1⟩ := trodAll_cons r0
  obtain ⟨v2, vs2, d2, ds2, p2, q2, rfl, rfl, rfl, h2, r2⟩ := trodAll_cons r1
  obtain ⟨rfl, rfl, rfl⟩ := trodAll_nil r2
  obtain rfl : args = #[v0, v1, v2] := by cases args; simp_all
  obtain ⟨key0, c0, nonce0, rfl, kl0, kb0, nl0, nb0, cb0⟩ := open_place (hval 0 28 v0 rfl rfl) h0
  obtain ⟨s1, rfl, rfl, rfl, hs1⟩ := Go.ChangeMaps.open_string Tryd.underlying9 (hval 1 9 v1 rfl rfl) h1
  obtain ⟨n2, rfl, rfl, rfl, wn2⟩ := open_int Tryd.underlying3 (hval 2 3 v2 rfl rfl) h2
  refine (walk key0 c0 nonce0 kl0 kb0 nl0 nb0 s1 hs1 n2 W (tabs5_of hL)).mono fun e W' ⟨he, hb⟩ => ?_
  subst he
  exact ⟨_, rfl, law_post rfl rfl (by rw [Tryd.params9]; decide +kernel) hW' rfl hb⟩

theorem laid_met (os : Os) : laidMet Tryd.prog Rows.aeadTurnedRow.laid ((laidWorld os).forCall (fun _ _ => 0) ⟨#[], #[.agg (plC (List.replicate 32 0) 0 (List.replicate 12 0)), .string ByteArray.empty, .int .i64 0], []⟩).memory :=
  laidMet_of_run' 8 (by kernel_rfl) (by kernel_rfl)
theorem reads (os : Os) {H : Type} (enc : TypeId × Value → H) : ∃ places, DataW.whole enc Tryd.prog ((laidWorld os).forCall (fun _ _ => 0) ⟨#[], #[.agg (plC (List.replicate 32 0) 0 (List.replicate 12 0)), .string ByteArray.empty, .int .i64 0], []⟩).memory Tryd.f9.params.toList Rows.aeadTurnedSpec.vars false (#[.agg (plC (List.replicate 32 0) 0 (List.replicate 12 0)), .string ByteArray.empty, .int .i64 0] : Array Value).toList 8
    = some ([.agg [.agg (List.replicate 32 (.lit (.int .u8 0))), .lit (.int .u32 0), .agg (List.replicate 12 (.lit (.int .u8 0)))], .lit (.string []), .lit (.int .i64 0)], [], places) :=
  ⟨[], by kernel_rfl⟩

set_option maxRecDepth 100000 in
theorem lifted (os : Os) (started : os.Started) (H : Type) (enc : TypeId × Value → H) (F : Stop.Interp) :
    ReturnsInHanded {} Tryd.checked os 9 .any ((OpenSpec.ofChange Rows.aeadTurnedSpec).preRow enc Tryd.prog Tryd.f9 Rows.aeadTurnedRow.domain false Rows.aeadTurnedRow.laid) (((OpenSpec.ofChange Rows.aeadTurnedSpec).at F).post enc Tryd.prog Tryd.f9 false true false false) := by
  obtain ⟨places, hx⟩ := reads os enc
  refine returnsInHanded_of_row (C := Tryd.checked) (s := OpenSpec.ofChange Rows.aeadTurnedSpec) own started (by kernel_rfl) Tryd.func9
    (witness_row_at (enc := enc) (C := Tryd.checked) false (laidWorld os) #[.agg (plC (List.replicate 32 0) 0 (List.replicate 12 0)), .string ByteArray.empty, .int .i64 0] rfl (by kernel_rfl) (by kernel_rfl) (by kernel_rfl)
      (OpenSpec.preRow_of_cond 8 hx (by kernel_rfl) (fun k hk => by cases hk) (by kernel_rfl) (laid_met os))) ?_
  intro W base args ds gs before hval hW _ _ _ hL _ _
  exact contract H enc W base args ds gs before hval hW hL

theorem said : Rows.AeadTurnedSaid :=
  OpenClaim.holds_of_cond 9 Tryd.f9 rfl rfl rfl rfl rfl rfl rfl ⟨rfl, rfl, rfl, rfl, rfl⟩ rfl rfl rfl rfl rfl (by kernel_rfl) Tryd.func9 (by kernel_rfl)
    (of_decide_eq_true (by kernel_rfl)) (by unfold Func.isWrapper; first | (rw [if_pos (by decide +kernel)]; kernel_rfl) | (rw [if_neg (by decide +kernel)]; exact ⟨rfl, rfl⟩))
    (fun os started H enc _ F => by rw [OpenClaim.pre_eq_preRow]; exact lifted os started H enc F)

theorem plain (f : FuncId) (fn : Func) (hf : Tryd.pinned.checked.prog.funcNamed "sealwax/sealwaxlaw05.AeadTurned" = some f) (hfn : Tryd.pinned.checked.prog.funcs[f]? = some fn) :
    false = Tryd.pinned.checked.prog.looks [] ∧ ∀ (j : Nat) t, fn.params[j]? = some t → Tryd.pinned.checked.prog.wantsStandIn t = false := by
  obtain rfl : f = 9 := Option.some.inj ((show Tryd.prog.funcNamed "sealwax/sealwaxlaw05.AeadTurned" = some 9 by kernel_rfl).symm.trans hf) |>.symm
  obtain rfl : fn = Tryd.f9 := (Option.some.inj (Tryd.func9.symm.trans hfn)).symm
  refine ⟨by kernel_rfl, fun j t ht => ?_⟩
  rw [Tryd.params9] at ht
  have hmem := Array.mem_of_getElem? ht
  exact (show ∀ t ∈ (Tryd.f9.params), Tryd.prog.wantsStandIn t = false from by rw [Tryd.params9]; decide +kernel) t (by rw [Tryd.params9]; exact hmem)

theorem card : Rows.AeadTurnedCardSaid :=
  Claim7.holds_tied_plain_at .later [] _ _ _ _ said (fun _ h => by cases h) (by kernel_rfl) (fun _ h => by cases h) aeadTurned_row_tie rfl ⟨rfl, rfl⟩ (by kernel_rfl) rfl plain (by kernel_rfl)

end AeadTurned
theorem aeadTurned_card : Rows.AeadTurnedCardSaid := AeadTurned.card
end Go.Proofs.YtiolflofkoeffaaDoor
