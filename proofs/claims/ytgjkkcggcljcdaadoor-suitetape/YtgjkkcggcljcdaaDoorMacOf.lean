/-
  Layer 2: what mac.Of returns.
-/
import Derived.Test.YtgjkkcggcljcdaaDoorBase
import Derived.Test.YtgjkkcggcljcdaaDoorMacFns
import Derived.Test.YtgjkkcggcljcdaaDoorLShaAdds
namespace Go.Proofs.YtgjkkcggcljcdaaDoor
open Go.RowKit
open Go.Lib (hid)

theorem Row.range {w : World} {b : Nat} {k : IntKind} {t : TypeId} {l : List Nat} (h : Row w b k t l) : w.rangeAt b 0 (ints k l).toList := by
  intro j v hj
  rw [Nat.zero_add, cell_of_row w b j _ _ _ h, ← Array.getElem?_toList]; exact hj
theorem Row.there {w : World} {b : Nat} {k : IntKind} {t : TypeId} {l : List Nat} (h : Row w b k t l) (n : Nat) (hn : l.length = n) : w.there b 0 n := by
  intro j hj
  rw [Nat.zero_add]
  exact ⟨by rw [h.cell j (by omega)]; rfl, h.free j⟩
theorem Below.setCells {B b : Nat} {u : World} : ∀ (vs : List Value) (o : Nat) (w : World), Below B u w → B ≤ b → Below B u (w.setCells b o vs)
  | [], _, _, h, _ => h
  | v :: vs, o, w, h, hb => Below.setCells vs (o + 1) (w.setCell ⟨b, o, none⟩ v) (h.setCell hb v) hb
theorem rangeAt_below {w w' : World} {b : Nat} {l : List Value} (h : w.rangeAt b 0 l) (hb : Below w.heap.size w w') (hlt : b < w.heap.size) : w'.rangeAt b 0 l :=
  fun j v hj => (hb.cell hlt).trans (h j v hj)
theorem there_below {w w' : World} {b n : Nat} (h : w.there b 0 n) (hb : Below w.heap.size w w') (hlt : b < w.heap.size) : w'.there b 0 n :=
  fun j hj => ⟨by rw [hb.cell (p := ⟨b, 0 + j, none⟩) hlt]; exact (h j hj).1, by rw [hb.frozen (p := ⟨b, 0 + j, none⟩) hlt]; exact (h j hj).2⟩

theorem results_cell_range {fn : Func} {p : Tmp} {ty : TypeId} (h : fn.results = #[.cell p ty]) (tmps : Array Value) (w : World) (b : Nat) (cs : List Value) (d : TypeDesc)
    (hp : tmps.getD p undef = .pointer (some ⟨b, 0, none⟩)) (hc : w.rangeAt b 0 cs) (hu : Tryd.prog.underlying ty = some d) (hd : d.isRow = true) (hi : (Tryd.prog.info? ty).map (·.size) = some cs.length) :
    (results fn tmps).run Tryd.prog w = .ok (.agg cs.toArray) w := by
  have hp' : tmps[p]?.getD undef = .pointer (some ⟨b, 0, none⟩) := by simpa using hp
  simp [results, h, hp', asAddr, run_loadVar_mid w b 0 ty cs d hc hu hd hi]

/-- What a region with calls keeps: a row that is read, a row that will be written, the old memory, the tables. -/
theorem keep_below {b B : Nat} {l : List Value} {n : Nat} {u w w' : World} (h : w.rangeAt b 0 l ∧ w.there B 0 n ∧ Below B u w ∧ Tabs w ∧ b < w.heap.size ∧ B < w.heap.size) (hb : Below w.heap.size w w') :
    w'.rangeAt b 0 l ∧ w'.there B 0 n ∧ Below B u w' ∧ Tabs w' ∧ b < w'.heap.size ∧ B < w'.heap.size := by
  obtain ⟨h1, h2, h3, h4, h5, h6⟩ := h
  have := hb.size
  exact ⟨rangeAt_below h1 hb h5, there_below h2 hb h6, h3.trans (hb.mono (by omega)), h4.below hb (Nat.le_refl _), by omega, by omega⟩
theorem keep_store {b B : Nat} {l : List Value} {n : Nat} {u w : World} (h : w.rangeAt b 0 l ∧ w.there B 0 n ∧ Below B u w ∧ Tabs w ∧ b < w.heap.size ∧ B < w.heap.size) (hbB : b ≠ B) (hg : 2 < B ∧ 3 < B) (vs : List Value) :
    (w.setCells B 0 vs).rangeAt b 0 l ∧ (w.setCells B 0 vs).there B 0 n ∧ Below B u (w.setCells B 0 vs) ∧ Tabs (w.setCells B 0 vs) ∧ b < (w.setCells B 0 vs).heap.size ∧ B < (w.setCells B 0 vs).heap.size := by
  obtain ⟨h1, h2, h3, h4, h5, h6⟩ := h
  have hb : Below B w (w.setCells B 0 vs) := Below.setCells vs 0 w (Below.refl _ _) (Nat.le_refl _)
  have := hb.size
  exact ⟨World.rangeAt_setCells_apart h1 _ _ _ (Or.inl hbB), World.there_setCells h2 _ _ _, h3.trans hb, h4.below2 hb hg.1 hg.2, by omega, by omega⟩

theorem of_one' (x : List Nat) (hx : ∀ y ∈ x, y < 256) (hl : x.length ≤ 100000000000) (w : World) (hT : Tabs w) (t : TypeId) :
    Calls Tryd.prog 49 #[.slice (some ⟨w.heap.size, 0, none⟩) 1 1] (w.alloc (.cells #[.string (str x)] t)) fun e w' => e = .returned (.agg (ints .u8 (Sx.digest x))) ∧ Below (w.alloc (.cells #[.string (str x)] t)).heap.size (w.alloc (.cells #[.string (str x)] t)) w' := by
  have h := of_any [x] (some ⟨w.heap.size, 0, none⟩) 1 (by simpa using hx) (w.alloc (.cells #[.string (str x)] t)) (hT.below ((Below.refl _ _).alloc (Nat.le_refl _) _) (Nat.le_refl _)) (strs_one w x t) (by simp; omega) (by simp)
  simp only [List.flatten_cons, List.flatten_nil, List.append_nil] at h
  exact h
theorem of_two' (x y : List Nat) (hx : ∀ z ∈ x, z < 256) (hy : ∀ z ∈ y, z < 256) (hl : x.length + y.length ≤ 100000000000) (w : World) (hT : Tabs w) (t : TypeId) :
    Calls Tryd.prog 49 #[.slice (some ⟨w.heap.size, 0, none⟩) 2 2] (w.alloc (.cells #[.string (str x), .string (str y)] t)) fun e w' => e = .returned (.agg (ints .u8 (Sx.digest (x ++ y)))) ∧ Below (w.alloc (.cells #[.string (str x), .string (str y)] t)).heap.size (w.alloc (.cells #[.string (str x), .string (str y)] t)) w' := by
  have h := of_any [x, y] (some ⟨w.heap.size, 0, none⟩) 2 (by simp only [List.flatten_cons, List.flatten_nil, List.append_nil, List.mem_append]; rintro z (hz | hz); exact hx z hz; exact hy z hz) (w.alloc (.cells #[.string (str x), .string (str y)] t)) (hT.below ((Below.refl _ _).alloc (Nat.le_refl _) _) (Nat.le_refl _)) (strs_two w x y t) (by simp; omega) (by simp)
  simp only [List.flatten_cons, List.flatten_nil, List.append_nil] at h
  exact h

theorem shortK_lt (k : List Nat) (h : ∀ x ∈ k, x < 256) : ∀ x ∈ Sx.shortK k, x < 256 := by
  unfold Sx.shortK; split
  · exact digest_lt k
  · exact h
theorem shortK_le (k : List Nat) : (Sx.shortK k).length ≤ 64 := by
  unfold Sx.shortK; split
  · rw [digest_length]; omega
  · omega
theorem maskK_length (k : List Nat) (m : Nat) : (Sx.maskK k m).length = 64 := by rw [← maskP_full, maskP_length k m 64 (by omega)]
theorem maskK_lt (k : List Nat) (m : Nat) (h : ∀ x ∈ k, x < 256) (hm : m < 256) : ∀ x ∈ Sx.maskK k m, x < 256 := by
  intro x hx
  have hx' : x ∈ (padK k).map (· ^^^ m) := hx
  simp only [List.mem_map] at hx'
  obtain ⟨y, hy, rfl⟩ := hx'
  exact Nat.xor_lt_two_pow (n := 8) (padK_lt k h y hy) hm

set_option maxRecDepth 100000 in
set_option maxHeartbeats 2000000 in
theorem mac_any (k : List Nat) (hk : ∀ x ∈ k, x < 256) (hkl : k.length ≤ 1000000) (L : List (List Nat)) (ao : Option Addr) (cap : Nat) (hl : ∀ x ∈ L.flatten, x < 256) (w : World) (hT : Tabs w) (hA : Strs w ao L) (hlen : L.flatten.length ≤ 1000000000) (hL : L.length ≤ 1000000000) :
    Calls Tryd.prog 26 #[.string (str k), .slice ao L.length cap] w fun e w' => e = .returned (.agg (ints .u8 (Sx.hmac k L.flatten))) ∧ Below w.heap.size w w' := by
  have hz := zero40
  have HT := hid hT
  have HA := hid hA
  have HK := hid hk
  have HL := hid hl
  clear hT hA hk hl
  have HSL := hid (shortK_le k)
  have HSK := hid (shortK_lt k HK.out)
  go_enter Tryd.func26, Tryd.ntmps26
  go_upto_region 1 with (fail)
  generalize hw0 : w.alloc _ = w0
  have ro : Row w0 w.heap.size .u8 37 (List.replicate 32 0) := by rw [← hw0]; unfold Row; rw [heap_alloc_new]; kernel_rfl
  have hb0 : Below w.heap.size w w0 := by rw [← hw0]; exact (Below.refl _ _).alloc (Nat.le_refl _) _
  clear hw0
  have RO := hid ro
  have HB0 := hid hb0
  clear ro hb0
  go_wp2_with fail
  refine (short_any k HK.out hkl _ (HT.out.below HB0.out (Nat.le_refl _))).mono ?_
  rintro e w1 ⟨rfl, hb1⟩
  obtain ⟨K, hKe⟩ : ∃ K, K = Sx.shortK k := ⟨_, rfl⟩
  rw [← hKe] at HSL HSK ⊢
  have HKE := hid hKe
  clear hKe
  have RO1 := hid (RO.out.below hb1 RO.out.lt)
  have HB1 := hid (HB0.out.next (Nat.le_refl _) hb1)
  clear hb1
  go_upto_region 3 with (fail)
  have hst : Stt (w1.alloc (.cells stZ 103)) w1.heap.size [] := stt_zero (heap_alloc_new _ _)
  have hb2 : Below w1.heap.size w1 (w1.alloc (.cells stZ 103)) := (Below.refl _ _).alloc (Nat.le_refl _) _
  generalize hw2 : w1.alloc _ = w2 at *
  clear hw2 hz
  have hsz1 : w.heap.size < w1.heap.size := RO1.out.lt
  have hg : 2 < w1.heap.size ∧ 3 < w1.heap.size := by have := HT.out.lt; omega
  have HB2 := hid (HB1.out.next (Nat.le_refl _) hb2)
  have HT2 := hid (HT.out.below HB2.out (Nat.le_refl _))
  have HST := hid hst
  have RO2 := hid (RO1.out.below hb2 RO1.out.lt)
  have hlt2 := hst.lt
  generalize w1.heap.size = b5 at *
  clear hst hb2 RO1 HB1
  go_wp2_with fail
  refine (masked_any K HSK.out HSL.out 54 (by decide) (by decide) _).mono ?_
  rintro e w3 ⟨rfl, hb3⟩
  have HB3 := hid (HB2.out.next (Nat.le_refl _) hb3)
  have HT3 := hid (HT.out.below HB3.out (Nat.le_refl _))
  have HST3 := hid (HST.out.below hb3)
  have RO3 := hid (RO2.out.below hb3 RO2.out.lt)
  clear hb3 RO2
  have HAD := hid (add_one b5 [] (Sx.maskK K 54) (maskK_lt K 54 HSK.out (by decide)) (by rw [maskK_length]; decide) w3 HT3.out hg HST3.out 9)
  rw [List.nil_append] at HAD
  go_wp2_with fail
  refine HAD.out.mono ?_
  rintro e w4 ⟨rfl, hs4, hk4⟩
  have HB4 := hid (HB3.out.trans (hk4.below (by omega) HB3.out.size))
  have HT4 := hid (HT.out.below HB4.out (Nat.le_refl _))
  have RO4 := hid (RO3.out.keptB hk4 (by omega))
  have HS4 := hid hs4
  clear hk4 hs4 HAD RO3
  have HAD := hid (add_any b5 (Sx.maskK K 54) L ao cap HL.out w4 HT4.out hg HS4.out (HA.out.below HB4.out) (by rw [maskK_length]; omega) (by omega))
  go_wp2_with fail
  refine HAD.out.mono ?_
  rintro e w5 ⟨rfl, hs5, hk5⟩
  have HB5 := hid (HB4.out.trans (hk5.below (by omega) HB4.out.size))
  have HT5 := hid (HT.out.below HB5.out (Nat.le_refl _))
  have RO5 := hid (RO4.out.keptB hk5 (by omega))
  have HS5 := hid hs5
  clear hk5 hs5 HAD RO4
  go_wp2_with fail
  refine (stsum_any b5 (Sx.maskK K 54 ++ L.flatten) _ HT5.out HS5.out (by rw [List.length_append, maskK_length]; omega)).mono ?_
  rintro e w6 ⟨rfl, hb6⟩
  have HB6 := hid (HB5.out.next (Nat.le_refl _) hb6)
  have RO6 := hid (RO5.out.below hb6 RO5.out.lt)
  have HDL := hid (digest_length (Sx.maskK K 54 ++ L.flatten))
  have HDT := hid (digest_lt (Sx.maskK K 54 ++ L.flatten))
  have HHM := hid (show Sx.hmac k L.flatten = Sx.digest (Sx.maskK K 92 ++ Sx.digest (Sx.maskK K 54 ++ L.flatten)) from by unfold Sx.hmac; rw [← HKE.out])
  generalize hD : Sx.digest (Sx.maskK K 54 ++ L.flatten) = D at *
  clear hb6 RO5 hD
  go_upto_region 4 with (refine wpList_store_row rfl _ _ _ rfl _ _ rfl rfl _ _ (heap_alloc_new _ _) (by rw [ints_size, HDL.out]; exact info26M) (by rw [ints_size, HDL.out]; rfl) (ints_one _ _) ?_)
  rw [World.setRow_alloc_new]
  have rd : Row (w6.alloc (.cells (ints .u8 D) 37)) w6.heap.size .u8 37 D := heap_alloc_new _ _
  have hb7 : Below w6.heap.size w6 (w6.alloc (.cells (ints .u8 D) 37)) := (Below.refl _ _).alloc (Nat.le_refl _) _
  generalize hw7 : w6.alloc _ = w7 at *
  clear hw7
  have HB7 := hid (HB6.out.next (Nat.le_refl _) hb7)
  have ro7 := RO6.out.below hb7 RO6.out.lt
  have HT7 := hid (HT.out.below HB7.out (Nat.le_refl _))
  have hlt7 := RO6.out.lt
  have hlt8 := rd.lt
  generalize w6.heap.size = b6 at *
  clear hb7 RO6
  have hu26 := Tryd.underlying37
  have hi26 : (Tryd.prog.info? 37).map (·.size) = some (ints .u8 D).toList.length := by rw [ints_llen, HDL.out]; exact info26M
  have rA := rd.range
  have rT := ro7.there 32 (by simp)
  have hB7 := HB7.out
  have hT7 := HT7.out
  have hgB := HT.out.lt
  have hS0 : w7.rangeAt b6 0 (ints .u8 D).toList ∧ w7.there w.heap.size 0 32 ∧ Below w.heap.size w w7 ∧ Tabs w7 ∧ b6 < w7.heap.size ∧ w.heap.size < w7.heap.size := ⟨rA, rT, hB7, hT7, hlt8, by omega⟩
  have HS0 := hid hS0
  have hne : b6 ≠ w.heap.size := by omega
  have hmk := maskK_length K 92
  obtain ⟨V, hV⟩ : ∃ V, V = (ints .u8 (Sx.digest (Sx.maskK K 92 ++ D))).toList := ⟨_, rfl⟩
  have HV := hid (show ints .u8 (Sx.digest (Sx.maskK K 92 ++ D)) = V.toArray from by rw [hV])
  have hVl : V.length = 32 := by rw [hV, ints_llen, digest_length]
  have hV1 : ∀ v ∈ V, v.oneCell' = true := by
    intro v hv
    rw [hV] at hv
    simp only [ints, List.mem_map] at hv
    obtain ⟨y, _, rfl⟩ := hv
    rfl
  have hVi : (Tryd.prog.info? 37).map (·.size) = some V.length := by rw [hVl]; exact info26M
  clear hV
  clear hS0 hB7 hT7 rA rT
  go_region_held3 (fun w' => w'.rangeAt b6 0 (ints .u8 D).toList ∧ w'.there w.heap.size 0 32 ∧ Below w.heap.size w w' ∧ Tabs w' ∧ b6 < w'.heap.size ∧ w.heap.size < w'.heap.size)
    (first | exact keep_below HS0.out ((Below.refl _ _).drew) | exact keep_below (by assumption) (by assumption) | exact keep_below (by assumption) ((Below.refl _ _).alloc (Nat.le_refl _) _) | exact keep_store (by assumption) hne hgB _)
    (first
      | (go_at_call 47; refine (masked_any K HSK.out HSL.out 92 (by decide) (by decide) _).mono ?_; rintro e w8 ⟨rfl, hb8⟩)
      | (go_at_call 50; refine (mtext_any D HDL.out _).mono ?_; rintro e w9 ⟨rfl, hb9⟩)
      | (go_at_call 49; refine (of_two' (Sx.maskK K 92) D (maskK_lt K 92 HSK.out (by decide)) HDT.out (by rw [hmk, HDL.out]; decide) _ (((HT7.out.below ((Below.refl _ _).drew) (Nat.le_refl _)).below hb8 (Nat.le_refl _)).below hb9 (Nat.le_refl _)) 9).mono ?_; rintro e w10 ⟨rfl, hb10⟩; rw [HV.out]))
  have k1 := keep_below HS0.out ((Below.refl _ _).drew)
  have k2 := keep_below k1 hb8
  have k3 := keep_below k2 hb9
  have k4 := keep_below (keep_below k3 ((Below.refl _ _).alloc (Nat.le_refl _) _)) hb10
  have hth : w10.there w.heap.size 0 V.length := by
    rw [hVl]; exact k4.2.1
  have hrg := World.rangeAt_setCells_same w10 w.heap.size 0 V hth
  have HBE := hid (Below.setCells V 0 w10 k4.2.2.1 (Nat.le_refl _))
  clear hth k1 k2 k3 k4
  go_wp2
  refine bodyPost_ret (v := .agg V.toArray) (results_cell_range Tryd.results26 _ _ w.heap.size _ _ rfl hrg hu26 rfl hVi) rfl ⟨by rw [HHM.out, HV.out], HBE.out⟩
end Go.Proofs.YtgjkkcggcljcdaaDoor
