/-
  Layer 4: what poly.Of returns.
-/
import Derived.Test.YtiolflofkoeffaaDoorPoly11
namespace Go.Proofs.YtiolflofkoeffaaDoor
open Go.RowKit
open Go.Lib (hid)

/-- The tag of a text under a key. -/
def Px.of (key x : List Nat) : List Nat := Px.tagOf (Px.rOf key) (Px.sOf key) x
theorem Px.of_length (key x : List Nat) : (Px.of key x).length = 16 := Px.tagOf_length _ _ _
theorem Px.of_lt (key x : List Nat) : ∀ c ∈ Px.of key x, c < 256 := Px.tagOf_lt _ _ _
theorem info22 : (Tryd.prog.info? 22).map (·.size) = some 32 := by kernel_rfl

set_option maxHeartbeats 2000000 in
set_option maxRecDepth 100000 in
theorem pof_any (key : List Nat) (hk : ∀ x ∈ key, x < 256) (hl : key.length = 32) (ao : Option Addr) (L : List (List Nat)) (cap : Nat) (hL : L.length ≤ 1000) (hx : ∀ x ∈ L.flatten, x < 256) (w : World) (hT : TabK w) (hA : Strs w ao L) :
    Calls Tryd.prog 15 #[.agg (ints .u8 key), .slice ao L.length cap] w fun e w' => e = .returned (.agg (ints .u8 (Px.of key L.flatten))) ∧ Below w.heap.size w w' := by
  have hks : (ints .u8 key).size = 32 := by rw [ints_size, hl]
  have HTE : Hid (∀ _ : Nat, Px.of key L.flatten = Px.tagOf (Px.rOf key) (Px.sOf key) L.flatten) := fun _ => rfl
  have hts : (ints .u8 (Px.of key L.flatten)).size = 16 := by rw [ints_size, Px.of_length]
  generalize Px.of key L.flatten = T at *
  have HST := hid (fun wx hx => pstart_any key hk hl wx hx)
  have hrl : (Px.rOf key).length = 5 := Px.numberOf_length _
  have hsl : (Px.sOf key).length = 5 := Px.numberOf_length _
  have hro : Px.Ok (Px.rOf key) := Px.ok_numberOf _
  have hso : Px.Ok (Px.sOf key) := Px.ok_numberOf _
  generalize Px.rOf key = R at *
  generalize Px.sOf key = S at *
  have hps : (pC R S (List.replicate 5 0) (List.replicate 17 0) 0).size = 33 := by
    rw [← Array.length_toList, pC_c]; simp only [List.length_append, ints_llen, hrl, hsl, List.length_replicate, List.length_cons, List.length_nil]
  have HPO := hid (pC_one R S (List.replicate 5 0) (List.replicate 17 0) 0)
  have HTK := hid (fun q x t wx h1 h2 h3 => ptake_any q R S x t hrl hsl hro hso h1 h2 wx h3)
  have HTG := hid (fun q x wx h1 h3 => ptag_any q R S x hrl hsl hro hso h1 wx h3)
  have HT := hid hT
  have HA := hid hA
  have HX := hid hx
  have HPI := hid (show ∀ (wx : World) (q : Nat), wx.heap[q]? = some (.cells (pC R S (List.replicate 5 0) (List.replicate 17 0) 0) 70 (0, 0)) → PSt wx q R S [] from fun wx q h => h)
  clear hrl hsl hro hso hk hT hA hx
  generalize pC R S (List.replicate 5 0) (List.replicate 17 0) 0 = PC at *
  go_enter Tryd.func15, Tryd.ntmps15
  go_upto_region 1 with (fail)
  generalize hw0 : (w.alloc _).alloc _ = w0
  have rk : Row w0 w.heap.size .u8 22 key := by rw [← hw0]; unfold Row; rw [heap_alloc2_old]
  have HRZ := hid (show Row w0 (w.heap.size + 1) .u8 37 (List.replicate 16 0) from by rw [← hw0]; unfold Row; rw [heap_alloc2_new]; kernel_rfl)
  have hb0 : Below w.heap.size w w0 := by rw [← hw0]; exact ((Below.refl _ _).alloc (Nat.le_refl _) _).alloc (by simp) _
  clear hw0
  have HB0 := hid hb0
  clear hb0
  go_upto_region 2 with (first
    | (refine wpList_load_row rfl _ _ rfl w.heap.size rfl _ _ _ _ rk Tryd.underlying22 rfl (by rw [hks]; exact info22) ?_)
    | (go_at_call 34; refine (HST.out _ (HT.out.below HB0.out (Nat.le_refl _))).mono ?_; rintro e w1 ⟨rfl, k1⟩; have HK1 := hid k1; clear k1)
    | (refine wpList_store_row rfl _ _ _ rfl w1.heap.size _ rfl rfl _ _ (heap_alloc_new _ _) (by rw [hps]; exact info84) (by rw [hps]; rfl) HPO.out ?_))
  generalize hw2 : (w1.alloc _).setRow _ _ = w2
  have HP2 := hid (show PSt w2 w1.heap.size R S [] from HPI.out w2 w1.heap.size (by rw [← hw2]; exact setRow_heap _ _ _ _ _ _ (heap_alloc_new _ _)))
  have HB1 := hid (HB0.out.trans (HK1.out.mono HB0.out.size))
  have HZ1 := hid (HRZ.out.below HK1.out HRZ.out.lt)
  have hq : w.heap.size + 1 < w1.heap.size := HZ1.out.lt
  have HZ2 := hid (show Row w2 (w.heap.size + 1) .u8 37 (List.replicate 16 0) from by
    rw [← hw2]; unfold Row; rw [setRow_other _ _ _ _ (by omega)]; exact HZ1.out.alloc _)
  have HB2 := hid (show Below w.heap.size w w2 from by rw [← hw2]; exact below_setRow (HB1.out.alloc HB1.out.size _) (by omega) _)
  have HQ := hid hq
  clear hw2 hq rk HRZ HB0 HK1 HB1 HZ1 HST HPI
  generalize w1.heap.size = q at *
  go_upto_region 3 with (fail)
  go_loopw [12] (fun i wr => ∃ k : Nat, k ≤ L.length ∧ i = .int .i64 k ∧ PSt wr q R S (L.take k).flatten ∧ Row wr (w.heap.size + 1) .u8 37 (List.replicate 16 0) ∧ Below w.heap.size w wr)
    (fun i _ => L.length - (intOf i).toNat)
  case atStart => exact ⟨0, by omega, rfl, HP2.out, HZ2.out, HB2.out⟩
  case round =>
    clear HP2 HZ2 HB2
    obtain ⟨k, hk, rfl, hp, rz, hbel⟩ := hrel
    by_cases hlt : k < L.length
    · obtain ⟨sb, so, hao, hc⟩ := HA.out.below hbel k hlt
      subst hao
      have HNX := hid (flatten_take_succ L k hlt)
      have hb1 : ∀ x ∈ (L.take k).flatten, x < 256 := fun x hx => HX.out x (by
        rw [← List.take_append_drop k L, List.flatten_append]; exact List.mem_append_left _ hx)
      have hb2 : ∀ x ∈ L.getD k [], x < 256 := fun x hx => HX.out x (getD_mem_flatten L k x hx)
      have HC := hid (HTK.out q (L.take k).flatten (L.getD k []) wr hb1 hb2 hp)
      rw [← HNX.out] at HC
      have HRZ := hid rz
      have HBL := hid hbel
      clear hp rz hbel hb1 hb2 HNX
      generalize str (L.getD k []) = ST at *
      go_wp2_with (go_at_call 35; refine HC.out.mono ?_; rintro e w3 ⟨rfl, hp3, hk3⟩)
      go_roundw
      case rel =>
        first
          | exact ⟨k + 1, by omega, by go_num, hp3, HRZ.out.keptB hk3 (by have := HQ.out; omega), HBL.out.trans (hk3.below (by have := HQ.out; omega) HBL.out.size)⟩
          | ((repeat apply Exists.intro); refine ⟨?_, rfl⟩; exact ⟨k + 1, by omega, by go_num, hp3, HRZ.out.keptB hk3 (by have := HQ.out; omega), HBL.out.trans (hk3.below (by have := HQ.out; omega) HBL.out.size)⟩)
      case measure => simp [intOf]; omega
    · obtain rfl : k = L.length := by omega
      rw [List.take_length] at hp
      have HC := hid (HTG.out q L.flatten wr HX.out hp)
      rw [← HTE.out 0] at HC
      have HRZ := hid rz
      have HBL := hid hbel
      clear hp rz hbel HTE
      go_wp2_with (first
        | (go_at_call 36; refine HC.out.mono ?_; rintro e w3 ⟨rfl, k3⟩; have z3 := HRZ.out.keptB k3 (by have := HQ.out; omega); have HK3 := hid k3; clear k3)
        | (refine wpList_store_row rfl _ _ _ rfl (w.heap.size + 1) _ rfl rfl _ _ z3 (by rw [hts]; exact info48) (by rw [hts, ints_size, List.length_replicate]) (ints_one _ _) ?_))
      exact bodyPost_ret (v := .agg (ints .u8 T))
        (results_cell_row Tryd.results15 _ _ (w.heap.size + 1) _ _ _ _ rfl (setRow_heap w3 (w.heap.size + 1) _ _ _ _ z3) Tryd.underlying37 rfl (by rw [hts]; exact info48))
        rfl ⟨rfl, below_setRow (HBL.out.trans (HK3.out.below (by have := HQ.out; omega) HBL.out.size)) (Nat.le_succ _) _⟩
end Go.Proofs.YtiolflofkoeffaaDoor
