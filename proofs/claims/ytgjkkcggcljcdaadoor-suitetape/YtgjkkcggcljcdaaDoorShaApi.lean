/-
  Layer 1: what (State).Add, Len, Clone, Sum and sha.Of do.
-/
import Derived.Test.YtgjkkcggcljcdaaDoorBase
import Derived.Test.YtgjkkcggcljcdaaDoorShaTake
namespace Go.Proofs.YtgjkkcggcljcdaaDoor
open Go.RowKit
open Go.Lib (hid)

theorem stC_int (a r : List Nat) (n i : Nat) (v : Value) (h : (stC a r n)[i]? = some v) : ∀ s, v ≠ .string s := by
  intro s hs
  subst hs
  have := Array.mem_of_getElem? h
  simp [stC, ints] at this
theorem Strs.kept {w w' : World} {b : Nat} {ao : Option Addr} {L : List (List Nat)} {t : List Nat} (h : Strs w ao L) (hS : Stt w b t) (hk : KeptB b w w') : Strs w' ao L := by
  intro i hi
  obtain ⟨sb, so, ha, hc⟩ := h i hi
  refine ⟨sb, so, ha, ?_⟩
  have hne : sb ≠ b := by
    rintro rfl
    obtain ⟨a, r, hh, _⟩ := hS
    rw [cell_of_row w sb _ _ _ _ hh] at hc
    exact stC_int _ _ _ _ _ hc _ rfl
  rw [← hc]
  exact World.cell?_of_block (w := w) (hk.block sb (block_lt_of_cell hc) hne)

set_option maxRecDepth 100000 in
set_option maxHeartbeats 1000000 in
theorem add_any (b : Nat) (t : List Nat) (L : List (List Nat)) (ao : Option Addr) (cap : Nat) (hl : ∀ x ∈ L.flatten, x < 256) (w : World) (hT : Tabs w) (hb : 2 < b ∧ 3 < b) (hS : Stt w b t)
    (hA : Strs w ao L) (hlen : t.length + L.flatten.length ≤ 1000000000000000) (hL : L.length ≤ 1000000000000000) :
    Calls Tryd.prog 46 #[.pointer (some ⟨b, 0, none⟩), .slice ao L.length cap] w fun e w' => e = .returned (.pointer (some ⟨b, 0, none⟩)) ∧ Stt w' b (t ++ L.flatten) ∧ KeptB b w w' := by
  have HT := hid hT
  have HS := hid hS
  have HL := hid hl
  have HA := hid hA
  clear hT hS hl hA
  go_enter Tryd.func46, Tryd.ntmps46
  go_wp2
  go_loopw [9] (fun i wr => ∃ k : Nat, k ≤ L.length ∧ i = .int .i64 k ∧ Stt wr b (t ++ (L.take k).flatten) ∧ KeptB b w wr)
    (fun i _ => L.length - (intOf i).toNat)
  case atStart => exact ⟨0, Nat.zero_le _, rfl, by simpa using HS.out, KeptB.refl _ _⟩
  case round =>
    obtain ⟨k, hk, rfl, hst, hkept⟩ := hrel
    by_cases hlt : k < L.length
    · obtain ⟨sb, so, rfl, hc⟩ := (HA.out.kept HS.out hkept) k hlt
      have hT' := HT.out.keptB hkept hb
      have hfl := flatten_take_succ L k hlt
      have hle := flatten_take_le L (k + 1)
      rw [hfl] at hle
      simp only [List.length_append] at hle
      have htk := take_any b (t ++ (L.take k).flatten) (L.getD k []) (fun x hx => HL.out x (getD_mem_flatten L k x hx)) wr hT' hb hst (by rw [List.length_append]; omega)
      rw [List.append_assoc, ← hfl] at htk
      have HTK := hid htk
      have HST := hid hst
      have HK := hid hkept
      clear htk hst hkept hT' hfl hle
      generalize L.getD k [] = x at *
      go_wp2_with (go_at_call 62; refine HTK.out.mono ?_; rintro e w' ⟨rfl, hst', hk'⟩)
      go_roundw
      case rel => exact ⟨k + 1, by omega, by go_num, hst', HK.out.trans hk'⟩
      case measure => simp [intOf]; omega
    · obtain rfl : k = L.length := by omega
      rw [List.take_length] at hst
      have HST := hid hst
      have HK := hid hkept
      clear hst hkept
      go_wp2
      go_ret
      exact ⟨rfl, HST.out, HK.out⟩

theorem info40 : (Tryd.prog.info? 103).map (·.size) = some 73 := by kernel_rfl

/-- A State that has received nothing. -/
def stZ : Array Value := stC (List.replicate 8 0) (List.replicate 64 0) 0
theorem zero40 (w : World) : (zeroValue 103).run Tryd.prog w = .ok (.agg stZ) w := by kernel_rfl
theorem stZ_size : stZ.size = 73 := by kernel_rfl
theorem stt_zero {w : World} {b : Nat} (h : w.heap[b]? = some (.cells stZ 103 (0, 0))) : Stt w b [] := ⟨_, _, h, Sx.Inv.zero⟩

theorem sum_digest (t a r : List Nat) (hv : Sx.Inv (t ++ Sx.ending t.length) a r) : Sx.out (Sx.addM a Sx.H0) = Sx.digest t := by
  rw [hv.run]; rfl
theorem runB_length (t : List Nat) (k : Nat) : (Sx.runB t k).length = 8 := by
  induction k with
  | zero => rfl
  | succ k ih => simp only [Sx.runB, Sx.compress]; rw [Sx.addM_length, ih]; rfl
theorem digest_length (t : List Nat) : (Sx.digest t).length = 32 := by
  unfold Sx.digest; rw [Sx.out_length, runB_length]
theorem ending_lt (n : Nat) : ∀ x ∈ Sx.ending n, x < 256 := by
  have hbe : ∀ k m, ∀ x ∈ Sx.be m k, x < 256 := by
    intro k
    induction k with
    | zero => intro m x hx; simp [Sx.be] at hx
    | succ k ih =>
      intro m x hx
      simp only [Sx.be, List.mem_append, List.mem_singleton] at hx
      rcases hx with hx | rfl
      · exact ih _ x hx
      · omega
  intro x hx
  simp only [Sx.ending, List.mem_cons, List.mem_append, List.mem_replicate] at hx
  rcases hx with rfl | ⟨_, rfl⟩ | hx
  · omega
  · omega
  · exact hbe _ _ x hx
theorem ending_length (n : Nat) : (Sx.ending n).length ≤ 72 := by
  simp [Sx.ending, Sx.be_length, Sx.zeros]; omega

set_option maxRecDepth 100000 in
set_option maxHeartbeats 1000000 in
theorem stsum_any (b : Nat) (t : List Nat) (w : World) (hT : Tabs w) (hS : Stt w b t) (hlen : t.length ≤ 100000000000000) :
    Calls Tryd.prog 48 #[.pointer (some ⟨b, 0, none⟩)] w fun e w' => e = .returned (.agg (ints .u8 (Sx.digest t))) ∧ Below w.heap.size w w' := by
  obtain ⟨a, r, hh, hv⟩ := hS
  have hsz := stC_size a r t.length hv.la hv.lr
  have hc := StC.count hh hv.la hv.lr
  have hlt := (Array.getElem?_eq_some_iff.1 hh).1
  have HSZ := hid hsz
  have HV := hid hv
  have HT := hid hT
  have hz := zero40
  clear hsz hv hT
  go_enter Tryd.func48, Tryd.ntmps48
  go_upto_region 1 with (fail)
  generalize hw0 : w.alloc _ = w0
  have ro : Row w0 w.heap.size .u8 37 (List.replicate 32 0) := by rw [← hw0]; unfold Row; rw [heap_alloc_new]; kernel_rfl
  have hb0 : Below w.heap.size w w0 := by rw [← hw0]; exact (Below.refl _ _).alloc (Nat.le_refl _) _
  have hh0 : w0.heap[b]? = some (.cells (stC a r t.length) 103 (0, 0)) := by rw [hb0.block b hlt]; exact hh
  have hsz0 : w0.heap.size = w.heap.size + 1 := by rw [← hw0]; simp
  clear hw0
  have HS0 := hid hsz0
  clear hsz0 hh
  go_upto_region 2 with (first | (refine wpList_load_row rfl _ _ rfl b rfl _ _ _ _ hh0 Tryd.underlying103 rfl (by rw [HSZ.out]; exact info40) ?_) | (refine wpList_store_row rfl _ _ _ rfl _ _ rfl rfl _ _ (heap_alloc_new _ _) (by rw [HSZ.out]; exact info40) (by rw [HSZ.out, stZ_size]) (stC_one _ _ _) ?_))
  rw [World.setRow_alloc_new]
  have hst1 : Stt (w0.alloc (.cells (stC a r t.length) 103)) w0.heap.size t := ⟨a, r, heap_alloc_new _ _, HV.out⟩
  have hb1 : Below w0.heap.size w0 (w0.alloc (.cells (stC a r t.length) 103)) := (Below.refl _ _).alloc (Nat.le_refl _) _
  generalize hw1 : w0.alloc _ = w1 at *
  clear hw1
  have hc1 : w1.cell? ⟨b, 72, none⟩ = some (.int .i64 (t.length : Int)) := (hb1.cell (p := ⟨b, 72, none⟩) (by have := HS0.out; show b < _; omega)).trans ((hb0.cell (p := ⟨b, 72, none⟩) hlt).trans hc)
  have hT1 : Tabs w1 := (HT.out.below hb0 (Nat.le_refl _)).below hb1 (Nat.le_refl _)
  have hg : 2 < w0.heap.size ∧ 3 < w0.heap.size := by have := HT.out.lt; have := HS0.out; omega
  have ro1 := ro.below hb1 ro.lt
  have hbb1 := hb0.trans (hb1.mono (by have := HS0.out; omega))
  have HT1 := hid hT1
  have HST1 := hid hst1
  have RO1 := hid ro1
  have HBB1 := hid hbb1
  have HLT1 := hid (show w0.heap.size < w1.heap.size from by obtain ⟨_, _, h, _⟩ := hst1; exact (Array.getElem?_eq_some_iff.1 h).1)
  clear hT1 hst1 ro1 hbb1 ro hb0 hb1 hh0 hc hz
  generalize hn : t.length = n at *
  have HN := hid hn
  clear hn
  go_upto_region 3 with (first
    | (go_at_call 63; refine (ending_any n (by omega) _).mono ?_; rintro e w2 ⟨rfl, hb2⟩)
    | (go_at_call 62; refine (take_any w0.heap.size t (Sx.ending n) (ending_lt n) _ (HT1.out.below hb2 (Nat.le_refl _)) hg (by obtain ⟨a, r, h, v⟩ := HST1.out; exact ⟨a, r, by rw [hb2.block _ HLT1.out]; exact h, v⟩) (by rw [HN.out]; have := ending_length n; omega)).mono ?_; rintro e w3 ⟨rfl, hst3, hk3⟩))
  obtain ⟨a3, r3, hh3, hv3⟩ := hst3
  have hne : w.heap.size ≠ w0.heap.size := by have := HS0.out; omega
  have hz2 := hb2.size
  have ro3 : Row w3 w.heap.size .u8 37 (List.replicate 32 0) := (RO1.out.below hb2 RO1.out.lt).keptB hk3 hne
  have hT3 : Tabs w3 := (HT1.out.below hb2 (Nat.le_refl _)).keptB hk3 hg
  have hbb3 : Below w.heap.size w w3 := (HBB1.out.trans (hb2.mono (by have := HBB1.out.size; omega))).trans (hk3.below (by have := HS0.out; omega) (by have := HBB1.out.size; omega))
  have hsd := sum_digest t a3 r3 (by rw [HN.out]; exact hv3)
  have hrg := stC_rangeA hh3
  have hla := hv3.la
  have HSD := hid hsd
  have HT3 := hid hT3
  have RO3 := hid ro3
  have HB3 := hid hbb3
  have HLA := hid hla
  have HRG := hid hrg
  have hdl : (ints .u8 (Sx.digest t)).size = 32 := by rw [ints_size, ← hsd, Sx.out_length, Sx.addM_length, hla]; rfl
  have HDL := hid hdl
  clear hdl hh3 hv3 hk3 hb2 hT3 ro3 hbb3 hsd hrg hla hz2 hne HN
  go_wp2_with (first
    | (refine wpList_load_mid rfl _ _ rfl w0.heap.size 0 rfl _ _ HRG.out Tryd.underlying99 rfl (by rw [ints_llen, HLA.out]; exact info36) ?_; rw [Array.toArray_toList])
    | (go_at_call 64; refine (sum_any a3 HLA.out _ HT3.out).mono ?_; rintro e w4 ⟨rfl, hb4⟩; rw [HSD.out])
    | (refine wpList_store_row rfl _ _ _ rfl w.heap.size _ rfl rfl _ _ (RO3.out.below hb4 RO3.out.lt) (by rw [HDL.out]; exact info26M) (by rw [HDL.out]; rfl) (ints_one _ _) ?_))
  refine bodyPost_ret (v := .agg (ints .u8 (Sx.digest t)))
    (results_cell_row Tryd.results48 _ _ w.heap.size _ _ _ _ rfl (setRow_heap _ w.heap.size _ _ _ _ (RO3.out.below hb4 RO3.out.lt)) Tryd.underlying37 rfl (by rw [HDL.out]; exact info26M))
    rfl ⟨rfl, below_setRow (HB3.out.trans (hb4.mono (by have := HB3.out.size; omega))) (Nat.le_refl _) _⟩

set_option maxRecDepth 100000 in
set_option maxHeartbeats 1000000 in
theorem of_any (L : List (List Nat)) (ao : Option Addr) (cap : Nat) (hl : ∀ x ∈ L.flatten, x < 256) (w : World) (hT : Tabs w) (hA : Strs w ao L) (hlen : L.flatten.length ≤ 100000000000000) (hL : L.length ≤ 1000000000000000) :
    Calls Tryd.prog 49 #[.slice ao L.length cap] w fun e w' => e = .returned (.agg (ints .u8 (Sx.digest L.flatten))) ∧ Below w.heap.size w w' := by
  have hz := zero40
  have HT := hid hT
  have HA := hid hA
  clear hT hA
  go_enter Tryd.func49, Tryd.ntmps49
  go_upto_region 2 with (fail)
  generalize hw1 : (w.alloc _).alloc _ = w1
  have hb1 : Below w.heap.size w w1 := by rw [← hw1]; exact ((Below.refl _ _).alloc (Nat.le_refl _) _).alloc (by simp) _
  have ro : Row w1 w.heap.size .u8 37 (List.replicate 32 0) := by rw [← hw1]; unfold Row; rw [heap_alloc2_old]; kernel_rfl
  have hst : Stt w1 (w.heap.size + 1) [] := stt_zero (by rw [← hw1, heap_alloc2_new])
  clear hw1 hz
  have hg : 2 < w.heap.size + 1 ∧ 3 < w.heap.size + 1 := by have := HT.out.lt; omega
  have hT1 := HT.out.below hb1 (Nat.le_refl _)
  have HADD := hid (add_any (w.heap.size + 1) [] L ao cap hl w1 hT1 hg hst (HA.out.below hb1) (by rw [List.length_nil]; omega) hL)
  rw [List.nil_append] at HADD
  have HRO := hid ro
  have HB1 := hid hb1
  have HT1 := hid hT1
  have HST := hid hst
  have hdl : (ints .u8 (Sx.digest L.flatten)).size = 32 := by rw [ints_size, digest_length]
  have HDL := hid hdl
  clear hdl ro hb1 hT1 hst HA
  go_wp2_with (first
    | (go_at_call 46; refine HADD.out.mono ?_; rintro e w2 ⟨rfl, hst2, hk2⟩)
    | (go_at_call 48; refine (stsum_any (w.heap.size + 1) L.flatten _ (HT1.out.keptB hk2 hg) hst2 hlen).mono ?_; rintro e w3 ⟨rfl, hb3⟩)
    | (refine wpList_store_row rfl _ _ _ rfl w.heap.size _ rfl rfl _ _ ((HRO.out.keptB hk2 (by omega)).below hb3 (HRO.out.keptB hk2 (by omega)).lt) (by rw [HDL.out]; exact info26M) (by rw [HDL.out]; rfl) (ints_one _ _) ?_))
  refine bodyPost_ret (v := .agg (ints .u8 (Sx.digest L.flatten)))
    (results_cell_row Tryd.results49 _ _ w.heap.size _ _ _ _ rfl (setRow_heap _ w.heap.size _ _ _ _ ((HRO.out.keptB hk2 (by omega)).below hb3 (HRO.out.keptB hk2 (by omega)).lt)) Tryd.underlying37 rfl (by rw [HDL.out]; exact info26M))
    rfl ⟨rfl, below_setRow ((HB1.out.trans (hk2.below (by omega) (by have := HB1.out.size; omega))).trans (hb3.mono (by have := HB1.out.size; have := hk2.size; omega))) (Nat.le_refl _) _⟩
end Go.Proofs.YtgjkkcggcljcdaaDoor
