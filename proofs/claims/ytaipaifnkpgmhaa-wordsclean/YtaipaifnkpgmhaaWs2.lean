/-
  Layer 15: bytes, small letters, and the sequences of a text.
-/
import Derived.Test.YtaipaifnkpgmhaaWs1
import Derived.Test.YtaipaifnkpgmhaaRf
import Derived.Test.YtaipaifnkpgmhaaRl
import Derived.Lib.ConvBytes
import Derived.Lib.AtoiErrMem
import Derived.Sort.CutIn
namespace Go.Proofs.Ytaipaifnkpgmhaa
open Go.ChangeShapes Go.WideShapes Go.ChangeAt Go.RowKit Go.Shelf
open Go.Lib (hid)

attribute [local go_sem] Oper.semAt_some

set_option maxRecDepth 100000 in
set_option maxHeartbeats 1000000 in
theorem isPart_any (b : Nat) (hb : b < 256) (w : World) : Calls Try.prog 25 #[.int .u8 (b : Int)] w fun e w' => e = .returned (.bool (Wd.part b)) ∧ w' = w := by
  go_enter Try.func25, Try.ntmps25
  by_cases h1 : (97 : Int) ≤ b
  · by_cases h2 : (b : Int) ≤ 122
    · go_wp2
      exact bodyPost_ret (results_tmp rfl _ _ _) rfl ⟨by rw [show Wd.part b = true from by unfold Wd.part; rw [decide_eq_true_eq]; omega]; rfl, rfl⟩
    · have h3 : (48 : Int) ≤ b := by omega
      have h4 : ¬ (b : Int) ≤ 57 := by omega
      go_wp2
      exact bodyPost_ret (results_tmp rfl _ _ _) rfl ⟨by rw [show Wd.part b = false from by unfold Wd.part; rw [decide_eq_false_iff_not]; omega]; rfl, rfl⟩
  · by_cases h3 : (48 : Int) ≤ b
    · by_cases h4 : (b : Int) ≤ 57
      · go_wp2
        exact bodyPost_ret (results_tmp rfl _ _ _) rfl ⟨by rw [show Wd.part b = true from by unfold Wd.part; rw [decide_eq_true_eq]; omega]; rfl, rfl⟩
      · go_wp2
        exact bodyPost_ret (results_tmp rfl _ _ _) rfl ⟨by rw [show Wd.part b = false from by unfold Wd.part; rw [decide_eq_false_iff_not]; omega]; rfl, rfl⟩
    · go_wp2
      exact bodyPost_ret (results_tmp rfl _ _ _) rfl ⟨by rw [show Wd.part b = false from by unfold Wd.part; rw [decide_eq_false_iff_not]; omega]; rfl, rfl⟩
set_option maxRecDepth 100000 in
set_option maxHeartbeats 1000000 in
theorem small_any (b : Nat) (hb : b < 256) (w : World) : Calls Try.prog 30 #[.int .u8 (b : Int)] w fun e w' => e = .returned (.int .u8 (Wd.small b : Int)) ∧ w' = w := by
  go_enter Try.func30, Try.ntmps30
  by_cases h1 : (65 : Int) ≤ b
  · by_cases h2 : (b : Int) ≤ 90
    · have e1 : IntKind.u8.wrap ((b : Int) - 65) = ((b - 65 : Nat) : Int) := by rw [show (b : Int) - 65 = ((b - 65 : Nat) : Int) from by omega, wrap_u8_nat _ (by omega)]
      have e2 : IntKind.u8.wrap (((b - 65 : Nat) : Int) + 97) = ((b + 32 : Nat) : Int) := by rw [show ((b - 65 : Nat) : Int) + 97 = ((b + 32 : Nat) : Int) from by omega, wrap_u8_nat _ (by omega)]
      have e3 : Wd.small b = b + 32 := by unfold Wd.small; rw [if_pos (by omega)]
      rw [e3]
      clear e3
      go_wp2
      exact bodyPost_ret (results_tmp rfl _ _ _) rfl ⟨by first | rfl | simp, rfl⟩
    · rw [show Wd.small b = b from by unfold Wd.small; rw [if_neg (by omega)]]
      go_wp2
      exact bodyPost_ret (results_tmp rfl _ _ _) rfl ⟨rfl, rfl⟩
  · rw [show Wd.small b = b from by unfold Wd.small; rw [if_neg (by omega)]]
    go_wp2
    exact bodyPost_ret (results_tmp rfl _ _ _) rfl ⟨rfl, rfl⟩
namespace Wd
def Byt (w : World) (b : Nat) (l : List Nat) : Prop := ∃ r : Array Value, w.heap[b]? = some (.cells (ints .u8 l ++ r) 5 ((ints .u8 l ++ r).size, (ints .u8 l ++ r).size + 1))
theorem Byt.cell {w : World} {b : Nat} {l : List Nat} (h : Byt w b l) (i : Nat) (hi : i < l.length) : w.cell? ⟨b, i, none⟩ = some (.int .u8 (l.getD i 0 : Nat)) := by
  obtain ⟨r, h⟩ := h
  rw [cell_of_row w b i _ _ _ h, Array.getElem?_append_left (by rw [ints_size]; exact hi), ints_get .u8 l i hi]
theorem Byt.free {w : World} {b : Nat} {l : List Nat} (h : Byt w b l) (i : Nat) (hi : i < l.length) : w.frozen? ⟨b, i, none⟩ = false := by
  obtain ⟨r, h⟩ := h
  have : i < (ints .u8 l ++ r).size := by rw [Array.size_append, ints_size]; omega
  simp only [World.frozen?, h]
  simp
  intro h1
  simp only [ints_size] at h1
  omega
theorem Byt.set {w : World} {b : Nat} {l : List Nat} (h : Byt w b l) (i n : Nat) (hi : i < l.length) : Byt (w.setCell ⟨b, i, none⟩ (.int .u8 (n : Int))) b (l.set i n) := by
  obtain ⟨r, h⟩ := h
  refine ⟨r, ?_⟩
  have h1 := setCell_eq_setRow w b i _ _ _ (.int .u8 (n : Int)) h
  rw [h1, setRow_heap w b _ _ _ _ h, Array.setIfInBounds_append_left (by rw [ints_size]; exact hi), ints_set]
  simp only [Array.size_append, ints_size, List.length_set]
theorem Byt.lt {w : World} {b : Nat} {l : List Nat} (h : Byt w b l) : b < w.heap.size := by
  obtain ⟨r, h⟩ := h
  exact (Array.getElem?_eq_some_iff.1 h).1
theorem Byt.below {w w' : World} {B b : Nat} {l : List Nat} (h : Byt w b l) (hb : Below B w w') (hlt : b < B) : Byt w' b l := by
  obtain ⟨r, h⟩ := h
  exact ⟨r, by rw [hb.block b hlt]; exact h⟩
theorem Byt.str {w : World} {b : Nat} {l : List Nat} (h : Byt w b l) (n cap : Nat) (hn : n ≤ l.length) :
    (convert 38 9 (.slice (some ⟨b, 0, none⟩) n cap)).run Try.prog w = .ok (.string (str (l.take n))) w := by
  rw [← strOf_ints]
  refine run_convert_bytes_arg w 38 5 Try.underlying38 Try.underlying5 b 0 n cap _ (by simp; omega) (fun i hi => ?_) 9 Try.underlying9
  rw [Nat.zero_add, h.cell i (by omega)]
  simp [hi]
  rw [List.getElem?_eq_getElem (by omega)]
  simp
theorem Byt.made (w : World) (l : List Nat) (h : ∀ x ∈ l, x < 256) : Byt (Lib.bytesWorld w 5 (Go.Proofs.Ytaipaifnkpgmhaa.str l)) w.heap.size l := by
  refine ⟨Array.replicate (grownCap w (Go.Proofs.Ytaipaifnkpgmhaa.str l).size 0 5 - (Go.Proofs.Ytaipaifnkpgmhaa.str l).size) (.int .u8 0), ?_⟩
  have e : Lib.bytesCells w 5 (Go.Proofs.Ytaipaifnkpgmhaa.str l) = ints .u8 l ++ Array.replicate (grownCap w (Go.Proofs.Ytaipaifnkpgmhaa.str l).size 0 5 - (Go.Proofs.Ytaipaifnkpgmhaa.str l).size) (.int .u8 0) := by
    unfold Lib.bytesCells
    congr 1
    apply Array.toList_inj.1
    simp only [Go.Proofs.Ytaipaifnkpgmhaa.str, ints, Array.toList_map, List.map_map]
    apply List.map_congr_left
    intro x hx
    have := h x hx
    simp only [Function.comp]
    congr 1
    rw [UInt8.toNat_ofNat']
    omega
  rw [Lib.bytesWorld_at_new, e]
theorem bytes_below (w : World) (s : ByteArray) : Below w.heap.size w (Lib.bytesWorld w 5 s) := Lib.bytesWorld_below w 5 s
end Wd
open Wd in
set_option maxRecDepth 100000 in
set_option maxHeartbeats 1000000 in
theorem allSmall_any (L : List Nat) (hL : ∀ x ∈ L, x < 256) (hl : L.length ≤ 1000) (w : World) :
    Calls Try.prog 31 #[.string (str L)] w fun e w' => e = .returned (.string (str (L.map Wd.small))) ∧ Below w.heap.size w w' := by
  have hcv := Lib.run_convert_string_bytes (P := Try.prog) w 9 38 5 (str L) Try.underlying9 Try.underlying38 Try.underlying5
  have hby := Byt.made w L hL
  have hbb := bytes_below w (str L)
  have hsz : (str L).size = L.length := str_size L
  have hgc : L.length ≤ grownCap w L.length 0 5 := grownCap_ge _ _ _ _
  rw [hsz] at hcv
  generalize grownCap w L.length 0 5 = gc at *
  generalize Lib.bytesWorld w 5 (str L) = w1 at *
  have HBY := hid hby
  have HBB := hid hbb
  clear hby hbb
  go_enter Try.func31, Try.ntmps31
  go_wp2
  go_loopw [9] (fun i wr => ∃ k : Nat, k ≤ L.length ∧ i = .int .i64 (k : Nat) ∧ Byt wr w.heap.size ((L.take k).map Wd.small ++ L.drop k) ∧ Below w.heap.size w wr)
    (fun i _ => L.length - (intOf i).toNat)
  case atStart => exact ⟨0, by omega, rfl, by simpa using HBY.out, HBB.out⟩
  case round =>
    obtain ⟨k, hk, rfl, hb, hbl⟩ := hrel
    have HB := hid hb
    have HBL := hid hbl
    clear hb hbl HBY HBB
    have hll : ((L.take k).map Wd.small ++ L.drop k).length = L.length := by simp; omega
    by_cases hkl : k < L.length
    · have g1 : (k : Int) < L.length := by omega
      have hcl := HB.out.cell k (by omega)
      have hfr := HB.out.free k (by omega)
      have hgk : ((L.take k).map Wd.small ++ L.drop k).getD k 0 = L.getD k 0 := by
        rw [List.getD_eq_getElem?_getD, List.getElem?_append_right (by simp; omega), List.getElem?_drop, List.getD_eq_getElem?_getD]
        congr 2
        simp
        omega
      rw [hgk] at hcl
      have hx : L.getD k 0 < 256 := hL _ (by rw [List.getD_eq_getElem?_getD, List.getElem?_eq_getElem hkl]; exact List.getElem_mem hkl)
      have HSET := hid (HB.out.set k (Wd.small (L.getD k 0)) (by omega))
      have hset : ((L.take k).map Wd.small ++ L.drop k).set k (Wd.small (L.getD k 0)) = (L.take (k + 1)).map Wd.small ++ L.drop (k + 1) := by
        rw [List.set_append_right _ _ (by simp; omega), List.length_map, List.length_take, Nat.min_eq_left hk, Nat.sub_self, List.drop_eq_getElem_cons hkl, List.set_cons_zero, List.take_succ_eq_append_getElem hkl, List.map_append, List.getD_eq_getElem?_getD, List.getElem?_eq_getElem hkl, List.append_assoc]
        rfl
      rw [hset] at HSET
      have HSM := hid (fun wx => small_any (L.getD k 0) hx wx)
      generalize L.getD k 0 = b at *
      clear hgk hset hll
      go_wp2_with (go_at_call 30; refine (HSM.out _).mono ?_; rintro e wz ⟨rfl, hwz⟩; replace hwz := hwz.symm; subst hwz)
      have hkk : (k : Int) + 1 = ((k + 1 : Nat) : Int) := by omega
      refine ⟨⟨k + 1, by omega, congrArg (Value.int .i64) hkk, HSET.out, HBL.out.setCell (p := ⟨w.heap.size, k, none⟩) (Nat.le_refl _) _⟩, by simp [intOf]; omega⟩
    · obtain rfl : k = L.length := by omega
      have hcs := HB.out.str L.length gc (by omega)
      rw [List.take_of_length_le (by omega)] at hcs
      simp only [List.take_length, List.drop_length, List.append_nil] at hcs
      go_wp2
      exact bodyPost_ret (results_tmp rfl _ _ _) rfl ⟨rfl, HBL.out⟩
end Go.Proofs.Ytaipaifnkpgmhaa
