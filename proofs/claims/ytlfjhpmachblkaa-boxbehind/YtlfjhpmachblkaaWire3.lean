/-
  Layer 6: what wire.Out's Bytes returns.
-/
import Derived.Test.YtlfjhpmachblkaaWire2
namespace Go.Proofs.Ytlfjhpmachblkaa
open Go.RowKit
open Go.Lib (hid)

theorem flat_rev (ts : List (List Nat)) : ts.reverse.flatten.length = ts.flatten.length := by
  induction ts with
  | nil => rfl
  | cons a l ih => rw [List.reverse_cons, List.flatten_append, List.length_append, ih]; simp; omega

theorem drop_part (x t A : List Nat) (f : Nat) (hA : A.length = f) (h : A ++ t = x.take (t.length + f)) : x.drop f = t ++ x.drop (t.length + f) := by
  have h1 : x = x.take (t.length + f) ++ x.drop (t.length + f) := (List.take_append_drop _ _).symm
  rw [← h, List.append_assoc] at h1
  exact (congrArg (List.drop f) h1).trans (List.drop_left' hA)
theorem copy_row (x t A : List Nat) (f d : Nat) (hA : A.length = f) (h : A ++ t = x.take (t.length + f)) (ht : ∀ c ∈ t, c < 256) (hd : t.length ≤ d) :
    ((ints .u8 (List.replicate (t.length + f) 0 ++ x.drop (t.length + f))).toList.take f ++ ((ints .u8 ((nums (str t)).take (min (str t).size d))).toList ++ (ints .u8 (List.replicate (t.length + f) 0 ++ x.drop (t.length + f))).toList.drop (f + min (str t).size d))).toArray
      = ints .u8 (List.replicate f 0 ++ x.drop f) := by
  rw [str_size, Nat.min_eq_left hd, nums_str t ht, List.take_length, drop_part x t A f hA h]
  have e : (List.replicate (t.length + f) 0 : List Nat) = List.replicate f 0 ++ List.replicate t.length 0 := by rw [List.replicate_append_replicate, Nat.add_comm]
  rw [e]
  unfold ints
  congr 1
  simp only [List.map_append, List.map_replicate]
  rw [List.drop_left' (by simp), List.append_assoc, List.take_left' (by simp)]

set_option maxHeartbeats 1000000 in
set_option maxRecDepth 100000 in
theorem obytes_any (o : Nat) (x : List Nat) (w : World) (h : OutAt w o x) (hb : ∀ c ∈ x, c < 256) (hl : x.length ≤ 1000000) :
    Calls Try.prog 43 #[.pointer (some ⟨o, 0, none⟩)] w fun e w' => e = .returned (.string (str x)) ∧ Below w.heap.size w w' := by
  obtain ⟨p0, ts, ho, hp, hx⟩ := h
  have hmk := fun wx => run_mk wx x.length hl
  have hlt : o < w.heap.size := (Array.getElem?_eq_some_iff.1 ho).1
  have c1 : w.cell? ⟨o, 1, none⟩ = some (.int .i64 (x.length : Int)) := by rw [Lib.cell_of_heap ho]; rfl
  have ho1 := fun O => (Below.heap_alloc w O o hlt).trans ho
  have d0 : ∀ O, (w.alloc O).cell? ⟨o, 0, none⟩ = some (.pointer p0) := fun O => by rw [Lib.cell_of_heap (ho1 O)]; rfl
  have d1 : ∀ O, (w.alloc O).cell? ⟨o, 1, none⟩ = some (.int .i64 (x.length : Int)) := fun O => by rw [Lib.cell_of_heap (ho1 O)]; rfl
  have HB := hid hb
  have HP := hid (fun O => PartsAt.below (w' := w.alloc O) ((Below.refl _ _).alloc (Nat.le_refl _) O) ts p0 hp)
  have HX := hid hx
  clear ho hp hx hb ho1
  go_enter Try.func43, Try.ntmps43
  go_upto_region 4 with (fail)
  clear hmk c1 d0 d1
  have HR0 := hid (show Row (w.alloc (.cells (ints .u8 (List.replicate x.length 0)) 5)) w.heap.size .u8 5 (List.replicate x.length 0) from heap_alloc_new _ _)
  have HB0 := hid (show Below w.heap.size w (w.alloc (.cells (ints .u8 (List.replicate x.length 0)) 5)) from (Below.refl _ _).alloc (Nat.le_refl _) _)
  have HP0 := hid (HP.out (.cells (ints .u8 (List.replicate x.length 0)) 5))
  clear HP
  generalize w.alloc _ = w0 at *
  obtain ⟨n, hn⟩ : ∃ n, n = x.length := ⟨_, rfl⟩
  have HN := hid hn
  rw [← hn] at HR0 hl ⊢
  clear hn
  go_loopw [4, 5] (fun e p wr => ∃ (q : Option Addr) (rest : List (List Nat)), e = .int .i64 (rest.flatten.length : Int) ∧ p = .pointer q ∧ PartsAt wr q rest ∧ rest.flatten.length ≤ n ∧ rest.reverse.flatten = x.take rest.flatten.length ∧ Row wr w.heap.size .u8 5 (List.replicate rest.flatten.length 0 ++ x.drop rest.flatten.length) ∧ Below w.heap.size w wr)
    (fun e _ _ => (intOf e).toNat)
  case atStart =>
    have hlen : ts.flatten.length = n := by rw [← flat_rev, HX.out, HN.out]
    refine ⟨p0, ts, by rw [hlen], rfl, HP0.out, by omega, ?_, ?_, HB0.out⟩
    · rw [HX.out, hlen, List.take_of_length_le (by rw [HN.out]; exact Nat.le_refl _)]
    · rw [hlen, List.drop_eq_nil_of_le (by rw [HN.out]; exact Nat.le_refl _), List.append_nil]; exact HR0.out
  case round =>
    clear HR0 HB0 HP0
    obtain ⟨q, rest, rfl, rfl, hp, hle, hr, hrow, hbel⟩ := hrel
    cases rest with
    | nil =>
      cases q with
      | some a => exact hp.elim
      | none =>
        have hrow' : Row wr w.heap.size .u8 5 x := by simpa using hrow
        have hcv := run_str wr w.heap.size 0 n n 5 x hrow' (by rw [← HN.out]; omega)
        rw [List.drop_zero, List.take_of_length_le (by rw [HN.out]; exact Nat.le_refl _)] at hcv
        have HBL := hid hbel
        clear hrow hrow' hbel hr
        generalize hSX : str x = SX at hcv
        have HSX := hid hSX
        clear hSX
        rw [show ((([] : List (List Nat)).flatten.length : Nat) : Int) = 0 from rfl]
        go_wp2
        go_ret
        exact ⟨by rw [HSX.out]; rfl, HBL.out⟩
    | cons t l =>
      cases q with
      | none => exact hp.elim
      | some a =>
        obtain ⟨b, q, rfl, hne, hbk, hpl⟩ := hp
        have e1 : (t :: l).flatten.length = t.length + l.flatten.length := by simp
        rw [e1] at hle hr hrow
        rw [show (((t :: l).flatten.length : Nat) : Int) = (t.length : Int) + (l.flatten.length : Int) from by rw [e1]; omega]
        rw [List.reverse_cons, List.flatten_append, List.flatten_singleton] at hr
        have hA := flat_rev l
        have htb : ∀ c ∈ t, c < 256 := fun c hc => HB.out c (by
          have : c ∈ x.take (t.length + l.flatten.length) := by rw [← hr]; exact List.mem_append_right _ hc
          exact List.mem_of_mem_take this)
        have htl : 0 < t.length := List.length_pos_iff.2 hne
        have HRL := hid (show l.reverse.flatten = x.take l.flatten.length from by
          have := congrArg (List.take l.flatten.length) hr
          rw [List.take_append_of_le_length (by omega), List.take_of_length_le (by omega), List.take_take, Nat.min_eq_left (by omega)] at this
          exact this)
        have HPL := hid hpl
        have HLL := hid (show l.flatten.length ≤ n from by omega)
        have cb0 : wr.cell? ⟨b, 0, none⟩ = some (.pointer q) := by rw [Lib.cell_of_heap hbk]; rfl
        have cb1 : wr.cell? ⟨b, 1, none⟩ = some (.string (str t)) := by rw [Lib.cell_of_heap hbk]; rfl
        have hbne : b ≠ w.heap.size := fun e => by
          subst e
          have h1 : wr.heap[w.heap.size]? = _ := hrow
          rw [h1] at hbk
          injection hbk with hbk
          injection hbk with _ h2 _
          exact absurd h2 (by decide)
        have HCR := hid (copy_row x t l.reverse.flatten l.flatten.length (n - l.flatten.length) hA hr htb (by omega))
        have HROW := hid hrow
        have HBL := hid hbel
        have HBK := hid hbk
        have hzt := str_size t
        have HCS := hid (show l.flatten.length + (n - l.flatten.length) ≤ (ints .u8 (List.replicate (t.length + l.flatten.length) 0 ++ x.drop (t.length + l.flatten.length))).size from by
          rw [ints_size]; simp; have := HN.out; omega)
        generalize hfl : l.flatten.length = f at *
        have HFL := hid hfl
        clear hfl
        generalize t.length = tl at *
        rw [hzt] at HCR
        have hsub : (tl : Int) + (f : Int) - (tl : Int) = (f : Int) := by omega
        clear hrow hbel hr hA htb e1 hbk hpl
        go_upto_region 7 with (fail)
        have hfn : (f : Int) ≤ (n : Int) := by have := HLL.out; omega
        have hfn2 : f < n := by omega
        have HRB := hid (fun m => setRow_heap (wr.drewN m) w.heap.size _ (ints .u8 (List.replicate f 0 ++ x.drop f)) _ _ HROW.out)
        have HBB := hid (fun m => below_setRow (show Below w.heap.size w (wr.drewN m) from HBL.out.trans ⟨rfl, rfl, rfl, Nat.le_refl _, fun _ _ => rfl⟩) (Nat.le_refl _) (ints .u8 (List.replicate f 0 ++ x.drop f)))
        have HKK := hid (fun m => show KeptB w.heap.size wr ((wr.drewN m).setRow w.heap.size (ints .u8 (List.replicate f 0 ++ x.drop f))) from (show KeptB w.heap.size wr (wr.drewN m) from ⟨rfl, rfl, rfl, Nat.le_refl _, fun _ _ _ => rfl⟩).setRow _)
        have cb2 : ∀ m cs, ((wr.drewN m).setRow w.heap.size cs).cell? ⟨b, 0, none⟩ = some (.pointer q) := fun m cs => by
          rw [Lib.cell_of_heap ((setRow_other (wr.drewN m) w.heap.size b cs hbne).trans HBK.out)]; rfl
        refine wp_region_noPanic ?_
        refine wp_region_hd1 7 1 rfl (by kernel_rfl) (by kernel_rfl) (fun _ _ _ _ _ h => h) ?_
        simp only [List.take_succ_cons, List.take_zero, List.drop_succ_cons, List.drop_zero]
        repeat (go_big_quiet_step (fail))
        refine wpQuiet_nil ?_
        intro m
        go_wp2_with (refine wpList_copy_str rfl _ _ _ _ rfl 5 Try.underlying94 info5' w.heap.size f (n - f) (n - f) (str t) rfl rfl _ _ HROW.out HCS.out ?_)
        rw [HCR.out]
        refine NoPanic.normal ?_
        go_wp2
        refine ⟨⟨q, l, by rw [HFL.out], rfl, PartsAt.keptB (HKK.out m) (by decide) HROW.out l q HPL.out, by rw [HFL.out]; exact HLL.out, by rw [HFL.out]; exact HRL.out, by rw [HFL.out]; exact HRB.out m, HBB.out m⟩, ?_⟩
        simp [intOf]
        omega
end Go.Proofs.Ytlfjhpmachblkaa
