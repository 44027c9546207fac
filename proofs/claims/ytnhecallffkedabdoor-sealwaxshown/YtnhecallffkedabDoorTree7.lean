/-
  Layer 7: what (hasher).step returns.
-/
import Derived.Test.YtnhecallffkedabDoorBase
import Derived.Test.YtnhecallffkedabDoorTree6
namespace Go.Proofs.YtnhecallffkedabDoor
open Go.RowKit
open Go.Lib (hid)

/-- A step as a value: a text, and its sum. -/
def stepC (t : List Nat) : Array Value := #[.string (str t)] ++ ints .u8 (Sx.digest t)
theorem stepC_size (t : List Nat) : (stepC t).size = 33 := by simp [stepC, ints_size, digest_length]
theorem info78 : (Tryd.prog.info? 97).map (·.size) = some 33 := by kernel_rfl
theorem stepC_one (t : List Nat) : (stepC t).all (·.oneCell') = true := by
  simp only [stepC, Array.all_append]
  rw [ints_one]
  simp [Value.oneCell']
theorem run_step (w : World) (S : ByteArray) (r : List Nat) (hr : r.length = 32) : (Instr.build 97 #[(0, .string S), (1, .agg (ints .u8 r))]).run Tryd.prog w = .ok (.agg (#[.string S] ++ ints .u8 r)) w := by
  obtain ⟨a0, a1, a2, a3, a4, a5, a6, a7, a8, a9, a10, a11, a12, a13, a14, a15, a16, a17, a18, a19, a20, a21, a22, a23, a24, a25, a26, a27, a28, a29, a30, a31, rfl⟩ := list32 r hr
  exact run_build w _ _ _ (by kernel_rfl)

set_option maxHeartbeats 1000000 in
set_option maxRecDepth 100000 in
theorem step_any (t : List Nat) (ht : ∀ x ∈ t, x < 256) (hl : t.length ≤ 100000000) (w : World) (hT : Tabs w) :
    Calls Tryd.prog 42 #[.func (.func 7) #[] #[], .string (str t)] w fun e w' => e = .returned (.agg (stepC t)) ∧ Below w.heap.size w w' := by
  have HOF := hid (fun wx hx => of_one t ht (by omega) wx hx 9)
  have HBD := hid (fun wx => run_step wx (str t) (Sx.digest t) (digest_length t))
  rw [show #[Value.string (str t)] ++ ints .u8 (Sx.digest t) = stepC t from rfl] at HBD
  have hs := stepC_size t
  have h1 := stepC_one t
  have HT := hid hT
  clear hT ht
  generalize stepC t = C at *
  generalize Sx.digest t = D at *
  generalize str t = S at *
  go_enter Tryd.func42, Tryd.ntmps42
  go_upto_region 1 with (fail)
  generalize hw1 : w.alloc _ = w1
  have HZ := hid (show ∃ cs : Array Value, cs.size = 33 ∧ w1.heap[w.heap.size]? = some (.cells cs 97 (0, 0)) from by
    rw [← hw1]
    exact ⟨_, rfl, heap_alloc_new _ _⟩)
  have HB1 := hid (show Below w.heap.size w w1 from by rw [← hw1]; exact (Below.refl _ _).alloc (Nat.le_refl _) _)
  clear hw1
  go_wp2_with fail
  refine (HOF.out _ (HT.out.below HB1.out (Nat.le_refl _))).mono ?_
  rintro e w2 ⟨rfl, hb2⟩
  obtain ⟨cs, hcs, hz⟩ := HZ.out
  have HZ2 := hid (show w2.heap[w.heap.size]? = some (.cells cs 97 (0, 0)) from by rw [hb2.block _ (Array.getElem?_eq_some_iff.1 hz).1]; exact hz)
  have HB2 := hid (HB1.out.trans (hb2.mono HB1.out.size))
  clear hb2 hz HZ HB1 HOF
  go_wp2_with (first
    | (refine wpList_build rfl _ _ rfl #[(0, .string S), (1, .agg (ints .u8 D))] (by simp only [List.map_toArray, List.map_cons, List.map_nil]; rfl) C (HBD.out _) ?_)
    | (refine wpList_store_row rfl _ _ _ rfl w.heap.size _ rfl rfl _ _ HZ2.out (by rw [hs]; exact info78) (by rw [hs, hcs]) h1 ?_))
  exact bodyPost_ret (v := .agg C)
    (results_cell_row Tryd.results42 _ _ w.heap.size _ _ _ _ rfl (setRow_heap w2 w.heap.size _ _ _ _ HZ2.out) Tryd.underlying97 rfl (by rw [hs]; exact info78))
    rfl ⟨rfl, below_setRow HB2.out (Nat.le_refl _) _⟩
end Go.Proofs.YtnhecallffkedabDoor
