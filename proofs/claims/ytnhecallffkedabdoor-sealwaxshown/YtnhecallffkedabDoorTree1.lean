/-
  Layer 7: what tree.limited, leaf, node and isPosition return.
-/
import Derived.Test.YtnhecallffkedabDoorBase
import Derived.Test.YtnhecallffkedabDoorShaCut
import Derived.Test.YtnhecallffkedabDoorRg2
namespace Go.Proofs.YtnhecallffkedabDoor
open Go.RowKit
open Go.Lib (hid)

namespace Tx
/-- What is hashed for a text, and for two neighbours. -/
def leaf (t : List Nat) : List Nat := 76 :: t
def node (a b : List Nat) : List Nat := 78 :: (a ++ b)
theorem leaf_lt (t : List Nat) (h : ∀ x ∈ t, x < 256) : ∀ x ∈ leaf t, x < 256 := by
  intro x hx
  rcases List.mem_cons.1 hx with rfl | h'
  · decide
  · exact h x h'
theorem node_lt (a b : List Nat) (ha : ∀ x ∈ a, x < 256) (hb : ∀ x ∈ b, x < 256) : ∀ x ∈ node a b, x < 256 := by
  intro x hx
  rcases List.mem_cons.1 hx with rfl | h'
  · decide
  · rcases List.mem_append.1 h' with h' | h'
    · exact ha x h'
    · exact hb x h'
/-- A depth that a tree can have. -/
def limit (d : Int) : Nat := (max 0 (min d 16)).toNat
theorem limit_le (d : Int) : limit d ≤ 16 := by unfold limit; omega
end Tx

set_option maxRecDepth 100000 in
theorem limited_any (d : Int) (w : World) :
    Calls Tryd.prog 15 #[.int .i64 d] w fun e w' => e = .returned (.int .i64 (Tx.limit d : Nat)) ∧ w' = w := by
  have HL := hid (show ((Tx.limit d : Nat) : Int) = max 0 (min d 16) from by unfold Tx.limit; omega)
  go_enter Tryd.func15, Tryd.ntmps15
  go_wp2
  all_goals (go_ret; exact ⟨by rw [HL.out]; exact congrArg (fun x => Ending.returned (Value.int .i64 x)) (by omega), rfl⟩)

set_option maxRecDepth 100000 in
theorem leaf_any (t : List Nat) (hl : t.length ≤ 100000000) (w : World) :
    Calls Tryd.prog 31 #[.string (str t)] w fun e w' => e = .returned (.string (str (Tx.leaf t))) ∧ w' = w := by
  have hap := str_append [76] t
  rw [show str [76] = ⟨#[76]⟩ from rfl, show [76] ++ t = Tx.leaf t from rfl] at hap
  have hz : (str t).size ≤ 100000000 := by rw [str_size]; exact hl
  generalize str t = S at *
  generalize hS2 : str (Tx.leaf t) = S2 at *
  clear hS2
  go_enter Tryd.func31, Tryd.ntmps31
  go_wp2
  go_ret
  exact ⟨rfl, rfl⟩
/-- Whether a tree of depth d has a position i. -/
def Tx.isPos (i : Int) (d : Nat) : Bool := decide (d ≤ 16) && decide (0 ≤ i) && decide (i < (2 ^ d : Nat))
theorem wrap_pow (d : Nat) (h : d ≤ 16) : wrap64 (2 ^ d) = ((2 ^ d : Nat) : Int) := by
  have h1 : 2 ^ d ≤ 2 ^ 16 := Nat.pow_le_pow_right (by decide) h
  have e : ((2 : Int) ^ d) = ((2 ^ d : Nat) : Int) := by simp
  rw [e]
  generalize 2 ^ d = p at *
  simp only [wrap64]
  omega

set_option maxRecDepth 100000 in
set_option maxHeartbeats 1000000 in
theorem isPos_any (i : Int) (d : Nat) (hd : d ≤ 1000000) (w : World) :
    Calls Tryd.prog 25 #[.int .i64 i, .int .i64 (d : Int)] w fun e w' => e = .returned (.bool (Tx.isPos i d)) ∧ w' = w := by
  by_cases h1 : d ≤ 16
  · have hp := wrap_pow d h1
    have g1 : (d : Int) ≤ 16 := by omega
    by_cases h2 : 0 ≤ i
    · have HE := hid (show Tx.isPos i d = decide (i < (2 ^ d : Nat)) from by unfold Tx.isPos; rw [decide_eq_true h1, decide_eq_true h2]; rfl)
      generalize 2 ^ d = p at *
      go_enter Tryd.func25, Tryd.ntmps25
      go_wp2
      go_ret
      exact ⟨by rw [HE.out]; rfl, rfl⟩
    · have HE := hid (show Tx.isPos i d = false from by unfold Tx.isPos; rw [decide_eq_true h1, decide_eq_false h2]; rfl)
      go_enter Tryd.func25, Tryd.ntmps25
      go_wp2
      go_ret
      exact ⟨by rw [HE.out]; rfl, rfl⟩
  · have HE := hid (show Tx.isPos i d = false from by unfold Tx.isPos; rw [decide_eq_false h1]; rfl)
    have g1 : ¬ (d : Int) ≤ 16 := by omega
    go_enter Tryd.func25, Tryd.ntmps25
    go_wp2
    go_ret
    exact ⟨by rw [HE.out]; rfl, rfl⟩
set_option maxRecDepth 100000 in
set_option maxHeartbeats 1000000 in
theorem node_any (a b : List Nat) (ha : a.length = 32) (hb : b.length = 32) (w : World) :
    Calls Tryd.prog 32 #[.agg (ints .u8 a), .agg (ints .u8 b)] w fun e w' => e = .returned (.string (str (Tx.node a b))) ∧ Below w.heap.size w w' := by
  have h1 := str_append [78] a
  rw [show str [78] = ⟨#[78]⟩ from rfl] at h1
  have h2 := str_append ([78] ++ a) b
  rw [show [78] ++ a ++ b = Tx.node a b from rfl] at h2
  have HRA := hid (fun (wx : World) (q : Nat) (h : Row wx q .u8 27 a) => (show (convert 103 9 (.slice (some ⟨q, 0, none⟩) 32 32)).run Tryd.prog wx = .ok (.string (str a)) wx from by
    have := run_str wx q 0 32 32 27 a h (by omega)
    rwa [List.drop_zero, List.take_of_length_le (by omega)] at this))
  have HRB := hid (fun (wx : World) (q : Nat) (h : Row wx q .u8 27 b) => (show (convert 103 9 (.slice (some ⟨q, 0, none⟩) 32 32)).run Tryd.prog wx = .ok (.string (str b)) wx from by
    have := run_str wx q 0 32 32 27 b h (by omega)
    rwa [List.drop_zero, List.take_of_length_le (by omega)] at this))
  have z1 : (str a).size = 32 := by rw [str_size, ha]
  have z2 : (str b).size = 32 := by rw [str_size, hb]
  have z3 : (str ([78] ++ a)).size = 33 := by rw [str_size]; simp [ha]
  generalize str (Tx.node a b) = SN at *
  generalize str ([78] ++ a) = S1 at *
  generalize str a = SA at *
  generalize str b = SB at *
  go_enter Tryd.func32, Tryd.ntmps32
  go_upto_region 1 with (fail)
  generalize hw0 : (w.alloc _).alloc _ = w0
  have ra : Row w0 w.heap.size .u8 27 a := by rw [← hw0]; unfold Row; rw [heap_alloc2_old]
  have rb : Row w0 (w.heap.size + 1) .u8 27 b := by rw [← hw0]; unfold Row; rw [heap_alloc2_new]
  have HB0 := hid (show Below w.heap.size w w0 from by rw [← hw0]; exact ((Below.refl _ _).alloc (Nat.le_refl _) _).alloc (by simp) _)
  clear hw0
  have s1 := fun m => slice_all (w0.drewN m) 27 5 32 w.heap.size Tryd.underlying27 (by decide) info5'
  have s2 := fun m => slice_all (w0.drewN m) 27 5 32 (w.heap.size + 1) Tryd.underlying27 (by decide) info5'
  have c1 := fun m => HRA.out (w0.drewN m) w.heap.size ra
  have c2 := fun m => HRB.out (w0.drewN m) (w.heap.size + 1) rb
  clear ra rb HRA HRB
  go_quiet (fail)
  go_wp2
  go_ret
  exact ⟨rfl, HB0.out.trans ⟨rfl, rfl, rfl, Nat.le_refl _, fun _ _ => rfl⟩⟩
end Go.Proofs.YtnhecallffkedabDoor
