/-
  Bytes begin with the block of the counter, and go on with the next one's, going round (law StreamFirst); for every input.
-/
import Derived.Test.YtdlghblmhocmfaaDoorLXor
import Derived.Test.YtdlghblmhocmfaaDoorXor3
import Derived.Test.YtdlghblmhocmfaaDoorMono
namespace Go.Proofs.YtdlghblmhocmfaaDoor
open Go.ChangeShapes Go.WideShapes Go.ChangeAt Go.RowKit
open Go.Lib (hid)

namespace StreamFirst
theorem rep_get (n i : Nat) : (List.replicate n 0).getD i 0 = 0 := by
  rw [List.getD_eq_getElem?_getD, List.getElem?_replicate]
  split <;> rfl
theorem first_get (key nonce : List Nat) (c i : Nat) (hc : c < Sx.M) (hi : i < 64) :
    (Cx.xors key c nonce (List.replicate 128 0)).getD i 0 = (Cx.block key c nonce).getD i 0 := by
  rw [Cx.xors_get _ _ _ _ _ (by rw [List.length_replicate]; omega), rep_get, Nat.zero_xor]
  unfold Cx.xorB
  rw [show i / 64 = 0 from by omega, show i % 64 = i from by omega, Nat.add_zero, Nat.mod_eq_of_lt hc]
theorem next_get (key nonce : List Nat) (c i : Nat) (hi : i < 64) :
    (Cx.xors key c nonce (List.replicate 128 0)).getD (64 + i) 0 = (Cx.block key ((c + 1) % Sx.M) nonce).getD i 0 := by
  rw [Cx.xors_get _ _ _ _ _ (by rw [List.length_replicate]; omega), rep_get, Nat.zero_xor]
  unfold Cx.xorB
  rw [show (64 + i) / 64 = 1 from by omega, show (64 + i) % 64 = i from by omega]

/-- What the operations of the region yield. -/
def Vs (key nonce : List Nat) (c c1 : Nat) (b1 b2 : List Nat) (B : Nat) : List Value :=
  [.pointer (some ⟨B, 0, none⟩), .agg (ints .u8 key), .pointer (some ⟨B, 32, none⟩), .int .u32 c, .pointer (some ⟨B, 33, none⟩), .agg (ints .u8 nonce), .agg (ints .u8 b1),
   .pointer (some ⟨B, 0, none⟩), .agg (ints .u8 key), .pointer (some ⟨B, 32, none⟩), .int .u32 c, .int .u32 c1, .pointer (some ⟨B, 33, none⟩), .agg (ints .u8 nonce), .agg (ints .u8 b2)]
def Cell (B : Nat) (u : Value) (w : World) (cs : Array Value) (x : Nat) : Prop := u = .pointer (some ⟨x, 0, none⟩) ∧ w.heap[x]? = some (.cells cs 31 (0, 0)) ∧ B < x
structure G (V : List Value) (B : Nat) (b1 b2 : List Nat) (j : Nat) (f : Nat → Value) (w : World) : Prop where
  val : ∀ v, V[j]? = some v → f j = v
  g15 : j = 15 → ∃ x cs, Cell B (f 15) w cs x ∧ cs.size = 64 ∧ f 16 ≠ f 15
  g16 : j = 16 → ∃ x cs, Cell B (f 16) w cs x ∧ cs.size = 64 ∧ f 15 ≠ f 16
  g17 : j = 17 → ∃ x, Cell B (f 15) w (ints .u8 b1) x
  g18 : j = 18 → ∃ x, Cell B (f 16) w (ints .u8 b2) x
theorem Cell.below {B : Nat} {u : Value} {w w' : World} {cs : Array Value} {x : Nat} (h : Cell B u w cs x) (hb : Below w.heap.size w w') : Cell B u w' cs x :=
  ⟨h.1, (hb.block x (Array.getElem?_eq_some_iff.1 h.2.1).1).trans h.2.1, h.2.2⟩
variable {V : List Value} {B : Nat} {b1 b2 : List Nat} {f : Nat → Value} {w w' : World}
theorem upd_ne {i k : Nat} {v : Value} (h : k ≠ i) : upd f i v k = f k := if_neg h
theorem upd_at {i : Nat} {v : Value} : upd f i v i = v := if_pos rfl
theorem dep {o : Oper} (hV : V.length = 15) (hd : ∀ e ∈ o.after, Region.binds .any e = true → G V B b1 b2 e.on f w) (j : Nat) (h : (o.after.toList.any fun e => e.on == j && Region.binds .any e) = true) : G V B b1 b2 j f w := by
  obtain ⟨e, he, h1⟩ := List.any_eq_true.1 h
  rw [Array.mem_toList_iff] at he
  rw [Bool.and_eq_true, beq_iff_eq] at h1
  exact h1.1 ▸ hd e he h1.2
theorem noDep {p : Oper} {i : Nat} (hp : ∀ e ∈ p.after, Region.binds .any e = true → e.on ≠ i) (h : (p.after.toList.any fun e => e.on == i && Region.binds .any e) = true) : False := by
  obtain ⟨e, he, h1⟩ := List.any_eq_true.1 h
  rw [Array.mem_toList_iff] at he
  rw [Bool.and_eq_true, beq_iff_eq] at h1
  exact hp e he h1.2 h1.1
/-- An operation that yields a value and writes nothing that is there. -/
theorem keepV {i j : Nat} {v : Value} (hi : i ≤ 14) (hb : Below w.heap.size w w') (hj : j ≠ i) (h : G V B b1 b2 j f w) : G V B b1 b2 j (upd f i v) w' := by
  have e15 : upd f i v 15 = f 15 := upd_ne (by omega)
  have e16 : upd f i v 16 = f 16 := upd_ne (by omega)
  refine ⟨fun u hu => (upd_ne hj).trans (h.val u hu), fun hj => ?_, fun hj => ?_, fun hj => ?_, fun hj => ?_⟩
  · obtain ⟨x, cs, a, b, c⟩ := h.g15 hj
    exact ⟨x, cs, e15 ▸ a.below hb, b, by rw [e15, e16]; exact c⟩
  · obtain ⟨x, cs, a, b, c⟩ := h.g16 hj
    exact ⟨x, cs, e16 ▸ a.below hb, b, by rw [e15, e16]; exact c⟩
  · obtain ⟨x, a⟩ := h.g17 hj
    exact ⟨x, e15 ▸ a.below hb⟩
  · obtain ⟨x, a⟩ := h.g18 hj
    exact ⟨x, e16 ▸ a.below hb⟩
theorem newV (hV : V.length = 15) {i : Nat} {v : Value} (hi : V[i]? = some v) : G V B b1 b2 i (upd f i v) w := by
  have hlt := (List.getElem?_eq_some_iff.1 hi).1
  exact ⟨fun u hu => by rw [hi] at hu; rw [upd_at]; exact Option.some.inj hu, fun _ => by omega, fun _ => by omega, fun _ => by omega, fun _ => by omega⟩
/-- A block is laid. -/
theorem keep15 {i j : Nat} {o : Obj} (hi : i = 15 ∨ i = 16) (hV : V.length = 15) (hj : j ≠ i) (h17 : i = 15 → j ≠ 17) (h18 : i = 16 → j ≠ 18) (h : G V B b1 b2 j f w) :
    G V B b1 b2 j (upd f i (.pointer (some ⟨w.heap.size, 0, none⟩))) (w.alloc o) := by
  have hb : Below w.heap.size w (w.alloc o) := (Below.refl _ _).alloc (Nat.le_refl _) _
  have hne : ∀ {u : Value} {cs : Array Value} {x : Nat}, Cell B u w cs x → (Value.pointer (some ⟨w.heap.size, 0, none⟩)) ≠ u := fun hc e => by
    rw [hc.1] at e
    injection e with e; injection e with e; injection e with e
    have := (Array.getElem?_eq_some_iff.1 hc.2.1).1
    omega
  refine ⟨fun u hu => (upd_ne hj).trans (h.val u hu), fun hj5 => ?_, fun hj6 => ?_, fun hj7 => ?_, fun hj8 => ?_⟩
  · obtain ⟨x, cs, a, b, c⟩ := h.g15 hj5
    obtain rfl : i = 16 := by omega
    rw [upd_ne (show 15 ≠ 16 by decide), upd_at]
    exact ⟨x, cs, a.below hb, b, hne a⟩
  · obtain ⟨x, cs, a, b, c⟩ := h.g16 hj6
    obtain rfl : i = 15 := by omega
    rw [upd_ne (show 16 ≠ 15 by decide), upd_at]
    exact ⟨x, cs, a.below hb, b, hne a⟩
  · obtain ⟨x, a⟩ := h.g17 hj7
    obtain rfl : i = 16 := by have := h17; omega
    rw [upd_ne (show 15 ≠ 16 by decide)]
    exact ⟨x, a.below hb⟩
  · obtain ⟨x, a⟩ := h.g18 hj8
    obtain rfl : i = 15 := by have := h18; omega
    rw [upd_ne (show 16 ≠ 15 by decide)]
    exact ⟨x, a.below hb⟩
/-- All that the region keeps. -/
structure C (w0 : World) (B : Nat) (PC : Array Value) (f : Nat → Value) (w : World) : Prop where
  pl : PlS w0 B PC w
  l15 : ∀ x, f 15 = .pointer (some ⟨x, 0, none⟩) → x < w.heap.size
  l16 : ∀ x, f 16 = .pointer (some ⟨x, 0, none⟩) → x < w.heap.size
theorem C.lt {w0 : World} {PC : Array Value} (h : C w0 B PC f w) : B < w.heap.size := (Array.getElem?_eq_some_iff.1 h.pl.1).1
theorem C.keep {w0 : World} {PC : Array Value} (h : C w0 B PC f w) (hb : Below w.heap.size w w') {i : Nat} {v : Value} (hi : i ≤ 14 ∨ 17 ≤ i) : C w0 B PC (upd f i v) w' :=
  ⟨h.pl.keep hb, fun x hx => Nat.lt_of_lt_of_le (h.l15 x (by rw [upd_ne (by omega)] at hx; exact hx)) hb.size, fun x hx => Nat.lt_of_lt_of_le (h.l16 x (by rw [upd_ne (by omega)] at hx; exact hx)) hb.size⟩
theorem C.alloc {w0 : World} {PC : Array Value} (h : C w0 B PC f w) {i : Nat} (hi : i = 15 ∨ i = 16) (o : Obj) : C w0 B PC (upd f i (.pointer (some ⟨w.heap.size, 0, none⟩))) (w.alloc o) := by
  have hb : Below w.heap.size w (w.alloc o) := (Below.refl _ _).alloc (Nat.le_refl _) _
  have hs : (w.alloc o).heap.size = w.heap.size + 1 := by simp
  refine ⟨h.pl.keep hb, fun x hx => ?_, fun x hx => ?_⟩
  · rcases hi with rfl | rfl
    · rw [upd_at] at hx
      injection hx with e; injection e with e; injection e with e
      omega
    · rw [upd_ne (by decide)] at hx
      have := h.l15 x hx
      omega
  · rcases hi with rfl | rfl
    · rw [upd_ne (by decide)] at hx
      have := h.l16 x hx
      omega
    · rw [upd_at] at hx
      injection hx with e; injection e with e; injection e with e
      omega
theorem new15 {w0 : World} {PC : Array Value} (hV : V.length = 15) (h : C w0 B PC f w) (cs : Array Value) (hz : cs.size = 64) {i : Nat} (hi : i = 15 ∨ i = 16) :
    G V B b1 b2 i (upd f i (.pointer (some ⟨w.heap.size, 0, none⟩))) (w.alloc (.cells cs 31)) := by
  have hlt := h.lt
  refine ⟨fun u hu => ?_, fun hj5 => ?_, fun hj6 => ?_, fun hj7 => by omega, fun hj8 => by omega⟩
  · have := (List.getElem?_eq_some_iff.1 hu).1; omega
  · subst hj5
    rw [upd_at, upd_ne (show 16 ≠ 15 by decide)]
    exact ⟨_, cs, ⟨rfl, heap_alloc_new _ _, hlt⟩, hz, fun e => by have := h.l16 _ e; omega⟩
  · subst hj6
    rw [upd_at, upd_ne (show 15 ≠ 16 by decide)]
    exact ⟨_, cs, ⟨rfl, heap_alloc_new _ _, hlt⟩, hz, fun e => by have := h.l15 _ e; omega⟩
/-- A block is stored into. -/
theorem C.store {w0 : World} {PC : Array Value} (h : C w0 w0.heap.size PC f w) (hT : TabQ w0) {x : Nat} (hx : w0.heap.size < x) (cs : Array Value) {i : Nat} {v : Value} (hi : 17 ≤ i) : C w0 w0.heap.size PC (upd f i v) (w.setRow x cs) := by
  have hb : Below w0.heap.size w (w.setRow x cs) := ⟨rfl, rfl, rfl, by simp, fun k hk => setRow_other w x k cs (by omega)⟩
  have hb' := h.pl.2.2.1.trans hb
  refine ⟨⟨?_, hT.below hb' (Nat.le_refl _), hb', Nat.le_trans h.pl.2.2.2 hb.size⟩, fun y hy => ?_, fun y hy => ?_⟩
  · rw [setRow_other w x _ cs (by omega)]; exact h.pl.1
  · exact Nat.lt_of_lt_of_le (h.l15 y (by rw [upd_ne (by omega)] at hy; exact hy)) hb.size
  · exact Nat.lt_of_lt_of_le (h.l16 y (by rw [upd_ne (by omega)] at hy; exact hy)) hb.size
theorem keep17 {j : Nat} {v : Value} {x : Nat} {cs : Array Value} (h15 : Cell B (f 15) w cs x) (hd : f 16 ≠ f 15) (hz : (ints .u8 b1).size = 64) (hj : j ≠ 17) (h : G V B b1 b2 j f w) : G V B b1 b2 j (upd f 17 v) (w.setRow x (ints .u8 b1)) := by
  have hne : ∀ {c : Array Value} {y : Nat}, Cell B (f 16) w c y → y ≠ x := fun hc e => hd (by rw [hc.1, h15.1, e])
  refine ⟨fun u hu => (upd_ne hj).trans (h.val u hu), fun hj5 => ?_, fun hj6 => ?_, fun hj7 => absurd hj7 hj, fun hj8 => ?_⟩
  · rw [upd_ne (show 15 ≠ 17 by decide), upd_ne (show 16 ≠ 17 by decide)]
    exact ⟨x, _, ⟨h15.1, setRow_heap _ _ _ _ _ _ h15.2.1, h15.2.2⟩, hz, hd⟩
  · obtain ⟨y, c, a, b, _⟩ := h.g16 hj6
    rw [upd_ne (show 15 ≠ 17 by decide), upd_ne (show 16 ≠ 17 by decide)]
    exact ⟨y, c, ⟨a.1, (setRow_other _ _ _ _ (hne a)).trans a.2.1, a.2.2⟩, b, fun e => hd e.symm⟩
  · obtain ⟨y, a⟩ := h.g18 hj8
    rw [upd_ne (show 16 ≠ 17 by decide)]
    exact ⟨y, ⟨a.1, (setRow_other _ _ _ _ (hne a)).trans a.2.1, a.2.2⟩⟩
theorem keep18 {j : Nat} {v : Value} {x : Nat} {cs : Array Value} (h16 : Cell B (f 16) w cs x) (hd : f 15 ≠ f 16) (hz : (ints .u8 b2).size = 64) (hj : j ≠ 18) (h : G V B b1 b2 j f w) : G V B b1 b2 j (upd f 18 v) (w.setRow x (ints .u8 b2)) := by
  have hne : ∀ {c : Array Value} {y : Nat}, Cell B (f 15) w c y → y ≠ x := fun hc e => hd (by rw [hc.1, h16.1, e])
  refine ⟨fun u hu => (upd_ne hj).trans (h.val u hu), fun hj5 => ?_, fun hj6 => ?_, fun hj7 => ?_, fun hj8 => absurd hj8 hj⟩
  · obtain ⟨y, c, a, b, _⟩ := h.g15 hj5
    rw [upd_ne (show 15 ≠ 18 by decide), upd_ne (show 16 ≠ 18 by decide)]
    exact ⟨y, c, ⟨a.1, (setRow_other _ _ _ _ (hne a)).trans a.2.1, a.2.2⟩, b, fun e => hd e.symm⟩
  · rw [upd_ne (show 15 ≠ 18 by decide), upd_ne (show 16 ≠ 18 by decide)]
    exact ⟨x, _, ⟨h16.1, setRow_heap _ _ _ _ _ _ h16.2.1, h16.2.2⟩, hz, hd⟩
  · obtain ⟨y, a⟩ := h.g17 hj7
    rw [upd_ne (show 15 ≠ 18 by decide)]
    exact ⟨y, ⟨a.1, (setRow_other _ _ _ _ (hne a)).trans a.2.1, a.2.2⟩⟩
theorem new17 {v : Value} {x : Nat} {cs : Array Value} (hV : V.length = 15) (h15 : Cell B (f 15) w cs x) : G V B b1 b2 17 (upd f 17 v) (w.setRow x (ints .u8 b1)) :=
  ⟨fun u hu => by have := (List.getElem?_eq_some_iff.1 hu).1; omega, fun e => by omega, fun e => by omega, fun _ => ⟨x, by rw [upd_ne (by decide)]; exact ⟨h15.1, setRow_heap _ _ _ _ _ _ h15.2.1, h15.2.2⟩⟩, fun e => by omega⟩
theorem new18 {v : Value} {x : Nat} {cs : Array Value} (hV : V.length = 15) (h16 : Cell B (f 16) w cs x) : G V B b1 b2 18 (upd f 18 v) (w.setRow x (ints .u8 b2)) :=
  ⟨fun u hu => by have := (List.getElem?_eq_some_iff.1 hu).1; omega, fun e => by omega, fun e => by omega, fun e => by omega, fun _ => ⟨x, by rw [upd_ne (by decide)]; exact ⟨h16.1, setRow_heap _ _ _ _ _ _ h16.2.1, h16.2.2⟩⟩⟩
/-- One operation, what stands behind it hidden. -/
theorem wpList_only {P : Program} {ops : Array Oper} {l : List Oper} {a : Act} {K : Act → World → Prop} (h : ∀ Q', (∀ a w, K a w → Q' .normal a w) → wpList P ops Q' l a w) : wpList P ops (only K) l a w := h _ fun _ _ h => h
theorem ptr_ne {x y : Nat} (h : x ≠ y) : (Value.pointer (some ⟨x, 0, none⟩)) ≠ .pointer (some ⟨y, 0, none⟩) := fun e => h (by injection e with e; injection e with e; injection e)
end StreamFirst
namespace StreamFirst
set_option maxHeartbeats 2000000 in
set_option maxRecDepth 100000 in
theorem walk (key : List Nat) (c : Nat) (nonce : List Nat) (kl : key.length = 32) (kb : ∀ x ∈ key, x < 256) (nl : nonce.length = 12) (nb : ∀ x ∈ nonce, x < 256) (cb : c < Sx.M) (w : World) (hT : TabQ w) :
    Calls Tryd.prog 3 #[.agg (plC key c nonce)] w fun e w' => e = .returned (.bool true) ∧ Below w.heap.size w w' := by
  have HT := hid hT
  have HX1 := hid (fun wx hx => sbytes_any key nonce c 128 128 kb kl nb nl cb (by decide) wx hx)
  have HBA := hid (fun wx hx => block_any key nonce c kb kl nb nl cb wx hx)
  have HBB := hid (fun wx hx => block_any key nonce ((c + 1) % Sx.M) kb kl nb nl (Nat.mod_lt _ (by decide)) wx hx)
  have HG1 := hid (fun i hi => first_get key nonce c i cb hi)
  have HG2 := hid (fun i hi => next_get key nonce c i hi)
  have HXB := hid (Cx.xors_lt key c nonce (List.replicate 128 0) (by intro x hx; rw [List.mem_replicate] at hx; omega))
  have HXL := hid (show (Cx.xors key c nonce (List.replicate 128 0)).length = 128 from by rw [Cx.xors_length, List.length_replicate])
  have HL1 := hid (Cx.block_length key c nonce)
  have HL2 := hid (Cx.block_length key ((c + 1) % Sx.M) nonce)
  have hcw : ((c : Int) + 1) % 4294967296 = (((c + 1) % Sx.M : Nat) : Int) := by unfold Sx.M; omega
  have hc32 : (c : Int) < 4294967296 := by unfold Sx.M at cb; omega
  generalize Cx.xors key c nonce (List.replicate 128 0) = X at *
  generalize Cx.block key c nonce = b1 at *
  generalize Cx.block key ((c + 1) % Sx.M) nonce = b2 at *
  generalize (c + 1) % Sx.M = c1 at *
  have i1 : (Tryd.prog.info? 23).map (·.size) = some (ints .u8 key).toList.length := by rw [ints_llen, kl]; exact info23
  have i2 : (Tryd.prog.info? 26).map (·.size) = some (ints .u8 nonce).toList.length := by rw [ints_llen, nl]; exact info26
  have I1 := hid i1
  have I2 := hid i2
  have HC32 := hid (fun _ : Nat => hc32)
  have HCW := hid (fun _ : Nat => hcw)
  have KL := hid kl
  have NL := hid nl
  clear hT kb nb cb i1 i2 hc32 kl nl hcw
  go_enter Tryd.func3, Tryd.ntmps3
  obtain ⟨PC, hPC⟩ : ∃ PC, PC = plC key c nonce := ⟨_, rfl⟩
  rw [← hPC]
  have HPC := hid hPC
  clear hPC
  go_upto_region 1 with (fail)
  have hp0 : (w.alloc (.cells (PC) 28)).heap[w.heap.size]? = some (.cells (PC) 28 (0, 0)) := heap_alloc_new _ _
  have hb0 : Below w.heap.size w (w.alloc (.cells (PC) 28)) := (Below.refl _ _).alloc (Nat.le_refl _) _
  generalize w.alloc _ = w0 at *
  have HS0 := hid (show PlS w w.heap.size PC w0 from ⟨hp0, HT.out.below hb0 (Nat.le_refl _), hb0, hb0.size⟩)
  clear hp0 hb0
  go_wp2_with fail
  refine (awake3_any _ HS0.out.2.1).mono ?_
  rintro e w1 ⟨rfl, hb1⟩
  have HS1 := hid (HS0.out.keep hb1)
  clear hb1 HS0
  have hp1' := HS1.out.1
  rw [HPC.out] at hp1'
  have rc := plC_ctr hp1' KL.out
  have RK := hid (plC_key hp1')
  have RN := hid (plC_nonce hp1' KL.out)
  clear hp1'
  obtain ⟨SX, hSX⟩ : ∃ SX, SX = str X := ⟨_, rfl⟩
  rw [← hSX] at HX1
  have HSX := hid hSX
  have hzX : SX.size = 128 := by rw [hSX, str_size, HXL.out]
  clear hSX
  go_upto_region 4 with (first
    | (refine wpList_load_mid rfl _ _ rfl w.heap.size 0 rfl _ _ RK.out Tryd.underlying23 rfl I1.out ?_; rw [Array.toArray_toList])
    | (refine wpList_load_mid rfl _ _ rfl w.heap.size 33 rfl _ _ RN.out Tryd.underlying26 rfl I2.out ?_; rw [Array.toArray_toList])
    | (go_at_call 5; refine (HX1.out _ HS1.out.2.1).mono ?_; rintro e w3 ⟨rfl, hb3⟩))
  have HS2 := hid (HS1.out.keep hb3)
  clear hb3 rc RK RN HS1
  refine wp_region_noPanic ?_
  have HQ := hid HS2.out
  refine wp_region_mono (l := [_, _, _, _, _, _, _, _, _, _, _, _, _, _, _, _, _, _, _]) (C w w.heap.size PC) (G (Vs key nonce c c1 b1 b2 w.heap.size) w.heap.size b1 b2) (by kernel_rfl) (by kernel_rfl) (by kernel_rfl) ⟨HQ.out.keep ((Below.refl _ _).drew), fun x hx => (by cases hx), fun x hx => (by cases hx)⟩ ?_ ?_
  · intro i o ho f w4 hC hdep
    refine wpList_only fun Q' hQ => ?_
    have HK := hid hQ
    clear hQ
    have HCC := hid hC
    have hpl := hC.pl.1
    rw [HPC.out] at hpl
    rcases i with _ | _ | _ | _ | _ | _ | _ | _ | _ | _ | _ | _ | _ | _ | _ | _ | _ | _ | _ | i
    · obtain rfl := Option.some.inj ho
      simp only [putL, Act.put, List.setIfInBounds_toArray, List.set_cons_zero, List.set_cons_succ, Nat.zero_add, Nat.reduceAdd]
      go_wp2_with fail
      refine HK.out _ _ ⟨_, ?_, hC.keep (Below.refl _ _) (Or.inl (by decide)), newV rfl rfl, fun j p _ hj _ h => keepV (by decide) (Below.refl _ _) hj h⟩
      simp only [putL, Act.put, List.setIfInBounds_toArray, List.set_cons_zero, List.set_cons_succ, Nat.zero_add, Nat.reduceAdd]
    · obtain rfl := Option.some.inj ho
      have h0 := (dep rfl hdep 0 rfl).val _ rfl
      simp only [putL, Act.put, List.setIfInBounds_toArray, List.set_cons_zero, List.set_cons_succ, Nat.zero_add, Nat.reduceAdd]
      rw [h0]
      refine wpList_load_mid rfl _ _ rfl w.heap.size 0 rfl _ _ (plC_key hpl) Tryd.underlying23 rfl I1.out ?_; rw [Array.toArray_toList]
      go_wp2_with fail
      refine HK.out _ _ ⟨_, ?_, hC.keep (Below.refl _ _) (Or.inl (by decide)), newV rfl rfl, fun j p _ hj _ h => keepV (by decide) (Below.refl _ _) hj h⟩
      simp only [putL, Act.put, List.setIfInBounds_toArray, List.set_cons_zero, List.set_cons_succ, Nat.zero_add, Nat.reduceAdd]
      rw [h0]
    · obtain rfl := Option.some.inj ho
      simp only [putL, Act.put, List.setIfInBounds_toArray, List.set_cons_zero, List.set_cons_succ, Nat.zero_add, Nat.reduceAdd]
      go_wp2_with fail
      refine HK.out _ _ ⟨_, ?_, hC.keep (Below.refl _ _) (Or.inl (by decide)), newV rfl rfl, fun j p _ hj _ h => keepV (by decide) (Below.refl _ _) hj h⟩
      simp only [putL, Act.put, List.setIfInBounds_toArray, List.set_cons_zero, List.set_cons_succ, Nat.zero_add, Nat.reduceAdd]
    · obtain rfl := Option.some.inj ho
      have h2 := (dep rfl hdep 2 rfl).val _ rfl
      have hrc := plC_ctr hpl KL.out
      simp only [putL, Act.put, List.setIfInBounds_toArray, List.set_cons_zero, List.set_cons_succ, Nat.zero_add, Nat.reduceAdd]
      rw [h2]
      go_wp2_with fail
      refine HK.out _ _ ⟨_, ?_, hC.keep (Below.refl _ _) (Or.inl (by decide)), newV rfl rfl, fun j p _ hj _ h => keepV (by decide) (Below.refl _ _) hj h⟩
      simp only [putL, Act.put, List.setIfInBounds_toArray, List.set_cons_zero, List.set_cons_succ, Nat.zero_add, Nat.reduceAdd]
      rw [h2]
    · obtain rfl := Option.some.inj ho
      simp only [putL, Act.put, List.setIfInBounds_toArray, List.set_cons_zero, List.set_cons_succ, Nat.zero_add, Nat.reduceAdd]
      go_wp2_with fail
      refine HK.out _ _ ⟨_, ?_, hC.keep (Below.refl _ _) (Or.inl (by decide)), newV rfl rfl, fun j p _ hj _ h => keepV (by decide) (Below.refl _ _) hj h⟩
      simp only [putL, Act.put, List.setIfInBounds_toArray, List.set_cons_zero, List.set_cons_succ, Nat.zero_add, Nat.reduceAdd]
    · obtain rfl := Option.some.inj ho
      have h4 := (dep rfl hdep 4 rfl).val _ rfl
      simp only [putL, Act.put, List.setIfInBounds_toArray, List.set_cons_zero, List.set_cons_succ, Nat.zero_add, Nat.reduceAdd]
      rw [h4]
      refine wpList_load_mid rfl _ _ rfl w.heap.size 33 rfl _ _ (plC_nonce hpl KL.out) Tryd.underlying26 rfl I2.out ?_; rw [Array.toArray_toList]
      go_wp2_with fail
      refine HK.out _ _ ⟨_, ?_, hC.keep (Below.refl _ _) (Or.inl (by decide)), newV rfl rfl, fun j p _ hj _ h => keepV (by decide) (Below.refl _ _) hj h⟩
      simp only [putL, Act.put, List.setIfInBounds_toArray, List.set_cons_zero, List.set_cons_succ, Nat.zero_add, Nat.reduceAdd]
      rw [h4]
    · obtain rfl := Option.some.inj ho
      have h1 := (dep rfl hdep 1 rfl).val _ rfl
      have h3 := (dep rfl hdep 3 rfl).val _ rfl
      have h5 := (dep rfl hdep 5 rfl).val _ rfl
      simp only [putL, Act.put, List.setIfInBounds_toArray, List.set_cons_zero, List.set_cons_succ, Nat.zero_add, Nat.reduceAdd]
      rw [h1, h3, h5]
      go_wp2_with (go_at_call 6; refine (HBA.out _ hC.pl.2.1).mono ?_; rintro e w5 ⟨rfl, hb5⟩)
      refine HK.out _ _ ⟨_, ?_, hC.keep hb5 (Or.inl (by decide)), newV rfl rfl, fun j p _ hj _ h => keepV (by decide) hb5 hj h⟩
      simp only [putL, Act.put, List.setIfInBounds_toArray, List.set_cons_zero, List.set_cons_succ, Nat.zero_add, Nat.reduceAdd]
      rw [h1, h3, h5]
    · obtain rfl := Option.some.inj ho
      simp only [putL, Act.put, List.setIfInBounds_toArray, List.set_cons_zero, List.set_cons_succ, Nat.zero_add, Nat.reduceAdd]
      go_wp2_with fail
      refine HK.out _ _ ⟨_, ?_, hC.keep (Below.refl _ _) (Or.inl (by decide)), newV rfl rfl, fun j p _ hj _ h => keepV (by decide) (Below.refl _ _) hj h⟩
      simp only [putL, Act.put, List.setIfInBounds_toArray, List.set_cons_zero, List.set_cons_succ, Nat.zero_add, Nat.reduceAdd]
    · obtain rfl := Option.some.inj ho
      have h7 := (dep rfl hdep 7 rfl).val _ rfl
      simp only [putL, Act.put, List.setIfInBounds_toArray, List.set_cons_zero, List.set_cons_succ, Nat.zero_add, Nat.reduceAdd]
      rw [h7]
      refine wpList_load_mid rfl _ _ rfl w.heap.size 0 rfl _ _ (plC_key hpl) Tryd.underlying23 rfl I1.out ?_; rw [Array.toArray_toList]
      go_wp2_with fail
      refine HK.out _ _ ⟨_, ?_, hC.keep (Below.refl _ _) (Or.inl (by decide)), newV rfl rfl, fun j p _ hj _ h => keepV (by decide) (Below.refl _ _) hj h⟩
      simp only [putL, Act.put, List.setIfInBounds_toArray, List.set_cons_zero, List.set_cons_succ, Nat.zero_add, Nat.reduceAdd]
      rw [h7]
    · obtain rfl := Option.some.inj ho
      simp only [putL, Act.put, List.setIfInBounds_toArray, List.set_cons_zero, List.set_cons_succ, Nat.zero_add, Nat.reduceAdd]
      go_wp2_with fail
      refine HK.out _ _ ⟨_, ?_, hC.keep (Below.refl _ _) (Or.inl (by decide)), newV rfl rfl, fun j p _ hj _ h => keepV (by decide) (Below.refl _ _) hj h⟩
      simp only [putL, Act.put, List.setIfInBounds_toArray, List.set_cons_zero, List.set_cons_succ, Nat.zero_add, Nat.reduceAdd]
    · obtain rfl := Option.some.inj ho
      have h9 := (dep rfl hdep 9 rfl).val _ rfl
      have hrc := plC_ctr hpl KL.out
      simp only [putL, Act.put, List.setIfInBounds_toArray, List.set_cons_zero, List.set_cons_succ, Nat.zero_add, Nat.reduceAdd]
      rw [h9]
      go_wp2_with fail
      refine HK.out _ _ ⟨_, ?_, hC.keep (Below.refl _ _) (Or.inl (by decide)), newV rfl rfl, fun j p _ hj _ h => keepV (by decide) (Below.refl _ _) hj h⟩
      simp only [putL, Act.put, List.setIfInBounds_toArray, List.set_cons_zero, List.set_cons_succ, Nat.zero_add, Nat.reduceAdd]
      rw [h9]
    · obtain rfl := Option.some.inj ho
      have h10 := (dep rfl hdep 10 rfl).val _ rfl
      have hc32 := HC32.out 0
      have hcw := HCW.out 0
      simp only [putL, Act.put, List.setIfInBounds_toArray, List.set_cons_zero, List.set_cons_succ, Nat.zero_add, Nat.reduceAdd]
      rw [h10]
      go_wp2_with fail
      refine HK.out _ _ ⟨_, ?_, hC.keep (Below.refl _ _) (Or.inl (by decide)), newV rfl rfl, fun j p _ hj _ h => keepV (by decide) (Below.refl _ _) hj h⟩
      simp only [putL, Act.put, List.setIfInBounds_toArray, List.set_cons_zero, List.set_cons_succ, Nat.zero_add, Nat.reduceAdd]
      rw [h10]
    · obtain rfl := Option.some.inj ho
      simp only [putL, Act.put, List.setIfInBounds_toArray, List.set_cons_zero, List.set_cons_succ, Nat.zero_add, Nat.reduceAdd]
      go_wp2_with fail
      refine HK.out _ _ ⟨_, ?_, hC.keep (Below.refl _ _) (Or.inl (by decide)), newV rfl rfl, fun j p _ hj _ h => keepV (by decide) (Below.refl _ _) hj h⟩
      simp only [putL, Act.put, List.setIfInBounds_toArray, List.set_cons_zero, List.set_cons_succ, Nat.zero_add, Nat.reduceAdd]
    · obtain rfl := Option.some.inj ho
      have h12 := (dep rfl hdep 12 rfl).val _ rfl
      simp only [putL, Act.put, List.setIfInBounds_toArray, List.set_cons_zero, List.set_cons_succ, Nat.zero_add, Nat.reduceAdd]
      rw [h12]
      refine wpList_load_mid rfl _ _ rfl w.heap.size 33 rfl _ _ (plC_nonce hpl KL.out) Tryd.underlying26 rfl I2.out ?_; rw [Array.toArray_toList]
      go_wp2_with fail
      refine HK.out _ _ ⟨_, ?_, hC.keep (Below.refl _ _) (Or.inl (by decide)), newV rfl rfl, fun j p _ hj _ h => keepV (by decide) (Below.refl _ _) hj h⟩
      simp only [putL, Act.put, List.setIfInBounds_toArray, List.set_cons_zero, List.set_cons_succ, Nat.zero_add, Nat.reduceAdd]
      rw [h12]
    · obtain rfl := Option.some.inj ho
      have h8 := (dep rfl hdep 8 rfl).val _ rfl
      have h11 := (dep rfl hdep 11 rfl).val _ rfl
      have h13 := (dep rfl hdep 13 rfl).val _ rfl
      simp only [putL, Act.put, List.setIfInBounds_toArray, List.set_cons_zero, List.set_cons_succ, Nat.zero_add, Nat.reduceAdd]
      rw [h8, h11, h13]
      go_wp2_with (go_at_call 6; refine (HBB.out _ hC.pl.2.1).mono ?_; rintro e w5 ⟨rfl, hb5⟩)
      refine HK.out _ _ ⟨_, ?_, hC.keep hb5 (Or.inl (by decide)), newV rfl rfl, fun j p _ hj _ h => keepV (by decide) hb5 hj h⟩
      simp only [putL, Act.put, List.setIfInBounds_toArray, List.set_cons_zero, List.set_cons_succ, Nat.zero_add, Nat.reduceAdd]
      rw [h8, h11, h13]
    · obtain rfl := Option.some.inj ho
      simp only [putL, Act.put, List.setIfInBounds_toArray, List.set_cons_zero, List.set_cons_succ, Nat.zero_add, Nat.reduceAdd]
      go_wp2_with fail
      refine HK.out _ _ ⟨_, ?_, hC.alloc (Or.inl rfl) _, new15 rfl hC _ (by simp) (Or.inl rfl), fun j p hj hji hp h => keep15 (Or.inl rfl) rfl hji (fun _ e => by subst e; obtain rfl := Option.some.inj hj; exact noDep hp rfl) (fun _ e => by omega) h⟩
      simp only [putL, Act.put, List.setIfInBounds_toArray, List.set_cons_zero, List.set_cons_succ, Nat.zero_add, Nat.reduceAdd]
    · obtain rfl := Option.some.inj ho
      simp only [putL, Act.put, List.setIfInBounds_toArray, List.set_cons_zero, List.set_cons_succ, Nat.zero_add, Nat.reduceAdd]
      go_wp2_with fail
      refine HK.out _ _ ⟨_, ?_, hC.alloc (Or.inr rfl) _, new15 rfl hC _ (by simp) (Or.inr rfl), fun j p hj hji hp h => keep15 (Or.inr rfl) rfl hji (fun _ e => by omega) (fun _ e => by subst e; obtain rfl := Option.some.inj hj; exact noDep hp rfl) h⟩
      simp only [putL, Act.put, List.setIfInBounds_toArray, List.set_cons_zero, List.set_cons_succ, Nat.zero_add, Nat.reduceAdd]
    · obtain rfl := Option.some.inj ho
      obtain ⟨x, cs, hcell, hsz, hd⟩ := (dep rfl hdep 15 rfl).g15 rfl
      have h6 := (dep rfl hdep 6 rfl).val _ rfl
      have hx := hcell.1
      have hz : (ints .u8 b1).size = 64 := by rw [ints_size, HL1.out]
      simp only [putL, Act.put, List.setIfInBounds_toArray, List.set_cons_zero, List.set_cons_succ, Nat.zero_add, Nat.reduceAdd]
      rw [hx, h6]
      refine wpList_store_row rfl _ _ _ rfl x _ rfl rfl _ _ hcell.2.1 (by rw [hz]; exact info31) (by rw [hz, hsz]) (ints_one _ _) ?_
      go_wp2_with fail
      refine HK.out _ _ ⟨undef, ?_, hC.store HT.out hcell.2.2 _ (by decide), new17 rfl hcell, fun j p _ hji _ h => keep17 hcell hd hz hji h⟩
      simp only [putL, Act.put, List.setIfInBounds_toArray, List.set_cons_zero, List.set_cons_succ, Nat.zero_add, Nat.reduceAdd]
      rw [hx, h6]
    · obtain rfl := Option.some.inj ho
      obtain ⟨x, cs, hcell, hsz, hd⟩ := (dep rfl hdep 16 rfl).g16 rfl
      have h14 := (dep rfl hdep 14 rfl).val _ rfl
      have hx := hcell.1
      have hz : (ints .u8 b2).size = 64 := by rw [ints_size, HL2.out]
      simp only [putL, Act.put, List.setIfInBounds_toArray, List.set_cons_zero, List.set_cons_succ, Nat.zero_add, Nat.reduceAdd]
      rw [hx, h14]
      refine wpList_store_row rfl _ _ _ rfl x _ rfl rfl _ _ hcell.2.1 (by rw [hz]; exact info31) (by rw [hz, hsz]) (ints_one _ _) ?_
      go_wp2_with fail
      refine HK.out _ _ ⟨undef, ?_, hC.store HT.out hcell.2.2 _ (by decide), new18 rfl hcell, fun j p _ hji _ h => keep18 hcell hd hz hji h⟩
      simp only [putL, Act.put, List.setIfInBounds_toArray, List.set_cons_zero, List.set_cons_succ, Nat.zero_add, Nat.reduceAdd]
      rw [hx, h14]
    · exact absurd (List.getElem?_eq_some_iff.1 ho).1 (by simp)
  · intro f w4 hC hG
    obtain ⟨x, hx⟩ := (hG 17 (by simp)).g17 rfl
    obtain ⟨y, hy⟩ := (hG 18 (by simp)).g18 rfl
    have HBEL := hid hC.pl.2.2.1
    clear hC hG
    refine NoPanic.normal ?_
    simp only [putL, Act.put, List.setIfInBounds_toArray, List.set_cons_zero, List.set_cons_succ, Nat.zero_add, Nat.reduceAdd]
    rw [hx.1, hy.1]
    have HX := hid hx.2.1
    have HY := hid hy.2.1
    clear hx hy HT HBA HBB HX1 I1 I2 HC32 HCW KL NL HPC HS2 HQ
    go_upto_region 8 with (fail)
    go_loopw [6, 34] (fun _ i wr => ∃ k : Nat, k ≤ 64 ∧ i = .int .i64 k ∧ Row wr x .u8 31 b1 ∧ Row wr y .u8 31 b2 ∧ Below w.heap.size w wr) (fun _ i _ => 64 - (intOf i).toNat)
    case atStart => exact ⟨0, by omega, rfl, HX.out, HY.out, HBEL.out⟩
    case round =>
      clear HX HY HBEL
      obtain ⟨k, hk, rfl, hx, hy, hbel⟩ := hrel
      have HX := hid hx
      have HY := hid hy
      have HBEL := hid hbel
      clear hx hy hbel
      by_cases hlt : k < 64
      · have i1 := fun wx => str_index X HXB.out k (by rw [HXL.out]; omega) wx
        have i2 := fun wx => str_index X HXB.out (64 + k) (by rw [HXL.out]; omega) wx
        have e1 := HG1.out k hlt
        have e2 := HG2.out k hlt
        simp only [← HSX.out, e1, e2, show ((64 + k : Nat) : Int) = 64 + (k : Int) from by omega] at i1 i2
        have ca := Row.cell HX.out k (by rw [HL1.out]; exact hlt)
        have cb := Row.cell HY.out k (by rw [HL2.out]; exact hlt)
        generalize b1.getD k 0 = p at *
        generalize b2.getD k 0 = q at *
        clear e1 e2
        go_upto_region 10 with (fail)
        go_quiet (fail)
        go_wp2
        exact ⟨⟨k + 1, by omega, by go_num, HX.out, HY.out, HBEL.out.trans ⟨rfl, rfl, rfl, Nat.le_refl _, fun _ _ => rfl⟩⟩, by simp [intOf]; omega⟩
      · obtain rfl : k = 64 := by omega
        rw [show ((64 : Nat) : Int) = 64 from rfl]
        go_wp2
        go_ret
        exact ⟨by first | rfl | simp, HBEL.out⟩
noncomputable abbrev laidWorld := laidWorldS

set_option maxRecDepth 100000 in
theorem contract (H : Type) (enc : TypeId × Value → H) (W : World) (base : Nat) (args : Array Value) (ds gs : List (DataW H)) (before : List MemPlace)
    (hval : ∀ (j : Nat) t v, Tryd.f3.params[j]? = some t → args[j]? = some v → Value.okWide Tryd.prog W .any base t v)
    (hW : DataW.Whole enc Tryd.prog Tryd.f3.params.toList Rows.streamFirstSpec.vars false W args.toList ds gs before) (hL : laidMetH Tryd.prog Rows.streamFirstRow.laid W) :
    Calls Tryd.prog 3 args W fun e W' => ∃ v, e = .returned v ∧ Rows.streamFirstSpec.post enc Tryd.prog Tryd.f3 false true false false W args v W' := by
  have hW' := hW
  obtain ⟨p, q, hA0, hV, rfl, hfz, hnd⟩ := hW
  have hA : DataW.TrodAll enc Tryd.prog W 0 (fun _ => true) true Tryd.f3.params.toList args.toList ds p := hA0
  rw [Tryd.params3] at hA hval
  obtain ⟨v0, vs0, d0, ds0, p0, q0, hargs, rfl, rfl, h0, r0⟩ := trodAll_cons hA
  obtain ⟨rfl, rfl, rfl⟩ := trodAll_nil r0
  obtain rfl : args = #[v0] := by cases args; simp_all
  obtain ⟨key0, c0, nonce0, rfl, kl0, kb0, nl0, nb0, cb0⟩ := open_place (hval 0 28 v0 rfl rfl) h0
  refine (walk key0 c0 nonce0 kl0 kb0 nl0 nb0 cb0 W (tabq_of hL)).mono fun e W' ⟨he, hb⟩ => ?_
  subst he
  exact ⟨_, rfl, law_post rfl rfl (by rw [Tryd.params3]; decide +kernel) hW' rfl hb⟩

theorem laid_met (os : Os) : laidMet Tryd.prog Rows.streamFirstRow.laid ((laidWorld os).forCall (fun _ _ => 0) ⟨#[], #[.agg (plC (List.replicate 32 0) 0 (List.replicate 12 0))], []⟩).memory :=
  laidMet_of_run' 8 (by kernel_rfl) (by kernel_rfl)
theorem reads (os : Os) {H : Type} (enc : TypeId × Value → H) : ∃ places, DataW.whole enc Tryd.prog ((laidWorld os).forCall (fun _ _ => 0) ⟨#[], #[.agg (plC (List.replicate 32 0) 0 (List.replicate 12 0))], []⟩).memory Tryd.f3.params.toList Rows.streamFirstSpec.vars false (#[.agg (plC (List.replicate 32 0) 0 (List.replicate 12 0))] : Array Value).toList 8
    = some ([.agg [.agg (List.replicate 32 (.lit (.int .u8 0))), .lit (.int .u32 0), .agg (List.replicate 12 (.lit (.int .u8 0)))]], [], places) :=
  ⟨[], by kernel_rfl⟩

set_option maxRecDepth 100000 in
theorem lifted (os : Os) (started : os.Started) (H : Type) (enc : TypeId × Value → H) (F : Stop.Interp) :
    ReturnsInHanded {} Tryd.checked os 3 .any ((OpenSpec.ofChange Rows.streamFirstSpec).preRow enc Tryd.prog Tryd.f3 Rows.streamFirstRow.domain false Rows.streamFirstRow.laid) (((OpenSpec.ofChange Rows.streamFirstSpec).at F).post enc Tryd.prog Tryd.f3 false true false false) := by
  obtain ⟨places, hx⟩ := reads os enc
  refine returnsInHanded_of_row (C := Tryd.checked) (s := OpenSpec.ofChange Rows.streamFirstSpec) own started (by kernel_rfl) Tryd.func3
    (witness_row_at (enc := enc) (C := Tryd.checked) false (laidWorld os) #[.agg (plC (List.replicate 32 0) 0 (List.replicate 12 0))] rfl (by kernel_rfl) (by kernel_rfl) (by kernel_rfl)
      (OpenSpec.preRow_of_cond 8 hx (by kernel_rfl) (fun k hk => by cases hk) (by kernel_rfl) (laid_met os))) ?_
  intro W base args ds gs before hval hW _ _ _ hL _ _
  exact contract H enc W base args ds gs before hval hW hL

theorem said : Rows.StreamFirstSaid :=
  OpenClaim.holds_of_cond 3 Tryd.f3 rfl rfl rfl rfl rfl rfl rfl ⟨rfl, rfl, rfl, rfl, rfl⟩ rfl rfl rfl rfl rfl (by kernel_rfl) Tryd.func3 (by kernel_rfl)
    (of_decide_eq_true (by kernel_rfl)) (by unfold Func.isWrapper; first | (rw [if_pos (by decide +kernel)]; kernel_rfl) | (rw [if_neg (by decide +kernel)]; exact ⟨rfl, rfl⟩))
    (fun os started H enc _ F => by rw [OpenClaim.pre_eq_preRow]; exact lifted os started H enc F)

theorem plain (f : FuncId) (fn : Func) (hf : Tryd.pinned.checked.prog.funcNamed "sealwax/sealwaxlaw03.StreamFirst" = some f) (hfn : Tryd.pinned.checked.prog.funcs[f]? = some fn) :
    false = Tryd.pinned.checked.prog.looks [] ∧ ∀ (j : Nat) t, fn.params[j]? = some t → Tryd.pinned.checked.prog.wantsStandIn t = false := by
  obtain rfl : f = 3 := Option.some.inj ((show Tryd.prog.funcNamed "sealwax/sealwaxlaw03.StreamFirst" = some 3 by kernel_rfl).symm.trans hf) |>.symm
  obtain rfl : fn = Tryd.f3 := (Option.some.inj (Tryd.func3.symm.trans hfn)).symm
  refine ⟨by kernel_rfl, fun j t ht => ?_⟩
  rw [Tryd.params3] at ht
  have hmem := Array.mem_of_getElem? ht
  exact (show ∀ t ∈ (Tryd.f3.params), Tryd.prog.wantsStandIn t = false from by rw [Tryd.params3]; decide +kernel) t (by rw [Tryd.params3]; exact hmem)

theorem card : Rows.StreamFirstCardSaid :=
  Claim7.holds_tied_plain_at .later [] _ _ _ _ said (fun _ h => by cases h) (by kernel_rfl) (fun _ h => by cases h) streamFirst_row_tie rfl ⟨rfl, rfl⟩ (by kernel_rfl) rfl plain (by kernel_rfl)

end StreamFirst
theorem streamFirst_card : Rows.StreamFirstCardSaid := StreamFirst.card
end Go.Proofs.YtdlghblmhocmfaaDoor
