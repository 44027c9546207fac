/-
  The reference of layer 1: slices of numbers of a call's own, and small laws.
-/
import Derived.Test.YtabhdjahdhhgiaaDoorRefFns
import Derived.Test.YtabhdjahdhhgiaaDoorAnyS
namespace Go.Proofs.YtabhdjahdhhgiaaDoor
open Go.RowKit
open Go.Lib (hid)

theorem info3 : (Tryd.prog.info? 3).map (fun i => (i.zero, i.size, i.bytes)) = some (some (.int .i64 0), 1, 8) := by kernel_rfl
/-- The slice v of the call's own holds the numbers l. -/
def OwnI (w : World) (base : Nat) (v : Value) (l : List Nat) : Prop := w.ownsRow base 3 1 v l.length (ints .i64 l).toList
theorem OwnI.below {w w' : World} {base : Nat} {v : Value} {l : List Nat} (h : OwnI w base v l) (hb : Below w.heap.size w w') : OwnI w' base v l := by
  obtain ⟨h1, h2⟩ := h
  refine ⟨h1, ?_⟩
  rcases h2 with h2 | ⟨g, cap, cur, hv, hg, hh, r⟩
  · exact Or.inl h2
  · exact Or.inr ⟨g, cap, cur, hv, hg, by rw [hb.block g (Array.getElem?_eq_some_iff.1 hh).1]; exact hh, r⟩
theorem OwnI.opened {w : World} {base : Nat} {v : Value} {l : List Nat} (h : OwnI w base v l) (hl : 0 < l.length) :
    ∃ g cap, v = .slice (some ⟨g, 0, none⟩) l.length cap ∧ ∀ i, i < l.length → w.cell? ⟨g, i, none⟩ = some (.int .i64 (l.getD i 0 : Nat)) := by
  obtain ⟨h1, ⟨hv, h0⟩ | ⟨g, cap, cur, hv, hg, hh, hn, _, hs, hc⟩⟩ := h
  · omega
  · refine ⟨g, cap, hv, fun i hi => ?_⟩
    rw [cell_of_row w g i cur _ _ hh]
    have h2 : cur[i]? = (cur.toList.take (l.length * 1))[i]? := by
      rw [List.getElem?_take, if_pos (by omega), Array.getElem?_toList]
    rw [h2, hc, Array.getElem?_toList, ints_get _ _ _ hi]
/-- append(s, x...), s the call's own, x some numbers in memory. -/
theorem wpList_appI {w : World} {ops : Array Oper} {rest : List Oper} {o : Oper} {a : Act} {Q : Exit → Act → World → Prop} (hgd : o.guard = none) (s x : Operand)
    (ho : o.op = .call { callee := .builtin .append, args := #[s, x], argTypes := #[80, 80] })
    (base : Nat) (v : Value) (l : List Nat) (hs : a.eval s = v) (hown : OwnI w base v l)
    (ad : Addr) (m c : Nat) (news : List Nat) (hx : a.eval x = .slice (some ad) m c) (hm : news.length = m) (hnews : ∀ j, j < m → w.cell? (ad.add j) = some (.int .i64 (news.getD j 0 : Nat)))
    (hlen : l.length + m ≤ 1000000000000) (hbase : base ≤ w.heap.size)
    (h : ∀ v' w', OwnI w' base v' (l ++ news) → Below base w w' → wpList Tryd.prog ops Q rest (a.put o.dst v') w') : wpList Tryd.prog ops Q (o :: rest) a w := by
  obtain ⟨i, hi, hz0, hz1, hz2⟩ := info_parts info3
  refine wpList_append_own w hgd s x 80 ho base 3 i (.int .i64 0) 1 8 Tryd.underlying80 hi hz0 hz1 hz2 rfl (by decide) v l.length _ hs hown ad m c (ints .i64 news).toList hx (by rw [ints_llen]; omega) ?_ ?_ (by unfold maxLen; omega) (by omega) hbase ?_
  · intro j u hj
    have hlt : j < news.length := by have := (List.getElem?_eq_some_iff.1 hj).1; rwa [ints_llen] at this
    rw [hnews j (by omega)]
    rw [Array.getElem?_toList, ints_get _ _ _ hlt] at hj
    exact hj
  · intro u hu
    simp only [ints, List.mem_map] at hu
    obtain ⟨y, _, rfl⟩ := hu
    rfl
  · intro v' w' h2 h3 _
    refine h v' w' ?_ ((Below.refl base w).grown h3 hbase ?_)
    · unfold OwnI
      rw [List.length_append, hm]
      have e : (ints .i64 (l ++ news)).toList = (ints .i64 l).toList ++ (ints .i64 news).toList := by simp [ints]
      rw [e]; exact h2
    · intro k hk
      obtain ⟨_, h2' | ⟨g, cap, cur, hv, hg, _⟩⟩ := hown
      · rw [h2'.1] at hk; cases hk
      · rw [hv] at hk; simp only [Value.ownBlock, Option.some.injEq] at hk; omega


namespace Sx
theorem zeros_hit (n j : Nat) (h : j ≤ zeros n) : (n + 1 + j) % 64 = 56 ↔ j = zeros n := by unfold zeros at *; omega
theorem ending_eq (t : List Nat) (n : Nat) : (t ++ 128 :: List.replicate (zeros n) 0) ++ be (8 * n) 8 = t ++ ending n := by simp [ending]
end Sx

theorem one_str (wx : World) (v : Nat) : (convert 57 9 (.slice (some ⟨wx.heap.size, 0, none⟩) 1 1)).run Tryd.prog (wx.alloc (.cells #[.int .u8 (v : Int)] 5)) = .ok (.string (str [v])) (wx.alloc (.cells #[.int .u8 (v : Int)] 5)) :=
  run_str (wx.alloc (.cells #[.int .u8 (v : Int)] 5)) wx.heap.size 0 1 1 5 [v] (heap_alloc_new _ _) (by simp)


theorem extract_mid (T : List Nat) (_hT : ∀ x ∈ T, x < 256) (a b : Nat) : (str T).extract a (a + b) = str ((T.drop a).take b) := by
  apply ByteArray.ext
  apply Array.toList_inj.1
  simp [str, ByteArray.data_extract, List.map_take, List.map_drop]

theorem str_index (l : List Nat) (h : ∀ x ∈ l, x < 256) (i : Nat) (hi : i < l.length) (wx : World) :
    (Instr.index 9 (.string (str l)) (.int .i64 (i : Int))).run Tryd.prog wx = .ok (.int .u8 (l.getD i 0 : Nat)) wx := by
  have hs : i < (str l).size := by rw [str_size]; exact hi
  have hg := str_get l h i hs
  simp [Instr.index, asIntOf, Sem.run_bind, run_underlying Tryd.underlying9, hs, hg]

theorem block_get (T : List Nat) (n k j : Nat) (hk : k < 16) (hj : j < 4) : ((T.drop (64 * n + 4 * k)).take 4).getD j 0 = ((T.drop (64 * n)).take 64).getD (4 * k + j) 0 := by
  simp only [List.getD_eq_getElem?_getD, List.getElem?_take, List.getElem?_drop]
  rw [if_pos hj, if_pos (by omega), Nat.add_assoc]

/-- The word that a round of the first loop lays. -/
theorem word_int (x0 x1 x2 x3 : Nat) : ((((x0 : Int) * 256 + (x1 : Int)) * 256 + (x2 : Int)) * 256 + (x3 : Int)) = ((((x0 * 256 + x1) * 256 + x2) * 256 + x3 : Nat) : Int) := by omega

theorem cells_oneI (w : World) (x : Nat) (t : TypeId) : ∀ j, j < 1 → (w.alloc (.cells #[.int .i64 (x : Int)] t)).cell? ((⟨w.heap.size, 0, none⟩ : Addr).add j) = some (.int .i64 ([x].getD j 0 : Nat)) := by
  intro j hj
  rw [Addr.add_mid, Nat.zero_add, cell_of_row _ _ _ _ _ _ (heap_alloc_new _ _)]
  obtain rfl : j = 0 := by omega
  rfl

theorem wraps_i64 (n : Int) (h0 : 0 ≤ n) (h1 : n < 2 ^ 40) : IntKind.i64.wrap n = n := by rw [IntKind.wrap_i64]; omega
theorem xor64 (a b : Nat) (ha : a < Sx.M) (hb : b < Sx.M) : bits .xor .i64 (a : Int) (b : Int) = ((a ^^^ b : Nat) : Int) :=
  bits_xor_nat .i64 40 (by decide) wraps_i64 a b (by unfold Sx.M at ha; omega) (by unfold Sx.M at hb; omega)
theorem and64 (a b : Nat) (ha : a < Sx.M) (hb : b < Sx.M) : bits .and .i64 (a : Int) (b : Int) = ((a &&& b : Nat) : Int) :=
  (bits_nat .i64 40 (by decide) wraps_i64 a b (by unfold Sx.M at ha; omega) (by unfold Sx.M at hb; omega)).1

theorem next_int (p q X Y nw : Nat) (h : nw = (p + q + X + Y) % Sx.M) : ((p : Int) + (q : Int) + (X : Int) + (Y : Int)) % 4294967296 = (nw : Int) := by
  rw [h]; unfold Sx.M; omega
theorem wsum2 (p q : Nat) (hp : p < Sx.M) (hq : q < Sx.M) : IntKind.i64.wrap ((p : Int) + (q : Int)) = (p : Int) + (q : Int) := by
  unfold Sx.M at hp hq; rw [IntKind.wrap_i64]; omega
theorem wsum3 (p q x : Nat) (hp : p < Sx.M) (hq : q < Sx.M) (hx : x < Sx.M) : IntKind.i64.wrap ((p : Int) + (q : Int) + (x : Int)) = (p : Int) + (q : Int) + (x : Int) := by
  unfold Sx.M at hp hq hx; rw [IntKind.wrap_i64]; omega
theorem wsum4 (p q x y : Nat) (hp : p < Sx.M) (hq : q < Sx.M) (hx : x < Sx.M) (hy : y < Sx.M) : IntKind.i64.wrap ((p : Int) + (q : Int) + (x : Int) + (y : Int)) = (p : Int) + (q : Int) + (x : Int) + (y : Int) := by
  unfold Sx.M at hp hq hx hy; rw [IntKind.wrap_i64]; omega
theorem next_tmod (p q X Y nw : Nat) (h : ((p : Int) + (q : Int) + (X : Int) + (Y : Int)) % 4294967296 = (nw : Int)) : ((p : Int) + (q : Int) + (X : Int) + (Y : Int)).tmod 4294967296 = (nw : Int) := by
  rw [Int.tmod_eq_emod_of_nonneg (by omega), h]
/-- The eight variables hold a state. -/
def StRelI (s : Sx.St) (a b c d e f g h : Value) : Prop :=
  a = .int .i64 (s.a : Int) ∧ b = .int .i64 (s.b : Int) ∧ c = .int .i64 (s.c : Int) ∧ d = .int .i64 (s.d : Int) ∧ e = .int .i64 (s.e : Int) ∧ f = .int .i64 (s.f : Int) ∧ g = .int .i64 (s.g : Int) ∧ h = .int .i64 (s.h : Int)
theorem runB_ok (t : List Nat) (n : Nat) : (Sx.St.of (Sx.runB t n)).Ok := by
  cases n with
  | zero => show (Sx.St.of Sx.H0).Ok; exact ⟨by decide, by decide, by decide, by decide, by decide, by decide, by decide, by decide⟩
  | succ n => exact Sx.St.ok_of _ _
theorem K_lt (k : Nat) : Sx.K.getD k 0 < Sx.M := by
  by_cases h : k < 64
  · exact (show ∀ k, k < 64 → Sx.K.getD k 0 < Sx.M from by decide +kernel) k h
  · simp only [List.getD_eq_getElem?_getD, List.getElem?_eq_none (show Sx.K.length ≤ k from Nat.le_of_not_lt h), Option.getD_none]; decide
theorem turnI (x : Nat) (k : Int) (w : World) (h0 : 0 ≤ k) (hk : k ≤ 31) (hx : x < Sx.M) :
    Calls Tryd.prog 40 #[.int .i64 (x : Int), .int .i64 k] w fun e w' => e = .returned (.int .i64 (Sx.rotr x k.toNat : Nat)) ∧ ∃ n, w' = w.drewN n := by
  have h := turn_any x k.toNat (by omega) hx w
  rwa [show ((k.toNat : Nat) : Int) = k from by omega] at h
theorem sumI (a b : Nat) (ha : a < 2 ^ 40) (hb : b < 2 ^ 40) : wrap64 ((a : Int) + (b : Int)) = ((a + b : Nat) : Int) := by
  unfold wrap64; omega
theorem subI (a : Nat) (ha : a < Sx.M) : wrap64 (4294967295 - (a : Int)) = ((Sx.M - 1 - a : Nat) : Int) := by
  unfold Sx.M at *; unfold wrap64; omega
namespace Sx
theorem bs1_lt (e : Nat) (he : e < M) : bs1 e < M := xor32_lt _ _ (xor32_lt _ _ (rotr_lt e 6 (by omega) he) (rotr_lt e 11 (by omega) he)) (rotr_lt e 25 (by omega) he)
theorem bs0_lt (e : Nat) (he : e < M) : bs0 e < M := xor32_lt _ _ (xor32_lt _ _ (rotr_lt e 2 (by omega) he) (rotr_lt e 13 (by omega) he)) (rotr_lt e 22 (by omega) he)
theorem chs_lt (e f g : Nat) (hf : f < M) (hg : g < M) : chs e f g < M := xor32_lt _ _ (and32_lt _ _ hf) (and32_lt _ _ hg)
theorem maj_lt (a b c : Nat) (hb : b < M) (hc : c < M) : maj a b c < M := xor32_lt _ _ (xor32_lt _ _ (and32_lt _ _ hb) (and32_lt _ _ hc)) (and32_lt _ _ hc)
end Sx
theorem rnd_xI (e f g h k w : Nat) (he : e < Sx.M) (hf : f < Sx.M) (hg : g < Sx.M) (hh : h < Sx.M) (hk : k < Sx.M) (hw : w < Sx.M) :
    wrap64 (wrap64 (wrap64 (wrap64 ((h : Int) + bits .xor .i64 (bits .xor .i64 (Sx.rotr e 6 : Nat) (Sx.rotr e 11 : Nat)) (Sx.rotr e 25 : Nat)) + bits .xor .i64 (bits .and .i64 (e : Int) (f : Int)) (bits .and .i64 (wrap64 (4294967295 - (e : Int))) (g : Int))) + (k : Int)) + (w : Int))
      = ((h + Sx.bs1 e + Sx.chs e f g + k + w : Nat) : Int) := by
  have r1 := Sx.rotr_lt e 6 (by omega) he
  have r2 := Sx.rotr_lt e 11 (by omega) he
  have r3 := Sx.rotr_lt e 25 (by omega) he
  have b1 := Sx.bs1_lt e he
  have b2 := Sx.chs_lt e f g hf hg
  have hs : Sx.M - 1 - e < Sx.M := by unfold Sx.M at *; omega
  rw [xor64 _ _ r1 r2, xor64 _ _ (xor32_lt _ _ r1 r2) r3, and64 _ _ he hf, subI e he, and64 _ _ hs hg, xor64 _ _ (and32_lt _ _ hf) (and32_lt _ _ hg)]
  change wrap64 (wrap64 (wrap64 (wrap64 ((h : Int) + (Sx.bs1 e : Nat)) + (Sx.chs e f g : Nat)) + (k : Int)) + (w : Int)) = _
  unfold Sx.M at *
  rw [sumI _ _ (by omega) (by omega), sumI _ _ (by omega) (by omega), sumI _ _ (by omega) (by omega), sumI _ _ (by omega) (by omega)]
theorem rnd_yI (a b c : Nat) (ha : a < Sx.M) (hb : b < Sx.M) (hc : c < Sx.M) :
    wrap64 (bits .xor .i64 (bits .xor .i64 (Sx.rotr a 2 : Nat) (Sx.rotr a 13 : Nat)) (Sx.rotr a 22 : Nat) + bits .xor .i64 (bits .xor .i64 (bits .and .i64 (a : Int) (b : Int)) (bits .and .i64 (a : Int) (c : Int))) (bits .and .i64 (b : Int) (c : Int)))
      = ((Sx.bs0 a + Sx.maj a b c : Nat) : Int) := by
  have r1 := Sx.rotr_lt a 2 (by omega) ha
  have r2 := Sx.rotr_lt a 13 (by omega) ha
  have r3 := Sx.rotr_lt a 22 (by omega) ha
  have b1 := Sx.bs0_lt a ha
  have b2 := Sx.maj_lt a b c hb hc
  rw [xor64 _ _ r1 r2, xor64 _ _ (xor32_lt _ _ r1 r2) r3, and64 _ _ ha hb, and64 _ _ ha hc, and64 _ _ hb hc, xor64 _ _ (and32_lt _ _ hb) (and32_lt _ _ hc), xor64 _ _ (xor32_lt _ _ (and32_lt _ _ hb) (and32_lt _ _ hc)) (and32_lt _ _ hc)]
  change wrap64 (((Sx.bs0 a : Nat) : Int) + ((Sx.maj a b c : Nat) : Int)) = _
  unfold Sx.M at *
  rw [sumI _ _ (by omega) (by omega)]
theorem modI (x : Nat) : (x : Int) % 4294967296 = ((x % Sx.M : Nat) : Int) := by unfold Sx.M; omega
theorem tmodI (x : Nat) : (x : Int).tmod 4294967296 = ((x % Sx.M : Nat) : Int) := by rw [Int.tmod_eq_emod_of_nonneg (by omega), modI]
theorem list_lt (s : Sx.St) (o : s.Ok) (k : Nat) : s.list.getD k 0 < Sx.M := by
  refine getD_lt (by decide) ?_ k
  intro x hx
  simp only [Sx.St.list, List.mem_cons, List.not_mem_nil, or_false] at hx
  rcases hx with rfl | rfl | rfl | rfl | rfl | rfl | rfl | rfl
  · exact o.a
  · exact o.b
  · exact o.c
  · exact o.d
  · exact o.e
  · exact o.f
  · exact o.g
  · exact o.h
theorem mixed_lt (t : List Nat) (n : Nat) (b : List Nat) (k : Nat) : (Sx.mixed (Sx.runB t n) b).getD k 0 < Sx.M :=
  list_lt _ ((runB_ok t n).rounds (Sx.sched b 48) 64) k
theorem out_take (R : List Nat) (k : Nat) (h : k < R.length) : Sx.out (R.take k) ++ Sx.bytes4 (R.getD k 0) = Sx.out (R.take (k + 1)) := by
  rw [List.take_succ_eq_append_getElem h, List.getD_eq_getElem?_getD, List.getElem?_eq_getElem h]
  simp only [Sx.out, List.flatMap_append, List.flatMap_cons, List.flatMap_nil, List.append_nil, Option.getD_some]
theorem wrap_u8_nat (x : Nat) (h : x < 256) : IntKind.u8.wrap (x : Int) = (x : Int) := by
  simp [IntKind.wrap, IntKind.bits, IntKind.signed]; omega
theorem cells_four (w : World) (x y z u : Nat) (t : TypeId) : ∀ j, j < 4 → (w.alloc (.cells #[.int .u8 (x : Int), .int .u8 (y : Int), .int .u8 (z : Int), .int .u8 (u : Int)] t)).cell? ((⟨w.heap.size, 0, none⟩ : Addr).add j) = some (.int .u8 ([x, y, z, u].getD j 0 : Nat)) := by
  intro j hj
  rw [Addr.add_mid, Nat.zero_add, cell_of_row _ _ _ _ _ _ (heap_alloc_new _ _)]
  obtain rfl | rfl | rfl | rfl : j = 0 ∨ j = 1 ∨ j = 2 ∨ j = 3 := by omega
  all_goals rfl
theorem rndX_lt (e f g h k w : Nat) (he : e < Sx.M) (hf : f < Sx.M) (hg : g < Sx.M) (hh : h < Sx.M) (hk : k < Sx.M) (hw : w < Sx.M) : h + Sx.bs1 e + Sx.chs e f g + k + w < 2 ^ 40 := by
  have := Sx.bs1_lt e he; have := Sx.chs_lt e f g hf hg; unfold Sx.M at *; omega
theorem rndY_lt (a b c : Nat) (ha : a < Sx.M) (hb : b < Sx.M) (hc : c < Sx.M) : Sx.bs0 a + Sx.maj a b c < 2 ^ 40 := by
  have := Sx.bs0_lt a ha; have := Sx.maj_lt a b c hb hc; unfold Sx.M at *; omega
theorem M_lt40 (d : Nat) (h : d < Sx.M) : d < 2 ^ 40 := by unfold Sx.M at h; omega
end Go.Proofs.YtabhdjahdhhgiaaDoor
