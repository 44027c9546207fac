/-
  Layer 15: the library's functions at rows of texts that are owned: Insert, BinarySearch, Contains.
-/
import Derived.Test.YtaipaifnkpgmhaaWs0
import Derived.Test.YtaipaifnkpgmhaaShelf
import Derived.Shelf.Spec.SearchS
import Derived.Shelf.Spec.SlicesInsertGrow
namespace Go.Proofs.Ytaipaifnkpgmhaa
open Go.ChangeShapes Go.WideShapes Go.ChangeAt Go.RowKit Go.Shelf
open Go.Lib (hid)

attribute [local go_sem] Oper.semAt_some

theorem heap_setCells_other (b : Nat) : ∀ (vs : List Value) (o : Nat) (w : World) (k : Nat), k ≠ b → (w.setCells b o vs).heap[k]? = w.heap[k]?
  | [], _, _, _, _ => rfl
  | v :: r, o, w, k, h => by
    rw [World.setCells, heap_setCells_other b r _ _ k h, heap_setCell_other _ _ _ _ h]
theorem heap_setCells_size (b : Nat) : ∀ (vs : List Value) (o : Nat) (w : World), (w.setCells b o vs).heap.size = w.heap.size
  | [], _, _ => rfl
  | v :: r, o, w => by rw [World.setCells, heap_setCells_size b r]; simp [World.setCell]
theorem setCells_parts (b : Nat) : ∀ (vs : List Value) (o : Nat) (w : World), (w.setCells b o vs).os = w.os ∧ (w.setCells b o vs).tape = w.tape ∧ (w.setCells b o vs).output = w.output
  | [], _, _ => ⟨rfl, rfl, rfl⟩
  | v :: r, o, w => by
    have h := setCells_parts b r (o + 1) (w.setCell ⟨b, o, none⟩ v)
    exact ⟨h.1.trans rfl, h.2.1.trans rfl, h.2.2.trans rfl⟩
theorem heap_setCells (b : Nat) (t : TypeId) : ∀ (vs : List Value) (o : Nat) (w : World) (cs : Array Value), w.heap[b]? = some (.cells cs t (0, 0)) → o + vs.length ≤ cs.size →
    (w.setCells b o vs).heap[b]? = some (.cells (cs.toList.take o ++ vs ++ cs.toList.drop (o + vs.length)).toArray t (0, 0))
  | [], o, w, cs, h, _ => by
    rw [World.setCells, h]
    simp
  | v :: r, o, w, cs, h, hl => by
    have hl' : o + (r.length + 1) ≤ cs.size := by simpa using hl
    rw [World.setCells, heap_setCells b t r (o + 1) _ _ (heap_setCell_same w b o cs t v h) (by rw [Array.size_setIfInBounds]; omega)]
    have ho : o < cs.toList.length := by rw [Array.length_toList]; omega
    have e : (cs.toList.set o v).take (o + 1) = cs.toList.take o ++ [v] := by
      rw [List.take_succ_eq_append_getElem (by rw [List.length_set]; exact ho), List.getElem_set_self, List.take_set_of_le (Nat.le_refl _)]
    rw [Array.toList_setIfInBounds, e, List.drop_set_of_lt (by omega)]
    simp only [List.append_assoc, List.singleton_append, List.length_cons, show o + 1 + r.length = o + (r.length + 1) from by omega]
theorem grownBy_setCells {w : World} {b : Nat} (o : Nat) (vs : List Value) {v : Value} (hv : v.ownBlock = some b) : w.grownBy (w.setCells b o vs) v.ownBlock := by
  obtain ⟨h1, h2, h3⟩ := setCells_parts b vs o w
  exact ⟨h1, h2, h3, by rw [heap_setCells_size]; exact Nat.le_refl _, fun k _ hk => heap_setCells_other b vs o w k (fun e => hk (by rw [hv, e]))⟩
theorem _root_.Go.World.grownBy.trans' {u v w : World} {row : Option Nat} (h : u.grownBy v row) (k : v.grownBy w row) : u.grownBy w row :=
  ⟨k.os.trans h.os, k.tape.trans h.tape, k.output.trans h.output, Nat.le_trans h.size k.size, fun i hi hb => (k.block i (Nat.lt_of_lt_of_le hi h.size) hb).trans (h.block i hi hb)⟩
theorem grownBy_drew (w : World) (row : Option Nat) : w.grownBy w.drew row := ⟨rfl, rfl, rfl, Nat.le_refl _, fun _ _ _ => rfl⟩
theorem grownBy_of_below {w w' : World} (row : Option Nat) (h : Below w.heap.size w w') : w.grownBy w' row := ⟨h.os, h.tape, h.output, h.size, fun k hk _ => h.block k hk⟩
theorem oneS (L : List (List Nat)) : ∀ v ∈ L.map (fun l => Value.string (str l)), v.oneCell' = true := by
  intro v hv
  obtain ⟨l, _, rfl⟩ := List.mem_map.1 hv
  rfl
def vS (l : List Nat) : Value := .string (str l)
theorem mapS_take (L : List (List Nat)) : (L.map fun l => Value.string (str l)).take L.length = L.map fun l => Value.string (str l) := List.take_of_length_le (by simp)
theorem mapS_drop (L : List (List Nat)) : (L.map fun l => Value.string (str l)).drop L.length = [] := List.drop_of_length_le (by simp)
theorem zcells (n : Nat) : (Builtin.zeroCells (Value.string ⟨#[]⟩).cells n).size = n := by simp [Builtin.zeroCells, Value.cells]
set_option maxHeartbeats 1000000 in
set_option maxRecDepth 100000 in
theorem insert_any (w : World) (base : Nat) (v : Value) (L : List (List Nat)) (hown : OwnS w base v L) (hbase : base ≤ w.heap.size) (k : Nat) (hk : k ≤ L.length) (x : List Nat) (vb : Nat)
    (hvb : w.heap[vb]? = some (.cells #[.string (str x)] 9 (0, 0))) (hne : some vb ≠ v.ownBlock) (hL : L.length ≤ 1000) :
    Calls Try.prog 22 #[v, .int .i64 (k : Int), .slice (some ⟨vb, 0, none⟩) 1 1] w fun e w' =>
      ∃ v', e = .returned v' ∧ OwnS w' base v' (L.take k ++ [x] ++ L.drop k) ∧ w.grownBy w' v.ownBlock ∧ ∀ b, some b = v'.ownBlock → some b = v.ownBlock ∨ w.heap.size ≤ b := by
  have hvs : ∀ j u, ([Value.string (str x)])[j]? = some u → w.cell? ⟨vb, 0 + j, none⟩ = some u := by
    intro j u hj
    rw [Nat.zero_add, cell_of_row w vb j _ _ _ hvb, ← Array.getElem?_toList]
    exact hj
  have h1v : ∀ u ∈ [Value.string (str x)], u.oneCell' = true := by intro u hu; simp only [List.mem_singleton] at hu; subst hu; rfl
  have hlen : (L.take k ++ [x] ++ L.drop k).length = L.length + 1 := by simp; omega
  have hmap : (L.take k ++ [x] ++ L.drop k).map (fun l => Value.string (str l)) = (L.map fun l => Value.string (str l)).take k ++ [Value.string (str x)] ++ (L.map fun l => Value.string (str l)).drop k := by
    simp [List.map_take, List.map_drop]
  obtain ⟨hl, ⟨rfl, h0⟩ | ⟨g, cap, cur, rfl, hg, hh, hn, hc, hs, ht⟩⟩ := hown
  · obtain rfl : L = [] := List.eq_nil_of_length_eq_zero h0
    obtain rfl : k = 0 := by simpa using hk
    refine (Any2.slices_Insert_string_end_grow Try.laysNm222 none 0 0 vb 0 1 1 [] [Value.string (str x)] w (by decide) (by decide) (by decide) (by decide) rfl rfl (fun _ => rfl) (fun a h => by cases h) hvs h1v).mono ?_
    rintro e w' ⟨rfl, rfl⟩
    obtain ⟨G, hG⟩ : ∃ G, G = grownCap w (0 + 1) 0 9 := ⟨_, rfl⟩
    have hG1 : 1 ≤ G := by rw [hG]; exact grownCap_ge w 1 0 9
    have hG2 : G ≤ maxLen := by rw [hG]; exact grownCap_le_maxLen w 1 0 9 (by decide)
    change ∃ v', Ending.returned (Value.slice (some ⟨w.heap.size, 0, none⟩) (0 + 1) (grownCap w (0 + 1) 0 9)) = .returned v' ∧ OwnS (w.drew.alloc (.cells (([] ++ [Value.string (str x)]).toArray ++ Builtin.zeroCells (Value.string ⟨#[]⟩).cells (grownCap w (0 + 1) 0 9 - (0 + 1))) 9)) base v' _ ∧ w.grownBy _ _ ∧ _
    rw [← hG]
    refine ⟨_, rfl, ⟨rfl, .inr ⟨w.heap.size, G, _, rfl, hbase, heap_alloc_new _ _, hG1, hG2, ?_, ?_⟩⟩, ?_, ?_⟩
    · rw [Array.size_append, zcells]; simp; omega
    · simp
    · exact (grownBy_drew w _).trans' (grownBy_of_below _ ((Below.refl _ _).alloc (Nat.le_refl _) _))
    · intro b hb
      simp only [Value.ownBlock, Option.some.injEq] at hb
      exact Or.inr (by omega)
  · have hcs : ∀ j u, (L.map fun l => Value.string (str l))[j]? = some u → w.cell? ⟨g, 0 + j, none⟩ = some u := by
      intro j u hj
      have hjl : j < L.length := by have := (List.getElem?_eq_some_iff.1 hj).1; simpa using this
      rw [← ht, List.getElem?_take, if_pos (by omega)] at hj
      rw [Nat.zero_add, cell_of_row w g j _ _ _ hh, ← Array.getElem?_toList]
      exact hj
    have hsome : ∀ j, j < cap → (w.cell? ⟨g, j, none⟩).isSome = true := by
      intro j hj
      rw [cell_of_row w g j _ _ _ hh, Array.getElem?_eq_getElem (by omega)]
      rfl
    have hfr : ∀ j, w.frozen? ⟨g, j, none⟩ = false := fun j => frozen_of_row w g j _ _ hh
    have hcur : cur.toList.take L.length = L.map fun l => Value.string (str l) := by simpa using ht
    have hcl : cur.toList.length = cap := by rw [Array.length_toList]; omega
    have hgl : g < w.heap.size := (Array.getElem?_eq_some_iff.1 hh).1
    have hvb' : vb ≠ g := fun e => hne (by rw [e]; rfl)
    by_cases hroom : L.length + 1 ≤ cap
    · by_cases hkn : k = L.length
      · subst hkn
        refine (Any2.slices_Insert_string_end_room Try.laysNm222 g 0 L.length cap vb 0 1 1 [Value.string (str x)] w (by decide) hroom (by unfold maxLen at hc; omega) rfl (fun j hj => hsome _ (by omega)) (fun j _ => hfr _) hvs h1v).mono ?_
        rintro e w' ⟨rfl, rfl⟩
        refine ⟨_, rfl, ⟨?_, .inr ⟨g, cap, _, ?_, hg, heap_setCells g _ _ _ w cur hh (by simp; omega), ?_, hc, ?_, ?_⟩⟩, grownBy_setCells _ _ rfl, fun b hb => Or.inl hb⟩
        · simp
        · rw [hlen]
        · rw [hlen]; exact hroom
        · simp; omega
        · rw [hlen, hmap]
          simp only [Nat.zero_add, List.toList_toArray]
          rw [hcur, List.take_left' (by simp), mapS_take, mapS_drop]
          simp
      · refine (Any2.slices_Insert_string_shift Try.laysNm222 g 0 L.length cap k vb 0 1 1 (L.map fun l => Value.string (str l)) [Value.string (str x)] w (by omega) (by decide) hroom (by unfold maxLen at hc; omega) hvb' (by simp) rfl hcs (fun j hj => by rw [Nat.zero_add]; exact hsome _ (by omega)) (fun j _ => hfr _) hvs (oneS L) h1v 9 9 1 cur.size ?_ ?_ ?_ ?_ ?_).mono ?_
        · exact (show w.shape? vb = some (9, 1) from by unfold World.shape?; rw [hvb]; rfl)
        · exact (show w.shape? g = some (9, cur.size) from by unfold World.shape?; rw [hh])
        · omega
        · exact frozen_of_row w vb 0 _ _ hvb
        · exact frozen_of_row w vb 1 _ _ hvb
        rintro e w' ⟨rfl, rfl⟩
        have hz : (w.drew.setCells g (0 + (k + 1)) ((L.map fun l => Value.string (str l)).drop k)).heap[g]? = _ := heap_setCells g 9 _ (0 + (k + 1)) w.drew cur hh (by simp; omega)
        have hy := heap_setCells g 9 [Value.string (str x)] (0 + k) _ _ hz (by simp; omega)
        refine ⟨_, rfl, ⟨?_, .inr ⟨g, cap, _, ?_, hg, hy, ?_, hc, ?_, ?_⟩⟩, ((grownBy_drew w _).trans' (grownBy_setCells _ _ rfl)).trans' (grownBy_setCells _ _ rfl), fun b hb => Or.inl hb⟩
        · simp
        · rw [hlen]
        · rw [hlen]; exact hroom
        · simp; omega
        · rw [hlen, hmap]
          simp only [Nat.zero_add, List.toList_toArray, List.length_singleton, Nat.mul_one]
          generalize hM : (L.map fun l => Value.string (str l)) = Mv at *
          have hMl : Mv.length = L.length := by rw [← hM]; simp
          have e1 : cur.toList.take k = Mv.take k := by rw [← hcur, List.take_take, Nat.min_eq_left hk]
          have e2 : (List.take (k + 1) cur.toList ++ List.drop k Mv ++ List.drop (k + 1 + (List.drop k Mv).length) cur.toList).take k = Mv.take k := by
            rw [List.append_assoc, List.take_append_of_le_length (by simp; omega), List.take_take, Nat.min_eq_left (by omega), e1]
          have e3 : (List.take (k + 1) cur.toList ++ List.drop k Mv ++ List.drop (k + 1 + (List.drop k Mv).length) cur.toList).drop (k + 1) = List.drop k Mv ++ List.drop (k + 1 + (List.drop k Mv).length) cur.toList := by
            rw [List.append_assoc, List.drop_left' (by simp; omega)]
          rw [e2, e3, ← List.append_assoc, List.take_left' (by simp; omega)]
    · have hcc : cap = L.length := by omega
      by_cases hkn : k = L.length
      · subst hkn
        refine (Any2.slices_Insert_string_end_grow Try.laysNm222 (some ⟨g, 0, none⟩) L.length cap vb 0 1 1 (L.map fun l => Value.string (str l)) [Value.string (str x)] w (by decide) hn (by omega) (by omega) (by simp) rfl (fun h => by cases h) (fun a h j u hj => by
          cases h
          rw [Addr.add_lit]
          exact hcs j u hj) hvs h1v).mono ?_
        rintro e w' ⟨rfl, rfl⟩
        obtain ⟨G, hG⟩ : ∃ G, G = grownCap w (L.length + 1) cap 9 := ⟨_, rfl⟩
        have hG1 : L.length + 1 ≤ G := by rw [hG]; exact grownCap_ge w _ _ 9
        have hG2 : G ≤ maxLen := by rw [hG]; exact grownCap_le_maxLen w _ _ 9 (by unfold maxLen; omega)
        change ∃ v', Ending.returned (Value.slice (some ⟨w.heap.size, 0, none⟩) (L.length + 1) (grownCap w (L.length + 1) cap 9)) = .returned v' ∧ OwnS (w.drew.alloc (.cells (((L.map fun l => Value.string (str l)) ++ [Value.string (str x)]).toArray ++ Builtin.zeroCells (Value.string ⟨#[]⟩).cells (grownCap w (L.length + 1) cap 9 - (L.length + 1))) 9)) base v' _ ∧ w.grownBy _ _ ∧ _
        rw [← hG]
        refine ⟨_, rfl, ⟨?_, .inr ⟨w.heap.size, G, _, ?_, hbase, heap_alloc_new _ _, ?_, hG2, ?_, ?_⟩⟩, ?_, ?_⟩
        · simp
        · rw [hlen]
        · rw [hlen]; exact hG1
        · rw [Array.size_append, zcells]; simp; omega
        · rw [hlen, hmap]
          simp only [Array.toList_append, Nat.mul_one]
          rw [List.take_left' (by simp), mapS_take, mapS_drop]
          simp
        · exact (grownBy_drew w _).trans' (grownBy_of_below _ ((Below.refl _ _).alloc (Nat.le_refl _) _))
        · intro b hb
          simp only [Value.ownBlock, Option.some.injEq] at hb
          exact Or.inr (by omega)
      · refine (Any2.slices_Insert_string_grow Try.laysNm222 g 0 L.length cap k vb 0 1 1 (L.map fun l => Value.string (str l)) [Value.string (str x)] w (by omega) (by decide) hn (by omega) (by omega) (by simp) rfl hcs hvs (oneS L) h1v).mono ?_
        rintro e w' ⟨he, hw⟩
        obtain ⟨G, hG⟩ : ∃ G, G = grownCap w (L.length + 1) cap 9 := ⟨_, rfl⟩
        have hG1 : L.length + 1 ≤ G := by rw [hG]; exact grownCap_ge w _ _ 9
        have hG2 : G ≤ maxLen := by rw [hG]; exact grownCap_le_maxLen w _ _ 9 (by unfold maxLen; omega)
        change e = Ending.returned (Value.slice (some ⟨w.heap.size, 0, none⟩) (L.length + 1) (grownCap w (L.length + 1) cap 9)) at he
        change w' = (((w.alloc (.cells (((L.map fun l => Value.string (str l)).take k).toArray ++ Builtin.zeroCells (Value.string ⟨#[]⟩).cells (L.length + 1 - k) ++ Builtin.zeroCells (Value.string ⟨#[]⟩).cells (grownCap w (L.length + 1) cap 9 - (L.length + 1))) 9)).drew.setCells w.heap.size k [Value.string (str x)]).drew).setCells w.heap.size (k + 1) ((L.map fun l => Value.string (str l)).drop k) at hw
        rw [← hG] at he hw
        subst he hw
        have hx0 := heap_alloc_new w (.cells (((L.map fun l => Value.string (str l)).take k).toArray ++ Builtin.zeroCells (Value.string ⟨#[]⟩).cells (L.length + 1 - k) ++ Builtin.zeroCells (Value.string ⟨#[]⟩).cells (G - (L.length + 1))) 9)
        have hsz0 : (((L.map fun l => Value.string (str l)).take k).toArray ++ Builtin.zeroCells (Value.string ⟨#[]⟩).cells (L.length + 1 - k) ++ Builtin.zeroCells (Value.string ⟨#[]⟩).cells (G - (L.length + 1))).size = G := by
          rw [Array.size_append, Array.size_append, zcells, zcells]; simp; omega
        have ht0 : (((L.map fun l => Value.string (str l)).take k).toArray ++ Builtin.zeroCells (Value.string ⟨#[]⟩).cells (L.length + 1 - k) ++ Builtin.zeroCells (Value.string ⟨#[]⟩).cells (G - (L.length + 1))).toList.take k = (L.map fun l => Value.string (str l)).take k := by
          simp only [Array.toList_append, List.append_assoc]
          rw [List.take_left' (by simp; omega)]
        generalize ((L.map fun l => Value.string (str l)).take k).toArray ++ Builtin.zeroCells (Value.string ⟨#[]⟩).cells (L.length + 1 - k) ++ Builtin.zeroCells (Value.string ⟨#[]⟩).cells (G - (L.length + 1)) = R0 at *
        have hb0 : w.grownBy (w.alloc (.cells R0 9)) (Value.slice (some ⟨g, 0, none⟩) L.length cap).ownBlock := grownBy_of_below _ ((Below.refl _ _).alloc (Nat.le_refl _) _)
        generalize w.alloc (.cells R0 9) = w1 at *
        have hz := heap_setCells w.heap.size 9 [Value.string (str x)] k w1.drew R0 hx0 (by simp; omega)
        have hz' : ((w1.drew.setCells w.heap.size k [Value.string (str x)]).drew).heap[w.heap.size]? = _ := hz
        have hy := heap_setCells w.heap.size 9 ((L.map fun l => Value.string (str l)).drop k) (k + 1) _ _ hz' (by simp; omega)
        have hkeep : ∀ (o : Nat) (vs : List Value) (wx : World), w.grownBy wx (Value.slice (some ⟨g, 0, none⟩) L.length cap).ownBlock → w.grownBy (wx.setCells w.heap.size o vs) (Value.slice (some ⟨g, 0, none⟩) L.length cap).ownBlock := by
          intro o vs wx h
          obtain ⟨p1, p2, p3⟩ := setCells_parts w.heap.size vs o wx
          exact ⟨p1.trans h.os, p2.trans h.tape, p3.trans h.output, by rw [heap_setCells_size]; exact h.size, fun i hi hb => (heap_setCells_other _ vs o wx i (by omega)).trans (h.block i hi hb)⟩
        refine ⟨_, rfl, ⟨?_, .inr ⟨w.heap.size, G, _, ?_, hbase, hy, ?_, hG2, ?_, ?_⟩⟩, hkeep _ _ _ ((hkeep _ _ _ (hb0.trans' (grownBy_drew _ _))).trans' (grownBy_drew _ _)), ?_⟩
        · simp
        · rw [hlen]
        · rw [hlen]; exact hG1
        · simp; omega
        · rw [hlen, hmap]
          simp only [Nat.mul_one, List.length_singleton]
          rw [ht0]
          generalize hM : (L.map fun l => Value.string (str l)) = Mv at *
          have hMl : Mv.length = L.length := by rw [← hM]; simp
          have hRl : R0.toList.length = G := by rw [Array.length_toList]; exact hsz0
          have e2 : (Mv.take k ++ [Value.string (str x)] ++ R0.toList.drop (k + 1)).take (k + 1) = Mv.take k ++ [Value.string (str x)] := List.take_left' (by simp; omega)
          rw [e2, List.take_left' (by simp; omega)]
        · intro b hb
          simp only [Value.ownBlock, Option.some.injEq] at hb
          exact Or.inr (by omega)
theorem str_inj {a b : List Nat} (ha : ∀ x ∈ a, x < 256) (hb : ∀ x ∈ b, x < 256) (h : str a = str b) : a = b := by rw [← nums_str a ha, ← nums_str b hb, h]
theorem less_str (a b : List Nat) (ha : ∀ x ∈ a, x < 256) (hb : ∀ x ∈ b, x < 256) : Op.bytesLess (str a).toList (str b).toList = Wd.lt a b := by
  rw [str_toList, str_toList, Wd.lt_bytes a b ha hb]
theorem OwnS.cell {w : World} {base : Nat} {v : Value} {L : List (List Nat)} (h : OwnS w base v L) (h0 : 0 < L.length) : ∃ g cap, v = .slice (some ⟨g, 0, none⟩) L.length cap ∧ base ≤ g ∧ L.length ≤ cap ∧ cap ≤ maxLen ∧ (∀ j, w.frozen? ⟨g, j, none⟩ = false) ∧ ∀ j, j < L.length → w.cell? ⟨g, j, none⟩ = some (.string (str (L.getD j []))) := by
  obtain ⟨hl, ⟨rfl, h1⟩ | ⟨g, cap, cur, rfl, hg, hh, hn, hc, hs, ht⟩⟩ := h
  · omega
  · refine ⟨g, cap, rfl, hg, hn, hc, fun j => frozen_of_row w g j _ _ hh, fun j hj => ?_⟩
    rw [cell_of_row w g j _ _ _ hh, ← Array.getElem?_toList]
    have : (cur.toList.take (L.length * 1))[j]? = some (.string (str (L.getD j []))) := by
      rw [ht, List.getElem?_map, List.getElem?_eq_getElem hj, List.getD_eq_getElem?_getD, List.getElem?_eq_getElem hj]
      rfl
    rw [List.getElem?_take, if_pos (by omega)] at this
    exact this
theorem bs_any (w : World) (base : Nat) (v : Value) (L : List (List Nat)) (hown : OwnS w base v L) (x : List Nat) (hs : Wd.Sorted L) (hL : L.length ≤ 1000) (hb : ∀ l ∈ L, ∀ b ∈ l, b < 256) (hx : ∀ b ∈ x, b < 256) :
    Calls Try.prog 21 #[v, .string (str x)] w fun e w' =>
      e = .returned (.tuple #[.int .i64 (Wd.pos L x : Nat), .bool (decide (Wd.pos L x < L.length ∧ L.getD (Wd.pos L x) [] = x))]) ∧ ∃ q, w' = w.drewN q := by
  by_cases h0 : 0 < L.length
  · obtain ⟨g, cap, rfl, _, _, _, _, hc⟩ := hown.cell h0
    refine (Any2.slices_BinarySearch_string Try.laysNm226 g 0 L.length cap (fun t => if t < L.length then str (L.getD t []) else str x) (str x) w (by omega) (fun j hj => by rw [Nat.zero_add, if_pos hj]; exact hc j hj)).mono ?_
    rintro e w' ⟨rfl, hw⟩
    have hless : ∀ t, Op.bytesLess (if t < L.length then str (L.getD t []) else str x).toList (str x).toList = if t < L.length then Wd.lt (L.getD t []) x else false := by
      intro t
      split
      · rename_i ht
        exact less_str _ _ (hb _ (by rw [List.getD_eq_getElem?_getD, List.getElem?_eq_getElem ht]; exact List.getElem_mem ht)) hx
      · rw [less_str _ _ hx hx, Wd.lt_irrefl]
    have hp : Lib.bsGo (fun t => Op.bytesLess (if t < L.length then str (L.getD t []) else str x).toList (str x).toList) L.length 0 L.length = Wd.pos L x := by
      refine Lib.bsGo_spec _ _ (fun t ht => ?_) (fun t ht => ?_) _ _ _ (by omega) (by omega) (Wd.pos_le L x)
      · rw [hless, if_pos (by have := Wd.pos_le L x; omega)]
        exact Wd.pos_lt L x t ht
      · rw [hless]
        split
        · exact Wd.pos_ge L x hs t ht (by assumption)
        · rfl
    refine ⟨?_, hw⟩
    simp only [hp]
    congr 4
    refine congrArg (fun b => [Value.bool b]) (decide_eq_decide.2 ?_)
    refine and_congr_right fun hlt => ?_
    rw [if_pos hlt]
    refine ⟨fun h => str_inj (hb _ (by rw [List.getD_eq_getElem?_getD, List.getElem?_eq_getElem hlt]; exact List.getElem_mem hlt)) hx h, fun h => by rw [h]⟩
  · obtain rfl : L = [] := List.eq_nil_of_length_eq_zero (by omega)
    obtain ⟨ao, cap, rfl⟩ : ∃ ao cap, v = .slice ao 0 cap := by
      obtain ⟨_, ⟨rfl, _⟩ | ⟨g, cap, cur, rfl, _⟩⟩ := hown
      · exact ⟨_, _, rfl⟩
      · exact ⟨_, _, rfl⟩
    refine (Any2.slices_BinarySearch_string_empty Try.laysNm226 ao cap (str x) w).mono ?_
    rintro e w' ⟨rfl, rfl⟩
    exact ⟨rfl, 0, rfl⟩
theorem contains_any (w : World) (base : Nat) (v : Value) (L : List (List Nat)) (hown : OwnS w base v L) (x : List Nat) (hL : L.length ≤ 1000) (hb : ∀ l ∈ L, ∀ b ∈ l, b < 256) (hx : ∀ b ∈ x, b < 256) :
    Calls Try.prog 24 #[v, .string (str x)] w fun e w' => e = .returned (.bool (decide (x ∈ L))) ∧ w' = w := by
  by_cases h0 : 0 < L.length
  · obtain ⟨g, cap, rfl, _, _, _, _, hc⟩ := hown.cell h0
    refine (Try.slices_Contains_string g 0 L.length cap (L.map str) (str x) w (by simp) (by omega) (fun j hj => by
      rw [Nat.zero_add, hc j (by simpa using hj)]
      rw [List.length_map] at hj
      rw [List.getD_eq_getElem?_getD, List.getElem?_eq_getElem hj, List.getD_eq_getElem?_getD, List.getElem?_map, List.getElem?_eq_getElem hj]
      rfl)).mono ?_
    rintro e w' ⟨rfl, rfl⟩
    refine ⟨?_, rfl⟩
    rw [List.take_of_length_le (by simp)]
    congr 2
    rw [Bool.eq_iff_iff, Lib.containsS_iff, decide_eq_true_eq, List.mem_map]
    constructor
    · rintro ⟨y, hy, e⟩
      rwa [← str_inj (hb y hy) hx e]
    · intro h
      exact ⟨x, h, rfl⟩
  · obtain rfl : L = [] := List.eq_nil_of_length_eq_zero (by omega)
    obtain ⟨ao, cap, rfl⟩ : ∃ ao cap, v = .slice ao 0 cap := by
      obtain ⟨_, ⟨rfl, _⟩ | ⟨g, cap, cur, rfl, _⟩⟩ := hown
      · exact ⟨_, _, rfl⟩
      · exact ⟨_, _, rfl⟩
    refine (Try.slices_Contains_string_empty ao cap (str x) w).mono ?_
    rintro e w' ⟨rfl, rfl⟩
    exact ⟨by simp, rfl⟩
end Go.Proofs.Ytaipaifnkpgmhaa
