/-
  Layer 15: the document's words of a text.
-/
import Derived.Test.YtaipaifnkpgmhaaWs6
namespace Go.Proofs.Ytaipaifnkpgmhaa
open Go.ChangeShapes Go.WideShapes Go.ChangeAt Go.RowKit Go.Shelf
open Go.Lib (hid)

attribute [local go_sem] Oper.semAt_some

namespace Wd
/-- What is still to come at place i. -/
def rest (T : List Nat) (cur : List Nat) (i : Nat) : List (List Nat) := if i ≤ T.length then go cur (T.drop i) else []
theorem rest_zero (T : List Nat) : rest T [] 0 = seqs T := by unfold rest seqs; simp
theorem rest_part (T cur : List Nat) (i : Nat) (hi : i < T.length) (hp : pt (T.getD i 0) = true) : rest T cur i = rest T (if cur.length < 16 then cur ++ [small (T.getD i 0)] else cur) (i + 1) := by
  rw [List.getD_eq_getElem?_getD, List.getElem?_eq_getElem hi] at hp ⊢
  simp only [Option.getD_some] at hp ⊢
  have e1 : rest T cur i = go cur (T.drop i) := if_pos (by omega)
  have e2 : ∀ c, rest T c (i + 1) = go c (T.drop (i + 1)) := fun c => if_pos (by omega)
  rw [e1, e2, List.drop_eq_getElem_cons hi, go, if_pos hp]
theorem rest_end (T cur : List Nat) (i : Nat) (hi : i ≤ T.length) (hp : ∀ h : i < T.length, pt (T.getD i 0) = false) : rest T cur i = (if cur = [] then [] else [cur]) ++ rest T [] (i + 1) := by
  have e1 : rest T cur i = go cur (T.drop i) := if_pos hi
  rw [e1]
  by_cases h : i < T.length
  · have hq := hp h
    rw [List.getD_eq_getElem?_getD, List.getElem?_eq_getElem h] at hq
    simp only [Option.getD_some] at hq
    have e2 : rest T [] (i + 1) = go [] (T.drop (i + 1)) := if_pos (by omega)
    rw [e2, List.drop_eq_getElem_cons h, go, hq]
    rfl
  · have e2 : rest T [] (i + 1) = [] := if_neg (by omega)
    rw [e2, List.drop_of_length_le (by omega), go, List.append_nil]
theorem ins_length (l : List (List Nat)) (w : List Nat) : (ins l w).length ≤ l.length + 1 := by
  induction l with
  | nil => simp [ins]
  | cons x l ih =>
    unfold ins
    split
    · simp
    · split
      · simp; omega
      · simp
end Wd
set_option maxHeartbeats 4000000 in
set_option maxRecDepth 100000 in
theorem rof_any (T : List Nat) (hT : ∀ x ∈ T, x < 256) (hTl : T.length ≤ 900) (w : World) :
    Calls Try.prog 13 #[.string (str T)] w fun e w' => ∃ v, e = .returned v ∧ OwnS w' w.heap.size v (Wd.words T) ∧ Below w.heap.size w w' := by
  have hstr : (str T).size = T.length := str_size T
  obtain ⟨W0, hW0⟩ : ∃ W0, W0 = (Wd.seqs T).foldl Wd.ins [] := ⟨_, rfl⟩
  have HWW := hid (show Wd.words T = W0.take 64 from by rw [hW0]; exact Wd.words_eq T)
  have HW0 := hid hW0
  clear hW0
  go_enter Try.func13, Try.ntmps13
  go_upto_region 2 with (fail)
  have ho0 := ownS_empty w w.heap.size (Nat.le_refl _)
  have hb0 : Below w.heap.size w (w.alloc (.cells #[] 9)) := (Below.refl _ _).alloc (Nat.le_refl _) _
  generalize w.alloc (.cells #[] 9) = w1 at *
  have HO0 := hid ho0
  have HB0 := hid hb0
  clear ho0 hb0
  go_wp2
  go_loopw [3, 4, 5] (fun sv scur si wq => ∃ (i : Nat) (acc : List (List Nat)) (cur : List Nat) (v : Value), i ≤ T.length + 1 ∧ sv = v ∧ scur = .string (str cur) ∧ si = .int .i64 (i : Nat) ∧ (Wd.rest T cur i).foldl Wd.ins acc = W0 ∧
      Wd.Sorted acc ∧ (∀ l ∈ acc, ∀ b ∈ l, b < 256) ∧ (∀ b ∈ cur, b < 256) ∧ acc.length ≤ i ∧ cur.length ≤ 16 ∧ v ≠ .slice none 0 0 ∧ OwnS wq w.heap.size v acc ∧ Below w.heap.size w wq)
    (fun _ _ si _ => T.length + 1 - (intOf si).toNat)
  case atStart =>
    refine ⟨0, [], [], _, by omega, rfl, rfl, rfl, ?_, List.Pairwise.nil, by simp, by simp, by simp, by simp, ?_, HO0.out, HB0.out⟩
    · rw [Wd.rest_zero]; exact HW0.out.symm
    · simp
  case round =>
    obtain ⟨i, acc, cur, v, hi, rfl, rfl, rfl, hr, hinv⟩ := hrel
    have HR := hid hr
    have HI := hid hinv
    have h16c := hinv.2.2.2.2.1
    clear hr hinv HO0 HB0
    have hcs : (str cur).size = cur.length := str_size cur
    by_cases hle : i ≤ T.length
    · have g1 : (i : Int) ≤ T.length := by omega
      by_cases hlt : i < T.length
      · have g2 : (i : Int) < T.length := by omega
        have hix := fun wx => str_index T hT i hlt wx
        have hx := getD_ltw hT i hlt
        have hp1 := Wd.rest_part T cur i hlt
        have hp2 := Wd.rest_end T cur i hle
        generalize hbb : T.getD i 0 = bb at *
        have HP1 := hid hp1
        have HP2 := hid (fun h => hp2 (fun _ => h))
        clear hp1 hp2 hbb
        obtain ⟨sb, hsb⟩ : ∃ sb, sb = Wd.small bb := ⟨_, rfl⟩
        by_cases hu : 65 ≤ bb ∧ bb ≤ 90
        · have u1 : (65 : Int) ≤ bb := by omega
          have u2 : (bb : Int) ≤ 90 := by omega
          have hsb2 : sb = bb + 32 := by rw [hsb]; unfold Wd.small; rw [if_pos hu]
          have hsp : Wd.pt bb = true := by unfold Wd.pt; rw [← hsb]; unfold Wd.part; rw [decide_eq_true_eq]; omega
          have HPT := hid (show (Wd.rest T (if cur.length < 16 then cur ++ [sb] else cur) (i + 1)).foldl Wd.ins acc = W0 from by rw [hsb, ← HP1.out hsp]; exact HR.out)
          have hq : (bb : Int) + 32 = (sb : Int) := by omega
          have q1 : (97 : Int) ≤ sb := by omega
          have q2 : (sb : Int) ≤ 122 := by omega
          have q3 : sb < 256 := by omega
          have Q3 := hid q3
          clear hsb hsb2 hsp HP1 HP2 hu HR hx q3
          go_upto_region 12 with (fail)
          by_cases h16 : cur.length < 16
          · have g16 : (cur.length : Int) < 16 := by omega
            have hos := one_str
            have hr2 := HPT.out
            rw [if_pos h16] at hr2
            have HR2 := hid hr2
            have hss : (str [sb]).size = 1 := str_size [sb]
            have hbig : ¬ 9223372036854775807 < cur.length + 1 := by omega
            clear h16 HPT hr2
            go_wp2
            have hkk : (i : Int) + 1 = ((i + 1 : Nat) : Int) := by omega
            have hb3 : Below wr.heap.size wr (wr.alloc (.cells #[.int .u8 (sb : Int)] 5)) := (Below.refl _ _).alloc (Nat.le_refl _) _
            refine ⟨?_, ?_⟩
            · skip
              first
                | exact ⟨i + 1, acc, cur ++ [sb], _, by omega, rfl, congrArg Value.string (str_append cur [sb]), congrArg (Value.int .i64) hkk, HR2.out, HI.out.1, HI.out.2.1, fun b hb => by rcases List.mem_append.1 hb with h | h; exact HI.out.2.2.1 b h; (simp only [List.mem_singleton] at h; rw [h]; exact Q3.out), by have := HI.out.2.2.2.1; omega, by rw [List.length_append, List.length_singleton]; omega, HI.out.2.2.2.2.2.1, HI.out.2.2.2.2.2.2.1.below hb3, HI.out.2.2.2.2.2.2.2.trans (hb3.mono HI.out.2.2.2.2.2.2.2.size)⟩
                | ((repeat apply Exists.intro); refine ⟨?_, rfl⟩; exact ⟨i + 1, acc, cur ++ [sb], _, by omega, rfl, congrArg Value.string (str_append cur [sb]), congrArg (Value.int .i64) hkk, HR2.out, HI.out.1, HI.out.2.1, fun b hb => by rcases List.mem_append.1 hb with h | h; exact HI.out.2.2.1 b h; (simp only [List.mem_singleton] at h; rw [h]; exact Q3.out), by have := HI.out.2.2.2.1; omega, by rw [List.length_append, List.length_singleton]; omega, HI.out.2.2.2.2.2.1, HI.out.2.2.2.2.2.2.1.below hb3, HI.out.2.2.2.2.2.2.2.trans (hb3.mono HI.out.2.2.2.2.2.2.2.size)⟩)
            · simp [intOf]
              omega
          · have g16 : ¬ (cur.length : Int) < 16 := by omega
            have hr2 := HPT.out
            rw [if_neg h16] at hr2
            have HR2 := hid hr2
            clear h16 HPT hr2
            go_wp2
            have hkk : (i : Int) + 1 = ((i + 1 : Nat) : Int) := by omega
            refine ⟨?_, ?_⟩
            · skip
              first
                | exact ⟨i + 1, acc, cur, _, by omega, rfl, rfl, congrArg (Value.int .i64) hkk, HR2.out, HI.out.1, HI.out.2.1, HI.out.2.2.1, by have := HI.out.2.2.2.1; omega, HI.out.2.2.2.2⟩
                | ((repeat apply Exists.intro); refine ⟨?_, rfl⟩; exact ⟨i + 1, acc, cur, _, by omega, rfl, rfl, congrArg (Value.int .i64) hkk, HR2.out, HI.out.1, HI.out.2.1, HI.out.2.2.1, by have := HI.out.2.2.2.1; omega, HI.out.2.2.2.2⟩)
            · simp [intOf]
              omega
        · have hsb2 : sb = bb := by rw [hsb]; unfold Wd.small; rw [if_neg hu]
          have hq : (bb : Int) = (sb : Int) := by omega
          have HPT' := hid (fun (hsp : Wd.pt bb = true) => show (Wd.rest T (if cur.length < 16 then cur ++ [sb] else cur) (i + 1)).foldl Wd.ins acc = W0 from by rw [hsb, ← HP1.out hsp]; exact HR.out)
          have HRE' := hid (fun (hsp : Wd.pt bb = false) => show ((if cur = [] then [] else [cur]) ++ Wd.rest T [] (i + 1)).foldl Wd.ins acc = W0 from by rw [← HP2.out hsp]; exact HR.out)
          have hpe : ∀ c : Bool, Wd.part sb = c → Wd.pt bb = c := fun c h => by unfold Wd.pt; rw [← hsb]; exact h
          have HPE := hid hpe
          have Q3 := hid (show sb < 256 from by rw [hsb2]; exact hx)
          have HUL := hid hu
          rw [← hsb2] at hix
          clear hsb HP1 HP2 HR hx hpe hu hq
          have hu' : ¬ (65 ≤ sb ∧ sb ≤ 90) := by have := HUL.out; omega
          have q7 : (sb : Int) < 256 := by have := Q3.out; omega
          clear hsb2 HUL
          have hcase : ((65 : Int) ≤ sb ∧ ¬ (sb : Int) ≤ 90 ∧ (97 : Int) ≤ sb ∧ (sb : Int) ≤ 122) ∨ ((65 : Int) ≤ sb ∧ ¬ (sb : Int) ≤ 90 ∧ (97 : Int) ≤ sb ∧ ¬ (sb : Int) ≤ 122) ∨ (¬ (65 : Int) ≤ sb ∧ ¬ (97 : Int) ≤ sb ∧ (48 : Int) ≤ sb ∧ (sb : Int) ≤ 57)
            ∨ (¬ (65 : Int) ≤ sb ∧ ¬ (97 : Int) ≤ sb ∧ (48 : Int) ≤ sb ∧ ¬ (sb : Int) ≤ 57) ∨ ((65 : Int) ≤ sb ∧ ¬ (sb : Int) ≤ 90 ∧ ¬ (97 : Int) ≤ sb) ∨ (¬ (65 : Int) ≤ sb ∧ ¬ (97 : Int) ≤ sb ∧ ¬ (48 : Int) ≤ sb) := by omega
          clear hu'
          rcases hcase with ⟨u1, u2, q1, q2⟩ | ⟨u1, u2, q1, q2⟩ | ⟨u1, q1, q2, q4⟩ | ⟨u1, q1, q2, q4⟩ | ⟨u1, u2, q1⟩ | ⟨u1, q1, q2⟩
          · have HPT := hid (HPT'.out (HPE.out true (by unfold Wd.part; rw [decide_eq_true_eq]; omega)))
            clear HPT' HRE' HPE
            go_upto_region 12 with (fail)
            by_cases h16 : cur.length < 16
            · have g16 : (cur.length : Int) < 16 := by omega
              have hos := one_str
              have hr2 := HPT.out
              rw [if_pos h16] at hr2
              have HR2 := hid hr2
              have hss : (str [sb]).size = 1 := str_size [sb]
              have hbig : ¬ 9223372036854775807 < cur.length + 1 := by omega
              clear h16 HPT hr2
              go_wp2
              have hkk : (i : Int) + 1 = ((i + 1 : Nat) : Int) := by omega
              have hb3 : Below wr.heap.size wr (wr.alloc (.cells #[.int .u8 (sb : Int)] 5)) := (Below.refl _ _).alloc (Nat.le_refl _) _
              refine ⟨?_, ?_⟩
              · skip
                first
                  | exact ⟨i + 1, acc, cur ++ [sb], _, by omega, rfl, congrArg Value.string (str_append cur [sb]), congrArg (Value.int .i64) hkk, HR2.out, HI.out.1, HI.out.2.1, fun b hb => by rcases List.mem_append.1 hb with h | h; exact HI.out.2.2.1 b h; (simp only [List.mem_singleton] at h; rw [h]; exact Q3.out), by have := HI.out.2.2.2.1; omega, by rw [List.length_append, List.length_singleton]; omega, HI.out.2.2.2.2.2.1, HI.out.2.2.2.2.2.2.1.below hb3, HI.out.2.2.2.2.2.2.2.trans (hb3.mono HI.out.2.2.2.2.2.2.2.size)⟩
                  | ((repeat apply Exists.intro); refine ⟨?_, rfl⟩; exact ⟨i + 1, acc, cur ++ [sb], _, by omega, rfl, congrArg Value.string (str_append cur [sb]), congrArg (Value.int .i64) hkk, HR2.out, HI.out.1, HI.out.2.1, fun b hb => by rcases List.mem_append.1 hb with h | h; exact HI.out.2.2.1 b h; (simp only [List.mem_singleton] at h; rw [h]; exact Q3.out), by have := HI.out.2.2.2.1; omega, by rw [List.length_append, List.length_singleton]; omega, HI.out.2.2.2.2.2.1, HI.out.2.2.2.2.2.2.1.below hb3, HI.out.2.2.2.2.2.2.2.trans (hb3.mono HI.out.2.2.2.2.2.2.2.size)⟩)
              · simp [intOf]
                omega
            · have g16 : ¬ (cur.length : Int) < 16 := by omega
              have hr2 := HPT.out
              rw [if_neg h16] at hr2
              have HR2 := hid hr2
              clear h16 HPT hr2
              go_wp2
              have hkk : (i : Int) + 1 = ((i + 1 : Nat) : Int) := by omega
              refine ⟨?_, ?_⟩
              · skip
                first
                  | exact ⟨i + 1, acc, cur, _, by omega, rfl, rfl, congrArg (Value.int .i64) hkk, HR2.out, HI.out.1, HI.out.2.1, HI.out.2.2.1, by have := HI.out.2.2.2.1; omega, HI.out.2.2.2.2⟩
                  | ((repeat apply Exists.intro); refine ⟨?_, rfl⟩; exact ⟨i + 1, acc, cur, _, by omega, rfl, rfl, congrArg (Value.int .i64) hkk, HR2.out, HI.out.1, HI.out.2.1, HI.out.2.2.1, by have := HI.out.2.2.2.1; omega, HI.out.2.2.2.2⟩)
              · simp [intOf]
                omega
          · have HRE := hid (HRE'.out (HPE.out false (by unfold Wd.part; rw [decide_eq_false_iff_not]; omega)))
            have q5 : (48 : Int) ≤ sb := by omega
            have q6 : ¬ (sb : Int) ≤ 57 := by omega
            clear HPT' HRE' HPE
            go_upto_region 14 with (fail)
            by_cases hc0 : cur = []
            · subst hc0
              have hr2 := HRE.out
              rw [if_pos rfl, List.nil_append] at hr2
              have HR2 := hid hr2
              have hem : (str ([] : List Nat)).toList.isEmpty = true := by rw [str_toList]; rfl
              have hem2 : str ([] : List Nat) = ⟨#[]⟩ := rfl
              clear HRE hr2
              go_wp2
              have hkk : (i : Int) + 1 = ((i + 1 : Nat) : Int) := by omega
              refine ⟨?_, ?_⟩
              · skip
                first
                  | exact ⟨i + 1, acc, [], _, by omega, rfl, rfl, congrArg (Value.int .i64) hkk, HR2.out, HI.out.1, HI.out.2.1, by simp, by have := HI.out.2.2.2.1; omega, by simp, HI.out.2.2.2.2.2⟩
                  | ((repeat apply Exists.intro); refine ⟨?_, rfl⟩; exact ⟨i + 1, acc, [], _, by omega, rfl, rfl, congrArg (Value.int .i64) hkk, HR2.out, HI.out.1, HI.out.2.1, by simp, by have := HI.out.2.2.2.1; omega, by simp, HI.out.2.2.2.2.2⟩)
              · simp [intOf]
                omega
            · have hr2 := HRE.out
              rw [if_neg hc0, List.singleton_append, List.foldl_cons] at hr2
              have HR2 := hid hr2
              have hem : (str cur).toList.isEmpty = false := by
                rw [str_toList]
                cases cur with
                | nil => exact absurd rfl hc0
                | cons => rfl
              have HPU := hid (rput_any wr w.heap.size u3 acc HI.out.2.2.2.2.2.2.1 HI.out.2.2.2.2.2.2.2.size cur HI.out.1 (by have := HI.out.2.2.2.1; omega) HI.out.2.1 HI.out.2.2.1 HI.out.2.2.2.2.2.1)
              clear HRE hr2 hc0
              go_wp2_with (go_at_call 23; refine HPU.out.mono ?_; rintro e w5 ⟨v5, rfl, ho5, hn5, hb5⟩)
              have hkk : (i : Int) + 1 = ((i + 1 : Nat) : Int) := by omega
              have hl5 := Wd.ins_length acc cur
              have hm5 : ∀ l ∈ Wd.ins acc cur, ∀ b ∈ l, b < 256 := by
                intro l hl b hb
                rcases (Wd.mem_ins acc cur l).1 hl with rfl | h
                · exact HI.out.2.2.1 b hb
                · exact HI.out.2.1 l h b hb
              refine ⟨?_, ?_⟩
              · skip
                first
                  | exact ⟨i + 1, Wd.ins acc cur, [], v5, by omega, rfl, rfl, congrArg (Value.int .i64) hkk, HR2.out, Wd.sorted_ins _ _ HI.out.1, hm5, by simp, by have := HI.out.2.2.2.1; omega, by simp, hn5, ho5, HI.out.2.2.2.2.2.2.2.trans (hb5.mono HI.out.2.2.2.2.2.2.2.size)⟩
                  | ((repeat apply Exists.intro); refine ⟨?_, rfl⟩; exact ⟨i + 1, Wd.ins acc cur, [], v5, by omega, rfl, rfl, congrArg (Value.int .i64) hkk, HR2.out, Wd.sorted_ins _ _ HI.out.1, hm5, by simp, by have := HI.out.2.2.2.1; omega, by simp, hn5, ho5, HI.out.2.2.2.2.2.2.2.trans (hb5.mono HI.out.2.2.2.2.2.2.2.size)⟩)
              · simp [intOf]
                omega
          · have HPT := hid (HPT'.out (HPE.out true (by unfold Wd.part; rw [decide_eq_true_eq]; omega)))
            clear HPT' HRE' HPE
            go_upto_region 12 with (fail)
            by_cases h16 : cur.length < 16
            · have g16 : (cur.length : Int) < 16 := by omega
              have hos := one_str
              have hr2 := HPT.out
              rw [if_pos h16] at hr2
              have HR2 := hid hr2
              have hss : (str [sb]).size = 1 := str_size [sb]
              have hbig : ¬ 9223372036854775807 < cur.length + 1 := by omega
              clear h16 HPT hr2
              go_wp2
              have hkk : (i : Int) + 1 = ((i + 1 : Nat) : Int) := by omega
              have hb3 : Below wr.heap.size wr (wr.alloc (.cells #[.int .u8 (sb : Int)] 5)) := (Below.refl _ _).alloc (Nat.le_refl _) _
              refine ⟨?_, ?_⟩
              · skip
                first
                  | exact ⟨i + 1, acc, cur ++ [sb], _, by omega, rfl, congrArg Value.string (str_append cur [sb]), congrArg (Value.int .i64) hkk, HR2.out, HI.out.1, HI.out.2.1, fun b hb => by rcases List.mem_append.1 hb with h | h; exact HI.out.2.2.1 b h; (simp only [List.mem_singleton] at h; rw [h]; exact Q3.out), by have := HI.out.2.2.2.1; omega, by rw [List.length_append, List.length_singleton]; omega, HI.out.2.2.2.2.2.1, HI.out.2.2.2.2.2.2.1.below hb3, HI.out.2.2.2.2.2.2.2.trans (hb3.mono HI.out.2.2.2.2.2.2.2.size)⟩
                  | ((repeat apply Exists.intro); refine ⟨?_, rfl⟩; exact ⟨i + 1, acc, cur ++ [sb], _, by omega, rfl, congrArg Value.string (str_append cur [sb]), congrArg (Value.int .i64) hkk, HR2.out, HI.out.1, HI.out.2.1, fun b hb => by rcases List.mem_append.1 hb with h | h; exact HI.out.2.2.1 b h; (simp only [List.mem_singleton] at h; rw [h]; exact Q3.out), by have := HI.out.2.2.2.1; omega, by rw [List.length_append, List.length_singleton]; omega, HI.out.2.2.2.2.2.1, HI.out.2.2.2.2.2.2.1.below hb3, HI.out.2.2.2.2.2.2.2.trans (hb3.mono HI.out.2.2.2.2.2.2.2.size)⟩)
              · simp [intOf]
                omega
            · have g16 : ¬ (cur.length : Int) < 16 := by omega
              have hr2 := HPT.out
              rw [if_neg h16] at hr2
              have HR2 := hid hr2
              clear h16 HPT hr2
              go_wp2
              have hkk : (i : Int) + 1 = ((i + 1 : Nat) : Int) := by omega
              refine ⟨?_, ?_⟩
              · skip
                first
                  | exact ⟨i + 1, acc, cur, _, by omega, rfl, rfl, congrArg (Value.int .i64) hkk, HR2.out, HI.out.1, HI.out.2.1, HI.out.2.2.1, by have := HI.out.2.2.2.1; omega, HI.out.2.2.2.2⟩
                  | ((repeat apply Exists.intro); refine ⟨?_, rfl⟩; exact ⟨i + 1, acc, cur, _, by omega, rfl, rfl, congrArg (Value.int .i64) hkk, HR2.out, HI.out.1, HI.out.2.1, HI.out.2.2.1, by have := HI.out.2.2.2.1; omega, HI.out.2.2.2.2⟩)
              · simp [intOf]
                omega
          · have HRE := hid (HRE'.out (HPE.out false (by unfold Wd.part; rw [decide_eq_false_iff_not]; omega)))
            clear HPT' HRE' HPE
            go_upto_region 14 with (fail)
            by_cases hc0 : cur = []
            · subst hc0
              have hr2 := HRE.out
              rw [if_pos rfl, List.nil_append] at hr2
              have HR2 := hid hr2
              have hem : (str ([] : List Nat)).toList.isEmpty = true := by rw [str_toList]; rfl
              have hem2 : str ([] : List Nat) = ⟨#[]⟩ := rfl
              clear HRE hr2
              go_wp2
              have hkk : (i : Int) + 1 = ((i + 1 : Nat) : Int) := by omega
              refine ⟨?_, ?_⟩
              · skip
                first
                  | exact ⟨i + 1, acc, [], _, by omega, rfl, rfl, congrArg (Value.int .i64) hkk, HR2.out, HI.out.1, HI.out.2.1, by simp, by have := HI.out.2.2.2.1; omega, by simp, HI.out.2.2.2.2.2⟩
                  | ((repeat apply Exists.intro); refine ⟨?_, rfl⟩; exact ⟨i + 1, acc, [], _, by omega, rfl, rfl, congrArg (Value.int .i64) hkk, HR2.out, HI.out.1, HI.out.2.1, by simp, by have := HI.out.2.2.2.1; omega, by simp, HI.out.2.2.2.2.2⟩)
              · simp [intOf]
                omega
            · have hr2 := HRE.out
              rw [if_neg hc0, List.singleton_append, List.foldl_cons] at hr2
              have HR2 := hid hr2
              have hem : (str cur).toList.isEmpty = false := by
                rw [str_toList]
                cases cur with
                | nil => exact absurd rfl hc0
                | cons => rfl
              have HPU := hid (rput_any wr w.heap.size u3 acc HI.out.2.2.2.2.2.2.1 HI.out.2.2.2.2.2.2.2.size cur HI.out.1 (by have := HI.out.2.2.2.1; omega) HI.out.2.1 HI.out.2.2.1 HI.out.2.2.2.2.2.1)
              clear HRE hr2 hc0
              go_wp2_with (go_at_call 23; refine HPU.out.mono ?_; rintro e w5 ⟨v5, rfl, ho5, hn5, hb5⟩)
              have hkk : (i : Int) + 1 = ((i + 1 : Nat) : Int) := by omega
              have hl5 := Wd.ins_length acc cur
              have hm5 : ∀ l ∈ Wd.ins acc cur, ∀ b ∈ l, b < 256 := by
                intro l hl b hb
                rcases (Wd.mem_ins acc cur l).1 hl with rfl | h
                · exact HI.out.2.2.1 b hb
                · exact HI.out.2.1 l h b hb
              refine ⟨?_, ?_⟩
              · skip
                first
                  | exact ⟨i + 1, Wd.ins acc cur, [], v5, by omega, rfl, rfl, congrArg (Value.int .i64) hkk, HR2.out, Wd.sorted_ins _ _ HI.out.1, hm5, by simp, by have := HI.out.2.2.2.1; omega, by simp, hn5, ho5, HI.out.2.2.2.2.2.2.2.trans (hb5.mono HI.out.2.2.2.2.2.2.2.size)⟩
                  | ((repeat apply Exists.intro); refine ⟨?_, rfl⟩; exact ⟨i + 1, Wd.ins acc cur, [], v5, by omega, rfl, rfl, congrArg (Value.int .i64) hkk, HR2.out, Wd.sorted_ins _ _ HI.out.1, hm5, by simp, by have := HI.out.2.2.2.1; omega, by simp, hn5, ho5, HI.out.2.2.2.2.2.2.2.trans (hb5.mono HI.out.2.2.2.2.2.2.2.size)⟩)
              · simp [intOf]
                omega
          · have HRE := hid (HRE'.out (HPE.out false (by unfold Wd.part; rw [decide_eq_false_iff_not]; omega)))
            have q5 : (48 : Int) ≤ sb := by omega
            have q6 : ¬ (sb : Int) ≤ 57 := by omega
            clear HPT' HRE' HPE
            go_upto_region 14 with (fail)
            by_cases hc0 : cur = []
            · subst hc0
              have hr2 := HRE.out
              rw [if_pos rfl, List.nil_append] at hr2
              have HR2 := hid hr2
              have hem : (str ([] : List Nat)).toList.isEmpty = true := by rw [str_toList]; rfl
              have hem2 : str ([] : List Nat) = ⟨#[]⟩ := rfl
              clear HRE hr2
              go_wp2
              have hkk : (i : Int) + 1 = ((i + 1 : Nat) : Int) := by omega
              refine ⟨?_, ?_⟩
              · skip
                first
                  | exact ⟨i + 1, acc, [], _, by omega, rfl, rfl, congrArg (Value.int .i64) hkk, HR2.out, HI.out.1, HI.out.2.1, by simp, by have := HI.out.2.2.2.1; omega, by simp, HI.out.2.2.2.2.2⟩
                  | ((repeat apply Exists.intro); refine ⟨?_, rfl⟩; exact ⟨i + 1, acc, [], _, by omega, rfl, rfl, congrArg (Value.int .i64) hkk, HR2.out, HI.out.1, HI.out.2.1, by simp, by have := HI.out.2.2.2.1; omega, by simp, HI.out.2.2.2.2.2⟩)
              · simp [intOf]
                omega
            · have hr2 := HRE.out
              rw [if_neg hc0, List.singleton_append, List.foldl_cons] at hr2
              have HR2 := hid hr2
              have hem : (str cur).toList.isEmpty = false := by
                rw [str_toList]
                cases cur with
                | nil => exact absurd rfl hc0
                | cons => rfl
              have HPU := hid (rput_any wr w.heap.size u3 acc HI.out.2.2.2.2.2.2.1 HI.out.2.2.2.2.2.2.2.size cur HI.out.1 (by have := HI.out.2.2.2.1; omega) HI.out.2.1 HI.out.2.2.1 HI.out.2.2.2.2.2.1)
              clear HRE hr2 hc0
              go_wp2_with (go_at_call 23; refine HPU.out.mono ?_; rintro e w5 ⟨v5, rfl, ho5, hn5, hb5⟩)
              have hkk : (i : Int) + 1 = ((i + 1 : Nat) : Int) := by omega
              have hl5 := Wd.ins_length acc cur
              have hm5 : ∀ l ∈ Wd.ins acc cur, ∀ b ∈ l, b < 256 := by
                intro l hl b hb
                rcases (Wd.mem_ins acc cur l).1 hl with rfl | h
                · exact HI.out.2.2.1 b hb
                · exact HI.out.2.1 l h b hb
              refine ⟨?_, ?_⟩
              · skip
                first
                  | exact ⟨i + 1, Wd.ins acc cur, [], v5, by omega, rfl, rfl, congrArg (Value.int .i64) hkk, HR2.out, Wd.sorted_ins _ _ HI.out.1, hm5, by simp, by have := HI.out.2.2.2.1; omega, by simp, hn5, ho5, HI.out.2.2.2.2.2.2.2.trans (hb5.mono HI.out.2.2.2.2.2.2.2.size)⟩
                  | ((repeat apply Exists.intro); refine ⟨?_, rfl⟩; exact ⟨i + 1, Wd.ins acc cur, [], v5, by omega, rfl, rfl, congrArg (Value.int .i64) hkk, HR2.out, Wd.sorted_ins _ _ HI.out.1, hm5, by simp, by have := HI.out.2.2.2.1; omega, by simp, hn5, ho5, HI.out.2.2.2.2.2.2.2.trans (hb5.mono HI.out.2.2.2.2.2.2.2.size)⟩)
              · simp [intOf]
                omega
          · have HRE := hid (HRE'.out (HPE.out false (by unfold Wd.part; rw [decide_eq_false_iff_not]; omega)))
            clear HPT' HRE' HPE
            go_upto_region 14 with (fail)
            by_cases hc0 : cur = []
            · subst hc0
              have hr2 := HRE.out
              rw [if_pos rfl, List.nil_append] at hr2
              have HR2 := hid hr2
              have hem : (str ([] : List Nat)).toList.isEmpty = true := by rw [str_toList]; rfl
              have hem2 : str ([] : List Nat) = ⟨#[]⟩ := rfl
              clear HRE hr2
              go_wp2
              have hkk : (i : Int) + 1 = ((i + 1 : Nat) : Int) := by omega
              refine ⟨?_, ?_⟩
              · skip
                first
                  | exact ⟨i + 1, acc, [], _, by omega, rfl, rfl, congrArg (Value.int .i64) hkk, HR2.out, HI.out.1, HI.out.2.1, by simp, by have := HI.out.2.2.2.1; omega, by simp, HI.out.2.2.2.2.2⟩
                  | ((repeat apply Exists.intro); refine ⟨?_, rfl⟩; exact ⟨i + 1, acc, [], _, by omega, rfl, rfl, congrArg (Value.int .i64) hkk, HR2.out, HI.out.1, HI.out.2.1, by simp, by have := HI.out.2.2.2.1; omega, by simp, HI.out.2.2.2.2.2⟩)
              · simp [intOf]
                omega
            · have hr2 := HRE.out
              rw [if_neg hc0, List.singleton_append, List.foldl_cons] at hr2
              have HR2 := hid hr2
              have hem : (str cur).toList.isEmpty = false := by
                rw [str_toList]
                cases cur with
                | nil => exact absurd rfl hc0
                | cons => rfl
              have HPU := hid (rput_any wr w.heap.size u3 acc HI.out.2.2.2.2.2.2.1 HI.out.2.2.2.2.2.2.2.size cur HI.out.1 (by have := HI.out.2.2.2.1; omega) HI.out.2.1 HI.out.2.2.1 HI.out.2.2.2.2.2.1)
              clear HRE hr2 hc0
              go_wp2_with (go_at_call 23; refine HPU.out.mono ?_; rintro e w5 ⟨v5, rfl, ho5, hn5, hb5⟩)
              have hkk : (i : Int) + 1 = ((i + 1 : Nat) : Int) := by omega
              have hl5 := Wd.ins_length acc cur
              have hm5 : ∀ l ∈ Wd.ins acc cur, ∀ b ∈ l, b < 256 := by
                intro l hl b hb
                rcases (Wd.mem_ins acc cur l).1 hl with rfl | h
                · exact HI.out.2.2.1 b hb
                · exact HI.out.2.1 l h b hb
              refine ⟨?_, ?_⟩
              · skip
                first
                  | exact ⟨i + 1, Wd.ins acc cur, [], v5, by omega, rfl, rfl, congrArg (Value.int .i64) hkk, HR2.out, Wd.sorted_ins _ _ HI.out.1, hm5, by simp, by have := HI.out.2.2.2.1; omega, by simp, hn5, ho5, HI.out.2.2.2.2.2.2.2.trans (hb5.mono HI.out.2.2.2.2.2.2.2.size)⟩
                  | ((repeat apply Exists.intro); refine ⟨?_, rfl⟩; exact ⟨i + 1, Wd.ins acc cur, [], v5, by omega, rfl, rfl, congrArg (Value.int .i64) hkk, HR2.out, Wd.sorted_ins _ _ HI.out.1, hm5, by simp, by have := HI.out.2.2.2.1; omega, by simp, hn5, ho5, HI.out.2.2.2.2.2.2.2.trans (hb5.mono HI.out.2.2.2.2.2.2.2.size)⟩)
              · simp [intOf]
                omega
      · have g2 : ¬ (i : Int) < T.length := by omega
        have HRE := hid (show ((if cur = [] then [] else [cur]) ++ Wd.rest T [] (i + 1)).foldl Wd.ins acc = W0 from by rw [← Wd.rest_end T cur i hle (fun h => absurd h hlt)]; exact HR.out)
        clear HR
        go_upto_region 14 with (fail)
        by_cases hc0 : cur = []
        · subst hc0
          have hr2 := HRE.out
          rw [if_pos rfl, List.nil_append] at hr2
          have HR2 := hid hr2
          have hem : (str ([] : List Nat)).toList.isEmpty = true := by rw [str_toList]; rfl
          have hem2 : str ([] : List Nat) = ⟨#[]⟩ := rfl
          clear HRE hr2
          go_wp2
          have hkk : (i : Int) + 1 = ((i + 1 : Nat) : Int) := by omega
          refine ⟨?_, ?_⟩
          · skip
            first
              | exact ⟨i + 1, acc, [], _, by omega, rfl, rfl, congrArg (Value.int .i64) hkk, HR2.out, HI.out.1, HI.out.2.1, by simp, by have := HI.out.2.2.2.1; omega, by simp, HI.out.2.2.2.2.2⟩
              | ((repeat apply Exists.intro); refine ⟨?_, rfl⟩; exact ⟨i + 1, acc, [], _, by omega, rfl, rfl, congrArg (Value.int .i64) hkk, HR2.out, HI.out.1, HI.out.2.1, by simp, by have := HI.out.2.2.2.1; omega, by simp, HI.out.2.2.2.2.2⟩)
          · simp [intOf]
            omega
        · have hr2 := HRE.out
          rw [if_neg hc0, List.singleton_append, List.foldl_cons] at hr2
          have HR2 := hid hr2
          have hem : (str cur).toList.isEmpty = false := by
            rw [str_toList]
            cases cur with
            | nil => exact absurd rfl hc0
            | cons => rfl
          have HPU := hid (rput_any wr w.heap.size u3 acc HI.out.2.2.2.2.2.2.1 HI.out.2.2.2.2.2.2.2.size cur HI.out.1 (by have := HI.out.2.2.2.1; omega) HI.out.2.1 HI.out.2.2.1 HI.out.2.2.2.2.2.1)
          clear HRE hr2 hc0
          go_wp2_with (go_at_call 23; refine HPU.out.mono ?_; rintro e w5 ⟨v5, rfl, ho5, hn5, hb5⟩)
          have hkk : (i : Int) + 1 = ((i + 1 : Nat) : Int) := by omega
          have hl5 := Wd.ins_length acc cur
          have hm5 : ∀ l ∈ Wd.ins acc cur, ∀ b ∈ l, b < 256 := by
            intro l hl b hb
            rcases (Wd.mem_ins acc cur l).1 hl with rfl | h
            · exact HI.out.2.2.1 b hb
            · exact HI.out.2.1 l h b hb
          refine ⟨?_, ?_⟩
          · skip
            first
              | exact ⟨i + 1, Wd.ins acc cur, [], v5, by omega, rfl, rfl, congrArg (Value.int .i64) hkk, HR2.out, Wd.sorted_ins _ _ HI.out.1, hm5, by simp, by have := HI.out.2.2.2.1; omega, by simp, hn5, ho5, HI.out.2.2.2.2.2.2.2.trans (hb5.mono HI.out.2.2.2.2.2.2.2.size)⟩
              | ((repeat apply Exists.intro); refine ⟨?_, rfl⟩; exact ⟨i + 1, Wd.ins acc cur, [], v5, by omega, rfl, rfl, congrArg (Value.int .i64) hkk, HR2.out, Wd.sorted_ins _ _ HI.out.1, hm5, by simp, by have := HI.out.2.2.2.1; omega, by simp, hn5, ho5, HI.out.2.2.2.2.2.2.2.trans (hb5.mono HI.out.2.2.2.2.2.2.2.size)⟩)
          · simp [intOf]
            omega
    · have g1 : ¬ (i : Int) ≤ T.length := by omega
      have hW : acc = W0 := by
        have := HR.out
        rw [show Wd.rest T cur i = [] from if_neg hle] at this
        exact this
      subst hW
      have hown := HI.out.2.2.2.2.2.2.1
      obtain ⟨g, cap, rfl, hcl⟩ : ∃ g cap, u3 = .slice (some ⟨g, 0, none⟩) acc.length cap ∧ acc.length ≤ cap := by
        obtain ⟨_, ⟨h1, _⟩ | ⟨g, cap', cur', hv', hg, _, hn, _⟩⟩ := hown
        · exact absurd h1 HI.out.2.2.2.2.2.1
        · exact ⟨g, cap', hv', hn⟩
      have HOWN := hid hown
      clear hown HR
      by_cases h64 : 64 < acc.length
      · have g2 : (64 : Int) < acc.length := by omega
        have g3 : (64 : Int) ≤ cap := by omega
        go_wp2
        exact bodyPost_ret (results_tmp rfl _ _ _) rfl ⟨_, rfl, by rw [HWW.out]; exact HOWN.out.take 64 (by omega), HI.out.2.2.2.2.2.2.2⟩
      · have g2 : ¬ (64 : Int) < acc.length := by omega
        go_wp2
        exact bodyPost_ret (results_tmp rfl _ _ _) rfl ⟨_, rfl, by rw [HWW.out, List.take_of_length_le (by omega)]; exact HOWN.out, HI.out.2.2.2.2.2.2.2⟩
end Go.Proofs.Ytaipaifnkpgmhaa
