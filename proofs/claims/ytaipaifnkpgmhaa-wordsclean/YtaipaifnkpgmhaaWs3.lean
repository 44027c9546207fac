/-
  Layer 15: the sequences of a text, one by one.
-/
import Derived.Test.YtaipaifnkpgmhaaWs2
namespace Go.Proofs.Ytaipaifnkpgmhaa
open Go.ChangeShapes Go.WideShapes Go.ChangeAt Go.RowKit Go.Shelf
open Go.Lib (hid)

attribute [local go_sem] Oper.semAt_some

theorem extract_word (T : List Nat) (hT : ∀ x ∈ T, x < 256) (a b : Nat) (hab : a ≤ b) : (str T).extract a b = str ((T.drop a).take (b - a)) := by
  rw [← extract_mid T hT a (b - a), show a + (b - a) = b from by omega]
/-- A word's slice of the text. -/
theorem word_of (T : List Nat) (p e : Nat) (hpe : p ≤ e) : (T.drop p).take (min e (p + 16) - p) = ((T.drop p).take (e - p)).take 16 := by
  rw [List.take_take]
  congr 1
  omega

set_option maxHeartbeats 4000000 in
set_option maxRecDepth 100000 in
theorem seq_in {σ : Type} (m : Nat) (hm : 1 ≤ m) (tb : Nat) (T : List Nat) (hT : ∀ x ∈ T, x < 256) (hTl : T.length ≤ 1000000) (E0 : σ → World → Prop) (f : σ → List Nat → σ)
    (hbox : ∀ s W, E0 s W → W.heap[tb]? = some (.cells #[.string (str T)] 9 (0, 0)))
    (hE0 : ∀ s W W', E0 s W → Below W.heap.size W W' → E0 s W') (s0 : σ) (l : Nat) (X : World → Prop) (W1 : World) (h : E0 s0 W1) (hX : X W1)
    (hXk : ∀ W W', X W → (∀ k, k < W.heap.size → W'.heap[k]? = W.heap[k]?) → X W')
    (hY : ∀ s q W, Wd.IsW q → E0 s W → X W → YieldAt Fence.wide (m - 1) Try.prog l #[.string (str q)] W fun e W' => e = .returned (.bool true) ∧ E0 (f s q) W' ∧ X W') :
    CallsIn Fence.wide m Try.prog 29 #[.func (.yield l) #[] #[], .pointer (some ⟨tb, 0, none⟩)] W1 fun e W' => (∃ v, e = .returned v) ∧ E0 ((Wd.seqs T).foldl f s0) W' ∧ X W' := by
  refine callsIn_of_wp Try.func29 rfl trivial ?_ rfl
  simp only [Try.ntmps29, List.size_toArray, List.length_cons, List.length_nil, Nat.reduceAdd, Nat.reduceSub, Array.replicate_succ, Array.replicate_zero, List.push_toArray, List.append_toArray, List.nil_append, List.cons_append]
  obtain ⟨sE, hsE⟩ : ∃ sE, sE = (Wd.seqs T).foldl f s0 := ⟨_, rfl⟩
  rw [← hsE]
  have HSE := hid hsE
  clear hsE
  have hstr : (str T).size = T.length := str_size T
  gi_wp2
  gi_loopw [3] (fun i wr => ∃ (s : σ) (p : Nat), i = .int .i64 (p : Nat) ∧ p ≤ T.length + 1 ∧ sE = (Wd.seqs (T.drop p)).foldl f s ∧ E0 s wr ∧ X wr)
    (fun i _ => T.length + 1 - (intOf i).toNat)
  case atStart => exact ⟨s0, 0, rfl, by omega, by simpa using HSE.out, h, hX⟩
  case round =>
    obtain ⟨s, p, rfl, hp, hs, he, hx⟩ := hrel
    have HS := hid hs
    have HE := hid he
    have HX := hid hx
    clear hs he hx h hX HSE
    have hb := hbox s wr HE.out
    have c0 : wr.cell? ⟨tb, 0, none⟩ = some (.string (str T)) := by rw [cell_of_row _ _ _ _ _ _ hb]; rfl
    by_cases hpl : p < T.length
    · have g1 : (p : Int) < T.length := by omega
      have HSM := hid (fun (b : Nat) (hb : b < 256) wx => (small_any b hb wx))
      have HIP := hid (fun (b : Nat) (hb : b < 256) wx => (isPart_any b hb wx))
      gi_wp2
      gi_loopw [4] (fun i wq => ∃ e : Nat, i = .int .i64 (e : Nat) ∧ p ≤ e ∧ e ≤ T.length ∧ (∀ j, p ≤ j → j < e → Wd.pt (T.getD j 0) = true) ∧ wq = wr)
        (fun i _ => T.length + 1 - (intOf i).toNat)
      case atStart => exact ⟨p, rfl, Nat.le_refl _, by omega, fun j h1 h2 => by omega, rfl⟩
      case round =>
        obtain ⟨e, rfl, hpe, heT, hall, rfl⟩ := hrel
        have HALL := hid hall
        clear hall
        by_cases hel : e < T.length
        · have g2 : (e : Int) < T.length := by omega
          have hix := fun wx => str_index T hT e hel wx
          have hx : T.getD e 0 < 256 := hT _ (by rw [List.getD_eq_getElem?_getD, List.getElem?_eq_getElem hel]; exact List.getElem_mem hel)
          obtain ⟨pb, hpb⟩ : ∃ pb, pb = Wd.pt (T.getD e 0) := ⟨_, rfl⟩
          have HPB := hid hpb
          have HP2 := hid (HIP.out (Wd.small (T.getD e 0)) (Wd.small_lt _ hx))
          have HS2 := hid (HSM.out (T.getD e 0) hx)
          rw [show Wd.part (Wd.small (T.getD e 0)) = pb from hpb.symm] at HP2
          clear hpb
          generalize hbb : T.getD e 0 = bb at *
          have HBB := hid hbb
          clear hbb
          generalize hsb : Wd.small bb = sb at *
          clear hsb hx
          cases pb with
          | true =>
            gi_upto_region 3 with (fail)
            refine wpIn_wide.2 ?_
            go_wp2_with (first
              | (go_at_call 30; refine (HS2.out _).mono ?_; rintro e' wz ⟨rfl, hwz⟩; replace hwz := hwz.symm; subst hwz)
              | (go_at_call 25; refine (HP2.out _).mono ?_; rintro e' wz ⟨rfl, hwz⟩; replace hwz := hwz.symm; subst hwz))
            gi_wp2
            have hkk : (e : Int) + 1 = ((e + 1 : Nat) : Int) := by omega
            have hal : ∀ j, p ≤ j → j < e + 1 → Wd.pt (T.getD j 0) = true := by
              intro j h1 h2
              by_cases h3 : j = e
              · subst h3; rw [HBB.out]; exact HPB.out.symm
              · exact HALL.out j h1 (by omega)
            refine ⟨?_, ?_⟩
            · skip
              first
                | exact ⟨e + 1, congrArg (Value.int .i64) hkk, by omega, by omega, hal, by trivial⟩
                | ((repeat apply Exists.intro); refine ⟨?_, rfl⟩; exact ⟨e + 1, congrArg (Value.int .i64) hkk, by omega, by omega, hal, by trivial⟩)
            · simp [intOf]
              omega
          | false =>
            gi_upto_region 3 with (fail)
            refine wpIn_wide.2 ?_
            go_wp2_with (first
              | (go_at_call 30; refine (HS2.out _).mono ?_; rintro e' wz ⟨rfl, hwz⟩; replace hwz := hwz.symm; subst hwz)
              | (go_at_call 25; refine (HP2.out _).mono ?_; rintro e' wz ⟨rfl, hwz⟩; replace hwz := hwz.symm; subst hwz))
            have HEND := hid (show ∀ b, (T.drop e).head? = some b → Wd.pt b = false from by
              intro b hb
              rw [List.head?_drop, List.getElem?_eq_getElem hel] at hb
              have := HPB.out
              rw [← HBB.out] at this
              rw [List.getD_eq_getElem?_getD, List.getElem?_eq_getElem hel] at this
              simp only [Option.some.injEq] at hb
              rw [← hb]
              exact this.symm)
            clear HPB HP2 HS2 hix HBB
            have hrun := Wd.seqs_run ((T.drop p).take (e - p)) (T.drop e) (fun b hb => by
              obtain ⟨j, hj, rfl⟩ := List.mem_iff_getElem.1 hb
              have hj2 : j < e - p := by rw [List.length_take] at hj; omega
              have := HALL.out (p + j) (by omega) (by omega)
              rw [List.getD_eq_getElem?_getD, List.getElem?_eq_getElem (by omega)] at this
              simpa using this) HEND.out
            rw [show (T.drop p).take (e - p) ++ T.drop e = T.drop p from by
              conv => rhs; rw [← List.take_append_drop (e - p) (T.drop p), List.drop_drop, show p + (e - p) = e from by omega]] at hrun
            rw [List.tail_drop] at hrun
            have HRUN := hid hrun
            clear hrun HALL HEND
            by_cases hpe2 : p < e
            · skip
              have g3 : (p : Int) < e := by omega
              have hmn : (min (e : Int) ((p : Int) + 16)).toNat = min e (p + 16) := by omega
              have hex : (str T).extract p (min e (p + 16)) = str (((T.drop p).take (e - p)).take 16) := by
                rw [extract_word T hT p _ (by omega), word_of T p e hpe]
              have hne : (T.drop p).take (e - p) ≠ [] := by
                intro h
                have := congrArg List.length h
                rw [List.length_take, List.length_drop, List.length_nil] at this
                omega
              have hq : ∀ x ∈ ((T.drop p).take (e - p)).take 16, x < 256 := fun x hx => hT x (List.mem_of_mem_drop (List.mem_of_mem_take (List.mem_of_mem_take hx)))
              have HAS := hid (fun wx => allSmall_any (((T.drop p).take (e - p)).take 16) hq (by rw [List.length_take]; omega) wx)
              have hs1 := HRUN.out
              rw [if_neg hne, List.singleton_append] at hs1
              have hW := Wd.seqs_isW (T.drop p) ((((T.drop p).take (e - p)).take 16).map Wd.small) (by rw [hs1]; exact List.mem_cons_self)
              have hs2 := HS.out
              rw [hs1, List.foldl_cons] at hs2
              have HS2' := hid hs2
              have HW := hid hW
              have HEX := hid hex
              clear hs1 hs2 hW hq hne HRUN hex
              gi_upto_region 5 with (fail)
              gi_wp2
              rw [HEX.out]
              generalize ((T.drop p).take (e - p)).take 16 = q0 at *
              refine ⟨by first | trivial | decide | simp [Fence.wide], (callsIn_wide.2 (HAS.out _)).mono ?_⟩
              rintro e' W2 ⟨rfl, hb2⟩
              generalize q0.map Wd.small = q at *
              have hx2 := hXk wr W2 HX.out (fun k hk => hb2.block k hk)
              obtain ⟨fn, tmps, assign, body, hy, hRR⟩ := hY s q W2 HW.out (hE0 s wr W2 HE.out hb2) hx2
              gi_wp2
              refine hRR.mono ?_
              rintro e' W3 ⟨rfl, he3, hx3⟩
              have HE3 := hid he3
              have HX3 := hid hx3
              clear he3 hx3 hRR hy HX HE hx2 hb2 HEX HAS hb c0
              gi_wp2
              have hkk : (e : Int) + 1 = ((e + 1 : Nat) : Int) := by omega
              refine ⟨?_, ?_⟩
              · skip
                first
                  | exact ⟨f s q, e + 1, congrArg (Value.int .i64) hkk, by omega, HS2'.out, HE3.out, HX3.out⟩
                  | ((repeat apply Exists.intro); refine ⟨?_, rfl⟩; exact ⟨f s q, e + 1, congrArg (Value.int .i64) hkk, by omega, HS2'.out, HE3.out, HX3.out⟩)
              · simp [intOf]
                omega
            · obtain rfl : e = p := by omega
              have hs1 := HS.out
              rw [HRUN.out, Nat.sub_self, List.take_zero, if_pos rfl, List.nil_append] at hs1
              have HS1 := hid hs1
              clear hs1 HRUN
              gi_upto_region 5 with (fail)
              refine wpIn_wide.2 ?_
              go_wp2
              gi_wp2
              have hkk : (e : Int) + 1 = ((e + 1 : Nat) : Int) := by omega
              refine ⟨?_, ?_⟩
              · skip
                first
                  | exact ⟨s, e + 1, congrArg (Value.int .i64) hkk, by omega, HS1.out, HE.out, HX.out⟩
                  | ((repeat apply Exists.intro); refine ⟨?_, rfl⟩; exact ⟨s, e + 1, congrArg (Value.int .i64) hkk, by omega, HS1.out, HE.out, HX.out⟩)
              · simp [intOf]
                omega
        · obtain rfl : e = T.length := by omega
          have HEND := hid (show ∀ b, (T.drop T.length).head? = some b → Wd.pt b = false from by simp)
          generalize hee : T.length = e at *
          gi_upto_region 3 with (fail)
          refine wpIn_wide.2 ?_
          go_wp2
          have hrun := Wd.seqs_run ((T.drop p).take (e - p)) (T.drop e) (fun b hb => by
            obtain ⟨j, hj, rfl⟩ := List.mem_iff_getElem.1 hb
            have hj2 : j < e - p := by rw [List.length_take] at hj; omega
            have := HALL.out (p + j) (by omega) (by omega)
            rw [List.getD_eq_getElem?_getD, List.getElem?_eq_getElem (by omega)] at this
            simpa using this) HEND.out
          rw [show (T.drop p).take (e - p) ++ T.drop e = T.drop p from by
            conv => rhs; rw [← List.take_append_drop (e - p) (T.drop p), List.drop_drop, show p + (e - p) = e from by omega]] at hrun
          rw [List.tail_drop] at hrun
          have HRUN := hid hrun
          clear hrun HALL HEND
          have hpe2 : p < e := by omega
          have g3 : (p : Int) < e := by omega
          have hmn : (min (e : Int) ((p : Int) + 16)).toNat = min e (p + 16) := by omega
          have hex : (str T).extract p (min e (p + 16)) = str (((T.drop p).take (e - p)).take 16) := by
            rw [extract_word T hT p _ (by omega), word_of T p e hpe]
          have hne : (T.drop p).take (e - p) ≠ [] := by
            intro h
            have := congrArg List.length h
            rw [List.length_take, List.length_drop, List.length_nil] at this
            omega
          have hq : ∀ x ∈ ((T.drop p).take (e - p)).take 16, x < 256 := fun x hx => hT x (List.mem_of_mem_drop (List.mem_of_mem_take (List.mem_of_mem_take hx)))
          have HAS := hid (fun wx => allSmall_any (((T.drop p).take (e - p)).take 16) hq (by rw [List.length_take]; omega) wx)
          have hs1 := HRUN.out
          rw [if_neg hne, List.singleton_append] at hs1
          have hW := Wd.seqs_isW (T.drop p) ((((T.drop p).take (e - p)).take 16).map Wd.small) (by rw [hs1]; exact List.mem_cons_self)
          have hs2 := HS.out
          rw [hs1, List.foldl_cons] at hs2
          have HS2' := hid hs2
          have HW := hid hW
          have HEX := hid hex
          clear hs1 hs2 hW hq hne HRUN hex
          gi_upto_region 5 with (fail)
          gi_wp2
          rw [HEX.out]
          generalize ((T.drop p).take (e - p)).take 16 = q0 at *
          refine ⟨by first | trivial | decide | simp [Fence.wide], (callsIn_wide.2 (HAS.out _)).mono ?_⟩
          rintro e' W2 ⟨rfl, hb2⟩
          generalize q0.map Wd.small = q at *
          have hx2 := hXk wr W2 HX.out (fun k hk => hb2.block k hk)
          obtain ⟨fn, tmps, assign, body, hy, hRR⟩ := hY s q W2 HW.out (hE0 s wr W2 HE.out hb2) hx2
          gi_wp2
          refine hRR.mono ?_
          rintro e' W3 ⟨rfl, he3, hx3⟩
          have HE3 := hid he3
          have HX3 := hid hx3
          clear he3 hx3 hRR hy HX HE hx2 hb2 HEX HAS hb c0
          gi_wp2
          have hkk : (e : Int) + 1 = ((e + 1 : Nat) : Int) := by omega
          refine ⟨?_, ?_⟩
          · skip
            first
              | exact ⟨f s q, e + 1, congrArg (Value.int .i64) hkk, by omega, HS2'.out, HE3.out, HX3.out⟩
              | ((repeat apply Exists.intro); refine ⟨?_, rfl⟩; exact ⟨f s q, e + 1, congrArg (Value.int .i64) hkk, by omega, HS2'.out, HE3.out, HX3.out⟩)
          · simp [intOf]
            omega
    · have g1 : ¬ (p : Int) < T.length := by omega
      gi_wp2
      refine bodyPost_end (results_none rfl _ _ _) rfl ⟨⟨_, rfl⟩, ?_, HX.out⟩
      have hs := HS.out
      rw [List.drop_of_length_le (by omega)] at hs
      rw [show sE = s from hs]
      exact HE.out
end Go.Proofs.Ytaipaifnkpgmhaa
