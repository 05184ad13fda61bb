/-
  Walks of the model: what two have both, and what has both.
-/
import Derived.Test.YtlgglbgdopmkpaaW49
namespace Go.Proofs.Ytlgglbgdopmkpaa
open Go.RowKit NP
set_option linter.unusedVariables false
set_option linter.unusedSimpArgs false
theorem Own.aside {w w1 : World} {lo hi : Nat} {e : TypeId} {v u : Value} {vs : List Value} {o : Obj} (h : Own w lo hi e v vs) (hg : (w.alloc o).grownBy w1 u.ownBlock) (hn : ∀ g, u.ownBlock = some g → v.ownBlock = some g → False) : Own w1 lo hi e v vs :=
  (h.alloc o).grown hg (by
    cases hb : v.ownBlock with
    | none => exact .inl rfl
    | some g => exact .inr fun e => hn g e.symm hb)
/-- v is apart from what u has become -/
theorem apart_push {w : World} {lo hi : Nat} {e : TypeId} {v u u' : Value} {vs : List Value} {o : Obj} (h : Own w lo hi e v vs) (hn : ∀ g, u.ownBlock = some g → v.ownBlock = some g → False) (hat : u'.ownBlock = u.ownBlock ∨ u'.ownBlock = some (w.alloc o).heap.size) : ∀ g, u'.ownBlock = some g → v.ownBlock = some g → False := by
  intro g h1 h2
  rcases hat with h3 | h3
  · exact hn g (by rw [← h3]; exact h1) h2
  · have h4 := h.lt g h2
    have h5 := h.le
    rw [h3] at h1
    simp at h1
    omega
theorem cut_at {P Q : List Int} {n : Nat} (h1 : P.length ≤ n) (h2 : Q.length ≤ n) (hn : n ≤ 16) : tr (lo2 P Q) n = cutL P Q ∧ tr (hi2 P Q) n = cutH P Q := by
  constructor
  · exact (tr_more hn fun i hi => by unfold lo2; rw [getD_ge (by omega), getD_ge (by omega)]; rfl).symm
  · exact (tr_more hn fun i hi => by unfold hi2; rw [getD_ge (by omega), getD_ge (by omega)]; rfl).symm
theorem valid_cut {P Q : List Int} (hp : valid P = true) (hq : valid Q = true) : valid (cutH P Q) = cutOk P Q := by
  cases h : cutOk P Q with
  | true => exact valid_cutH h
  | false =>
    have hs : ¬ sf (hi2 P Q) 16 ≤ 16 := by intro hs; unfold cutOk at h; rw [hp, hq, decide_eq_true hs] at h; cases h
    cases hv : valid (cutH P Q) with
    | false => rfl
    | true =>
      have := (valid_bd hv).2.1
      unfold cutH at this
      rw [sum_tr (hi2_nn hp hq)] at this
      omega
theorem cutLF_yes {P Q : List Int} (h : cutOk P Q = true) : cutLF P Q = cutL P Q := by simp [cutLF, h]
theorem cutLF_no {P Q : List Int} (h : cutOk P Q = false) : cutLF P Q = [] := by simp [cutLF, h]
theorem cutHF_yes {P Q : List Int} (h : cutOk P Q = true) : cutHF P Q = cutH P Q := by simp [cutHF, h]
theorem cutHF_no {P Q : List Int} (h : cutOk P Q = false) : cutHF P Q = [] := by simp [cutHF, h]
theorem cutLF_len (P Q : List Int) : (cutLF P Q).length ≤ 16 := by
  cases h : cutOk P Q with
  | true => rw [cutLF_yes h]; exact tr_len _ _
  | false => rw [cutLF_no h]; simp
theorem cutHF_len (P Q : List Int) : (cutHF P Q).length ≤ 16 := by
  cases h : cutOk P Q with
  | true => rw [cutHF_yes h]; exact tr_len _ _
  | false => rw [cutHF_no h]; simp

set_option maxHeartbeats 8000000 in
theorem sCutInside_any (a b : Option Addr) (ca cb Ba Bb : Nat) (P Q : List Int) (w : World) (h : Rd w Ba a (ints P)) (hq : Rd w Bb b (ints Q)) (hBa : Ba ≤ w.heap.size) (hBb : Bb ≤ w.heap.size) (hl : P.length ≤ 4611686018427387904) (hlq : Q.length ≤ 4611686018427387904) :
    Calls Try.prog 31 #[.slice a P.length ca, .slice b Q.length cb] w fun e w' => ∃ a1 c1 a2 c2, e = .returned (.tuple #[.slice a1 (cutLF P Q).length c1, .slice a2 (cutHF P Q).length c2, .bool (cutOk P Q)]) ∧ Own w' w.heap.size w'.heap.size 3 (.slice a1 (cutLF P Q).length c1) (ints (cutLF P Q)) ∧ Own w' w.heap.size w'.heap.size 3 (.slice a2 (cutHF P Q).length c2) (ints (cutHF P Q)) ∧ Below w.heap.size w w' := by
  obtain ⟨i0, hi, hz0, hz1, hz2⟩ := T_int'
  cases hvp : valid P with
  | false =>
    have HP := Lib.hid hvp
    have HI : cutOk P Q = false := by unfold cutOk; rw [hvp]; rfl
    rw [cutLF_no HI, cutHF_no HI, HI]
    clear hvp HI
    go_enter Try.func31, Try.ntmps31
    go_wp2_with (go_at_call 47; refine (validParts_any _ _ Ba P _ h hl).mono ?_; rintro e wv ⟨rfl, n1, rfl⟩; rw [HP.out])
    go_ret3
    exact ⟨none, 0, none, 0, rfl, Own.nil _ _ _, Own.nil _ _ _, (Dr.n w _).below _⟩
  | true =>
    have HP := Lib.hid hvp
    cases hvq : valid Q with
    | false =>
      have HQ := Lib.hid hvq
      have HI : cutOk P Q = false := by unfold cutOk; rw [hvp, hvq]; rfl
      rw [cutLF_no HI, cutHF_no HI, HI]
      clear hvp hvq HI
      go_enter Try.func31, Try.ntmps31
      go_wp2_with (first
      | (go_at_call 47; refine (validParts_any _ _ Bb Q _ (hq.dr (Dr.n w n1)) hlq).mono ?_; rintro e wv ⟨rfl, n2, rfl⟩; rw [HQ.out])
      | (go_at_call 47; refine (validParts_any _ _ Ba P _ h hl).mono ?_; rintro e wv ⟨rfl, n1, rfl⟩; rw [HP.out]))
      go_ret3
      exact ⟨none, 0, none, 0, rfl, Own.nil _ _ _, Own.nil _ _ _, (Dr.n w _).below _⟩
    | true =>
      have HQ := Lib.hid hvq
      have hpl := (valid_bd hvp).2.2.2
      have hql := (valid_bd hvq).2.2.2
      have HGP := Lib.hid (getD_nn hvp)
      have HGQ := Lib.hid (getD_nn hvq)
      have HPP : Hid (∀ k, k < P.length → 1 ≤ P.getD k 0) := Lib.hid (fun k hk => getD_pos hvp hk)
      have HPQ : Hid (∀ k, k < Q.length → 1 ≤ Q.getD k 0) := Lib.hid (fun k hk => getD_pos hvq hk)
      have HVC := Lib.hid (valid_cut hvp hvq)
      clear hvp hvq
      go_enter Try.func31, Try.ntmps31
      go_wp2_with (first
      | (go_at_call 47; refine (validParts_any _ _ Bb Q _ (hq.dr (Dr.n w n1)) hlq).mono ?_; rintro e wv ⟨rfl, n2, rfl⟩; rw [HQ.out])
      | (go_at_call 47; refine (validParts_any _ _ Ba P _ h hl).mono ?_; rintro e wv ⟨rfl, n1, rfl⟩; rw [HP.out]))
      go_loopw [7, 8, 9] (fun v1 v2 vi wr => ∃ k : Nat, k ≤ 16 ∧ vi = .int .i64 k ∧ Below w.heap.size w wr ∧ Own wr w.heap.size wr.heap.size 3 v1 (ints (tr (lo2 P Q) k)) ∧ Own wr w.heap.size wr.heap.size 3 v2 (ints (tr (hi2 P Q) k)) ∧ (∀ g, v1.ownBlock = some g → v2.ownBlock = some g → False)) (fun _ _ vi _ => 20 - (intOf vi).toNat)
      case atStart =>
        have e1 := Own.empty (w.drewN (n1 + n2)) 3
        have e2 := Own.empty ((w.drewN (n1 + n2)).alloc (.cells #[] 3)) 3
        rw [World.size_alloc] at e2
        refine ⟨0, Nat.zero_le _, rfl, (((Dr.n w _).below _).alloc (Nat.le_refl _) _).alloc (by simp) _, (e1.alloc _).more, (e2.lower (Nat.le_succ _)).more, ?_⟩
        intro g h h'
        simp [Value.ownBlock] at h h'
        omega
      case round =>
        obtain ⟨k, hk, rfl, hbw, ho1, ho2, hne⟩ := hrel
        have HNE := Lib.hid hne
        have hszw : w.heap.size ≤ wr.heap.size := hbw.size
        clear hne
        by_cases h1 : k < P.length
        · by_cases h2 : k < Q.length
          · have hgo : True := trivial
            obtain ⟨b1, o1, rfl, _, hc1⟩ := ((h.more hBa).below hbw).at_ h1
            have hx := HGP.out k
            have hpx := HPP.out k h1
            rw [getD_lt h1] at hx hpx
            have HX : Hid (P.getD k 0 = P[k]) := Lib.hid (getD_lt h1)
            have d1 : decide ((k : Int) < (P.length : Int)) = true := decide_eq_true (by omega)
            have l1 : (k : Int) < (P.length : Int) := by omega
            generalize P[k] = x at *
            obtain ⟨b2, o2, rfl, _, hc2⟩ := ((hq.more hBb).below hbw).at_ h2
            have hy := HGQ.out k
            have hqy := HPQ.out k h2
            rw [getD_lt h2] at hy hqy
            have HY : Hid (Q.getD k 0 = Q[k]) := Lib.hid (getD_lt h2)
            have d2 : decide ((k : Int) < (Q.length : Int)) = true := decide_eq_true (by omega)
            have l2 : (k : Int) < (Q.length : Int) := by omega
            generalize Q[k] = y at *
            obtain ⟨N1, hN1⟩ : ∃ N, N = lo2 P Q k := ⟨_, rfl⟩
            obtain ⟨N2, hN2⟩ : ∃ N, N = hi2 P Q k := ⟨_, rfl⟩
            have e1 : N1 = min x y := by rw [hN1]; unfold lo2; rw [HX.out, HY.out]
            have e2 : N2 = max x y := by rw [hN2]; unfold hi2; rw [HX.out, HY.out]
            have HS1 := Lib.hid (tr_succ (lo2 P Q) k)
            have HS2 := Lib.hid (tr_succ (hi2 P Q) k)
            have hmn : (if y < x then y else x) = N1 := by rw [e1]; split <;> omega
            have hmx : (if x < y then y else x) = N2 := by rw [e2]; split <;> omega
            have HN1 : Hid (lo2 P Q k = N1) := Lib.hid hN1.symm
            have HN2 : Hid (hi2 P Q k = N2) := Lib.hid hN2.symm
            have HI2 : Hid (0 < hi2 P Q k) := Lib.hid (by rw [← hN2]; omega)
            obtain ⟨vs1, hvs1⟩ : ∃ vs, vs = ints (tr (lo2 P Q) k) := ⟨_, rfl⟩
            obtain ⟨vs2, hvs2⟩ : ∃ vs, vs = ints (tr (hi2 P Q) k) := ⟨_, rfl⟩
            have hl1 : vs1.length ≤ 16 := by rw [hvs1, List.length_map]; have := tr_len (lo2 P Q) k; omega
            have hl2 : vs2.length ≤ 16 := by rw [hvs2, List.length_map]; have := tr_len (hi2 P Q) k; omega
            rw [← hvs1] at ho1
            rw [← hvs2] at ho2
            have HO1 := Lib.hid ho1
            have HO2 := Lib.hid ho2
            have HV1 := Lib.hid hvs1
            have HV2 := Lib.hid hvs2
            clear ho1 ho2 hvs1 hvs2 hN1 hN2 e1 e2
            by_cases h3 : 0 < N1
            · have d3 : decide (0 < N1) = true := decide_eq_true h3
              have HI : Hid (0 < lo2 P Q k) := Lib.hid (by rw [HN1.out]; exact h3)
              clear h3
              go_wp2_with (first
                | (at_builtin; refine wpList_append_o _ rfl (.tmp 60) (.tmp 64) 22 rfl w.heap.size w3.heap.size 3 i0 (.int .i64 0) 8 Try.underlying22 hi hz0 hz1 hz2 rfl _ vs2 rfl (HO2b.out.alloc _) (w3.heap.size + 1) (some ⟨w3.heap.size, 0, none⟩) 1 1 [.int .i64 N2] rfl (Rd.one _ _ _) rfl (by simp; rfl) (by unfold maxLen; omega) (by omega) (by simp; omega) ?_; intro v4 w4 ho4 hg4 hat4; have hb4 : Below w.heap.size w w4 := below_push HBB.out (Nat.le_refl _) hg4 HO2b.out.base; have ho3b := (HO3.out.aside hg4 (fun g h h' => HNE3.out g h' h)).more; have hne4 := apart_push HO3.out (fun g h h' => HNE3.out g h' h) hat4; have HO4 := Lib.hid ho4; have HO3b := Lib.hid ho3b; have HNE4 := Lib.hid hne4; clear ho4 ho3b hne4 hat4 hg4)
                | (at_builtin; refine wpList_append_o _ rfl (.tmp 54) (.tmp 58) 22 rfl w.heap.size wr.heap.size 3 i0 (.int .i64 0) 8 Try.underlying22 hi hz0 hz1 hz2 rfl _ vs1 rfl (HO1.out.alloc _) (wr.heap.size + 1) (some ⟨wr.heap.size, 0, none⟩) 1 1 [.int .i64 N1] rfl (Rd.one _ _ _) rfl (by simp; rfl) (by unfold maxLen; omega) (by omega) (by simp; omega) ?_; intro v3 w3 ho3 hg3 hat3; have HBB : Hid (Below w.heap.size w w3) := Lib.hid (below_push hbw (Nat.le_refl _) hg3 HO1.out.base); have ho2b := (HO2.out.aside hg3 HNE.out).more; have hne3 := apart_push HO2.out HNE.out hat3; have hs3 : w.heap.size ≤ w3.heap.size := HBB.out.size; have HO3 := Lib.hid ho3; have HO2b := Lib.hid ho2b; have HNE3 := Lib.hid hne3; clear ho3 ho2b hne3 hat3 hg3))
              go_roundw
              case rel =>
                refine ⟨k + 1, by omega, by go_num, hb4, ?_, ?_, fun g h h' => HNE4.out g h' h⟩
                · have e := HO3b.out
                  rw [HV1.out] at e
                  rw [HS1.out, if_pos HI.out, HN1.out]
                  simpa [ints] using e
                · have e := HO4.out
                  rw [HV2.out] at e
                  rw [HS2.out, if_pos HI2.out, HN2.out]
                  simpa [ints] using e
              case measure => simp [intOf]; omega
            · exfalso
              omega
          · have hgo : True := trivial
            obtain ⟨b1, o1, rfl, _, hc1⟩ := ((h.more hBa).below hbw).at_ h1
            have hx := HGP.out k
            have hpx := HPP.out k h1
            rw [getD_lt h1] at hx hpx
            have HX : Hid (P.getD k 0 = P[k]) := Lib.hid (getD_lt h1)
            have d1 : decide ((k : Int) < (P.length : Int)) = true := decide_eq_true (by omega)
            have l1 : (k : Int) < (P.length : Int) := by omega
            generalize P[k] = x at *
            have HY : Hid (Q.getD k 0 = 0) := Lib.hid (getD_ge (by omega))
            have d2 : decide ((k : Int) < (Q.length : Int)) = false := decide_eq_false (by omega)
            have l2 : ¬ (k : Int) < (Q.length : Int) := by omega
            obtain ⟨N1, hN1⟩ : ∃ N, N = lo2 P Q k := ⟨_, rfl⟩
            obtain ⟨N2, hN2⟩ : ∃ N, N = hi2 P Q k := ⟨_, rfl⟩
            have e1 : N1 = min x 0 := by rw [hN1]; unfold lo2; rw [HX.out, HY.out]
            have e2 : N2 = max x 0 := by rw [hN2]; unfold hi2; rw [HX.out, HY.out]
            have HS1 := Lib.hid (tr_succ (lo2 P Q) k)
            have HS2 := Lib.hid (tr_succ (hi2 P Q) k)
            have hmn : (if 0 < x then 0 else x) = N1 := by rw [e1]; split <;> omega
            have hmx : (if x < 0 then 0 else x) = N2 := by rw [e2]; split <;> omega
            have HN1 : Hid (lo2 P Q k = N1) := Lib.hid hN1.symm
            have HN2 : Hid (hi2 P Q k = N2) := Lib.hid hN2.symm
            have HI2 : Hid (0 < hi2 P Q k) := Lib.hid (by rw [← hN2]; omega)
            have hN1v : N1 = 0 := by omega
            have hN2v : N2 = x := by omega
            obtain ⟨vs1, hvs1⟩ : ∃ vs, vs = ints (tr (lo2 P Q) k) := ⟨_, rfl⟩
            obtain ⟨vs2, hvs2⟩ : ∃ vs, vs = ints (tr (hi2 P Q) k) := ⟨_, rfl⟩
            have hl1 : vs1.length ≤ 16 := by rw [hvs1, List.length_map]; have := tr_len (lo2 P Q) k; omega
            have hl2 : vs2.length ≤ 16 := by rw [hvs2, List.length_map]; have := tr_len (hi2 P Q) k; omega
            rw [← hvs1] at ho1
            rw [← hvs2] at ho2
            have HO1 := Lib.hid ho1
            have HO2 := Lib.hid ho2
            have HV1 := Lib.hid hvs1
            have HV2 := Lib.hid hvs2
            clear ho1 ho2 hvs1 hvs2 hN1 hN2 e1 e2
            subst hN1v
            subst hN2v
            have HBB := Lib.hid hbw
            have HI : Hid (¬ 0 < lo2 P Q k) := Lib.hid (by rw [HN1.out]; omega)
            have HNEr := HNE
            go_wp2_with (at_builtin; refine wpList_append_o _ rfl (.tmp 60) (.tmp 64) 22 rfl w.heap.size wr.heap.size 3 i0 (.int .i64 0) 8 Try.underlying22 hi hz0 hz1 hz2 rfl _ vs2 rfl (HO2.out.alloc _) (wr.heap.size + 1) (some ⟨wr.heap.size, 0, none⟩) 1 1 [.int .i64 N2] rfl (Rd.one _ _ _) rfl (by simp; rfl) (by unfold maxLen; omega) (by omega) (by simp; omega) ?_; intro v4 w4 ho4 hg4 hat4; have hb4 : Below w.heap.size w w4 := below_push HBB.out (Nat.le_refl _) hg4 HO2.out.base; have ho3b := (HO1.out.aside hg4 (fun g h h' => HNEr.out g h' h)).more; have hne4 := apart_push HO1.out (fun g h h' => HNEr.out g h' h) hat4; have HO4 := Lib.hid ho4; have HO3b := Lib.hid ho3b; have HNE4 := Lib.hid hne4; clear ho4 ho3b hne4 hat4 hg4)
            go_roundw
            case rel =>
              refine ⟨k + 1, by omega, by go_num, hb4, ?_, ?_, fun g h h' => HNE4.out g h' h⟩
              · rw [HS1.out, if_neg HI.out, List.append_nil, ← HV1.out]
                exact HO3b.out
              · have e := HO4.out
                rw [HV2.out] at e
                rw [HS2.out, if_pos HI2.out, HN2.out]
                simpa [ints] using e
            case measure => simp [intOf]; omega
        · by_cases h2 : k < Q.length
          · have hgo : True := trivial
            have HX : Hid (P.getD k 0 = 0) := Lib.hid (getD_ge (by omega))
            have d1 : decide ((k : Int) < (P.length : Int)) = false := decide_eq_false (by omega)
            have l1 : ¬ (k : Int) < (P.length : Int) := by omega
            obtain ⟨b2, o2, rfl, _, hc2⟩ := ((hq.more hBb).below hbw).at_ h2
            have hy := HGQ.out k
            have hqy := HPQ.out k h2
            rw [getD_lt h2] at hy hqy
            have HY : Hid (Q.getD k 0 = Q[k]) := Lib.hid (getD_lt h2)
            have d2 : decide ((k : Int) < (Q.length : Int)) = true := decide_eq_true (by omega)
            have l2 : (k : Int) < (Q.length : Int) := by omega
            generalize Q[k] = y at *
            obtain ⟨N1, hN1⟩ : ∃ N, N = lo2 P Q k := ⟨_, rfl⟩
            obtain ⟨N2, hN2⟩ : ∃ N, N = hi2 P Q k := ⟨_, rfl⟩
            have e1 : N1 = min 0 y := by rw [hN1]; unfold lo2; rw [HX.out, HY.out]
            have e2 : N2 = max 0 y := by rw [hN2]; unfold hi2; rw [HX.out, HY.out]
            have HS1 := Lib.hid (tr_succ (lo2 P Q) k)
            have HS2 := Lib.hid (tr_succ (hi2 P Q) k)
            have hmn : (if y < 0 then y else 0) = N1 := by rw [e1]; split <;> omega
            have hmx : (if 0 < y then y else 0) = N2 := by rw [e2]; split <;> omega
            have HN1 : Hid (lo2 P Q k = N1) := Lib.hid hN1.symm
            have HN2 : Hid (hi2 P Q k = N2) := Lib.hid hN2.symm
            have HI2 : Hid (0 < hi2 P Q k) := Lib.hid (by rw [← hN2]; omega)
            have hN1v : N1 = 0 := by omega
            have hN2v : N2 = y := by omega
            obtain ⟨vs1, hvs1⟩ : ∃ vs, vs = ints (tr (lo2 P Q) k) := ⟨_, rfl⟩
            obtain ⟨vs2, hvs2⟩ : ∃ vs, vs = ints (tr (hi2 P Q) k) := ⟨_, rfl⟩
            have hl1 : vs1.length ≤ 16 := by rw [hvs1, List.length_map]; have := tr_len (lo2 P Q) k; omega
            have hl2 : vs2.length ≤ 16 := by rw [hvs2, List.length_map]; have := tr_len (hi2 P Q) k; omega
            rw [← hvs1] at ho1
            rw [← hvs2] at ho2
            have HO1 := Lib.hid ho1
            have HO2 := Lib.hid ho2
            have HV1 := Lib.hid hvs1
            have HV2 := Lib.hid hvs2
            clear ho1 ho2 hvs1 hvs2 hN1 hN2 e1 e2
            subst hN1v
            subst hN2v
            have HBB := Lib.hid hbw
            have HI : Hid (¬ 0 < lo2 P Q k) := Lib.hid (by rw [HN1.out]; omega)
            have HNEr := HNE
            go_wp2_with (at_builtin; refine wpList_append_o _ rfl (.tmp 60) (.tmp 64) 22 rfl w.heap.size wr.heap.size 3 i0 (.int .i64 0) 8 Try.underlying22 hi hz0 hz1 hz2 rfl _ vs2 rfl (HO2.out.alloc _) (wr.heap.size + 1) (some ⟨wr.heap.size, 0, none⟩) 1 1 [.int .i64 N2] rfl (Rd.one _ _ _) rfl (by simp; rfl) (by unfold maxLen; omega) (by omega) (by simp; omega) ?_; intro v4 w4 ho4 hg4 hat4; have hb4 : Below w.heap.size w w4 := below_push HBB.out (Nat.le_refl _) hg4 HO2.out.base; have ho3b := (HO1.out.aside hg4 (fun g h h' => HNEr.out g h' h)).more; have hne4 := apart_push HO1.out (fun g h h' => HNEr.out g h' h) hat4; have HO4 := Lib.hid ho4; have HO3b := Lib.hid ho3b; have HNE4 := Lib.hid hne4; clear ho4 ho3b hne4 hat4 hg4)
            go_roundw
            case rel =>
              refine ⟨k + 1, by omega, by go_num, hb4, ?_, ?_, fun g h h' => HNE4.out g h' h⟩
              · rw [HS1.out, if_neg HI.out, List.append_nil, ← HV1.out]
                exact HO3b.out
              · have e := HO4.out
                rw [HV2.out] at e
                rw [HS2.out, if_pos HI2.out, HN2.out]
                simpa [ints] using e
            case measure => simp [intOf]; omega
          · have hgo : True := trivial
            have HX : Hid (P.getD k 0 = 0) := Lib.hid (getD_ge (by omega))
            have d1 : decide ((k : Int) < (P.length : Int)) = false := decide_eq_false (by omega)
            have l1 : ¬ (k : Int) < (P.length : Int) := by omega
            have HY : Hid (Q.getD k 0 = 0) := Lib.hid (getD_ge (by omega))
            have d2 : decide ((k : Int) < (Q.length : Int)) = false := decide_eq_false (by omega)
            have l2 : ¬ (k : Int) < (Q.length : Int) := by omega
            rw [(cut_at (by omega) (by omega) hk).1] at ho1
            rw [(cut_at (by omega) (by omega) hk).2] at ho2
            obtain ⟨a1, c1, rfl⟩ := ho1.form
            obtain ⟨a2, c2, rfl⟩ := ho2.form
            have hq1 : (ints (cutL P Q)).length = (cutL P Q).length := by simp
            have hq2 : (ints (cutH P Q)).length = (cutH P Q).length := by simp
            rw [hq1] at ho1 ⊢
            rw [hq2] at ho2 ⊢
            have hcl : (cutH P Q).length ≤ 16 := tr_len _ _
            have HO1 := Lib.hid ho1
            have HO2 := Lib.hid ho2
            clear ho1 ho2 hq1 hq2
            cases hok : cutOk P Q with
            | true =>
              have HV3 : Hid (valid (cutH P Q) = true) := Lib.hid (by rw [HVC.out, hok])
              have HE1 : Hid (cutLF P Q = cutL P Q) := Lib.hid (cutLF_yes hok)
              have HE2 : Hid (cutHF P Q = cutH P Q) := Lib.hid (cutHF_yes hok)
              have HOK := Lib.hid hok
              clear hok
              go_wp2_with (go_at_call 47; refine (validParts_any _ _ _ (cutH P Q) _ HO2.out.rd (by omega)).mono ?_; rintro e wv ⟨rfl, n3, rfl⟩; rw [HV3.out])
              go_ret3
              rw [HE1.out, HE2.out, HOK.out]
              exact ⟨a1, c1, a2, c2, rfl, HO1.out.drewN n3, HO2.out.drewN n3, hbw.trans ((Dr.n _ _).below _)⟩
            | false =>
              have HV3 : Hid (valid (cutH P Q) = false) := Lib.hid (by rw [HVC.out, hok])
              have HE1 : Hid (cutLF P Q = []) := Lib.hid (cutLF_no hok)
              have HE2 : Hid (cutHF P Q = []) := Lib.hid (cutHF_no hok)
              have HOK := Lib.hid hok
              clear hok
              go_wp2_with (go_at_call 47; refine (validParts_any _ _ _ (cutH P Q) _ HO2.out.rd (by omega)).mono ?_; rintro e wv ⟨rfl, n3, rfl⟩; rw [HV3.out])
              go_ret3
              rw [HE1.out, HE2.out, HOK.out]
              exact ⟨none, 0, none, 0, rfl, Own.nil _ _ _, Own.nil _ _ _, hbw.trans ((Dr.n _ _).below _)⟩
end Go.Proofs.Ytlgglbgdopmkpaa
