/-
  Walks of the model: meets, joins.
-/
import Derived.Test.YtlgglbgdopmkpaaW49
namespace Go.Proofs.Ytlgglbgdopmkpaa
open Go.RowKit NP
set_option linter.unusedVariables false
set_option linter.unusedSimpArgs false
theorem own_nilF (w : World) (lo : Nat) (e : TypeId) : Own w lo w.heap.size e (.slice none ([] : List Int).length 0) (ints []) := Own.nil w lo e

set_option maxHeartbeats 4000000 in
theorem smeet_any (a b : Option Addr) (ca cb Ba Bb : Nat) (P Q : List Int) (w : World) (h : Rd w Ba a (ints P)) (hq : Rd w Bb b (ints Q)) (hBa : Ba ≤ w.heap.size) (hBb : Bb ≤ w.heap.size) (hvp : valid P = true) (hvq : valid Q = true) :
    Calls Try.prog 68 #[.slice a P.length ca, .slice b Q.length cb] w fun e w' => ∃ a' c', e = .returned (.slice a' (NP.mt P Q).length c') ∧ Own w' w.heap.size w'.heap.size 3 (.slice a' (NP.mt P Q).length c') (ints (NP.mt P Q)) ∧ Below w.heap.size w w' := by
  obtain ⟨i0, hi, hz0, hz1, hz2⟩ := T_int'
  have hpl := (valid_bd hvp).2.2.2
  have hql := (valid_bd hvq).2.2.2
  have HGP := Lib.hid (getD_nn hvp)
  have HGQ := Lib.hid (getD_nn hvq)
  have HBP := Lib.hid (sumTo_bd hvp)
  have HBQ := Lib.hid (sumTo_bd hvq)
  have HP := Lib.hid hvp
  have HQ := Lib.hid hvq
  clear hvp hvq
  go_enter Try.func68, Try.ntmps68
  go_wp2_with fail
  go_loopw [5, 6, 7, 8, 9] (fun v va vb vl vi wr => ∃ k : Nat, k ≤ 16 ∧ vi = .int .i64 k ∧ va = .int .i64 (sumTo P k) ∧ vb = .int .i64 (sumTo Q k) ∧ vl = .int .i64 (mf P Q k) ∧ Below w.heap.size w wr ∧ Own wr w.heap.size wr.heap.size 3 v (ints (tr (mi P Q) k))) (fun _ _ _ _ vi _ => 20 - (intOf vi).toNat)
  case atStart => exact ⟨0, Nat.zero_le _, rfl, rfl, rfl, rfl, (Below.refl _ _).alloc (Nat.le_refl _) _, (Own.empty w 3).more⟩
  case round =>
    obtain ⟨k, hk, rfl, rfl, rfl, rfl, hbel, hown⟩ := hrel
    have hA := HBP.out k
    have hB := HBQ.out k
    by_cases h1 : k < P.length
    · by_cases h2 : k < Q.length
      · have hgo : True := trivial
        obtain ⟨b1, o1, rfl, _, hc1⟩ := ((h.more hBa).below hbel).at_ h1
        have hx := HGP.out k
        have hx2 := HBP.out (k + 1)
        rw [sumTo] at hx2
        rw [getD_lt h1] at hx hx2
        have HX : Hid (P.getD k 0 = P[k]) := Lib.hid (getD_lt h1)
        have d1 : decide ((k : Int) < (P.length : Int)) = true := decide_eq_true (by omega)
        have l1 : (k : Int) < (P.length : Int) := by omega
        obtain ⟨b2, o2, rfl, _, hc2⟩ := ((hq.more hBb).below hbel).at_ h2
        have hy := HGQ.out k
        have hy2 := HBQ.out (k + 1)
        rw [sumTo] at hy2
        rw [getD_lt h2] at hy hy2
        have HY : Hid (Q.getD k 0 = Q[k]) := Lib.hid (getD_lt h2)
        have d2 : decide ((k : Int) < (Q.length : Int)) = true := decide_eq_true (by omega)
        have l2 : (k : Int) < (Q.length : Int) := by omega
        obtain ⟨A, hAA⟩ : ∃ A, A = sumTo P k := ⟨_, rfl⟩
        rw [← hAA] at hA hx2 ⊢
        have HA : Hid (sumTo P k = A) := Lib.hid hAA.symm
        clear hAA
        obtain ⟨B, hBB⟩ : ∃ B, B = sumTo Q k := ⟨_, rfl⟩
        rw [← hBB] at hB hy2 ⊢
        have HB : Hid (sumTo Q k = B) := Lib.hid hBB.symm
        clear hBB
        generalize P[k] = x at *
        have hw1 : IntKind.i64.wrap (A + x) = A + x := IntWalk.i64_in _ (by omega)
        generalize Q[k] = y at *
        have hw2 : IntKind.i64.wrap (B + y) = B + y := IntWalk.i64_in _ (by omega)
        obtain ⟨M, hMM⟩ : ∃ M, M = mf P Q k := ⟨_, rfl⟩
        have hM : M = min A B := by rw [hMM]; unfold mf; rw [HA.out, HB.out]
        rw [← hMM]
        obtain ⟨N, hNN⟩ : ∃ N, N = mf P Q (k + 1) := ⟨_, rfl⟩
        have hN : N = min (A + x) (B + y) := by rw [hNN]; unfold mf; rw [sumTo, sumTo, HX.out, HY.out, HA.out, HB.out]
        have HN : Hid (mf P Q (k + 1) = N) := Lib.hid hNN.symm
        have HMI : Hid (mi P Q k = N - M) := Lib.hid (by unfold mi; rw [← hNN, ← hMM])
        have HS := Lib.hid (tr_succ (mi P Q) k)
        have hmn : (if (B + y) < (A + x) then (B + y) else (A + x)) = N := by rw [hN]; split <;> omega
        obtain ⟨vs, hvs⟩ : ∃ vs, vs = ints (tr (mi P Q) k) := ⟨_, rfl⟩
        have hlv : vs.length ≤ 16 := by rw [hvs, List.length_map]; have := tr_len (mi P Q) k; omega
        rw [← hvs] at hown
        have HVS := Lib.hid hvs
        have HO := Lib.hid hown
        have hnb : 0 ≤ N ∧ N ≤ 16 := by omega
        have hmb : 0 ≤ M ∧ M ≤ 16 := by omega
        clear hvs hown hMM hNN hM hN
        have hw3 : IntKind.i64.wrap (N - M) = N - M := IntWalk.i64_in _ (by omega)
        by_cases h3 : M < N
        · have d3 : decide (M < N) = true := decide_eq_true h3
          have HI : Hid (0 < mi P Q k) := Lib.hid (by rw [HMI.out]; omega)
          clear h3
          go_wp2_with (at_builtin; refine wpList_append_o _ rfl (.tmp 48) (.tmp 54) 22 rfl w.heap.size wr.heap.size 3 i0 (.int .i64 0) 8 Try.underlying22 hi hz0 hz1 hz2 rfl _ vs rfl (HO.out.alloc _) (wr.heap.size + 1) (some ⟨wr.heap.size, 0, none⟩) 1 1 [.int .i64 (N - M)] rfl (Rd.one _ _ _) rfl (by simp; rfl) (by unfold maxLen; omega) (by omega) (by have := hbel.size; simp; omega) ?_; intro v' w1 ho1 hg1 hat1)
          go_roundw
          case rel =>
            refine ⟨k + 1, by omega, by go_num, (by rw [sumTo, HX.out, HA.out]), (by rw [sumTo, HY.out, HB.out]), (by rw [HN.out]), below_push hbel (Nat.le_refl _) hg1 HO.out.base, ?_⟩
            rw [HVS.out] at ho1
            rw [HS.out, if_pos HI.out, HMI.out]
            simpa [ints] using ho1
          case measure => simp [intOf]; omega
        · have d3 : decide (M < N) = false := decide_eq_false h3
          have HI : Hid (¬ 0 < mi P Q k) := Lib.hid (by rw [HMI.out]; omega)
          clear h3
          go_wp2_with fail
          go_roundw
          case rel =>
            refine ⟨k + 1, by omega, by go_num, (by rw [sumTo, HX.out, HA.out]), (by rw [sumTo, HY.out, HB.out]), (by rw [HN.out]), hbel, ?_⟩
            rw [HS.out, if_neg HI.out, List.append_nil, ← HVS.out]
            exact HO.out
          case measure => simp [intOf]; omega
      · have hgo : True := trivial
        obtain ⟨b1, o1, rfl, _, hc1⟩ := ((h.more hBa).below hbel).at_ h1
        have hx := HGP.out k
        have hx2 := HBP.out (k + 1)
        rw [sumTo] at hx2
        rw [getD_lt h1] at hx hx2
        have HX : Hid (P.getD k 0 = P[k]) := Lib.hid (getD_lt h1)
        have d1 : decide ((k : Int) < (P.length : Int)) = true := decide_eq_true (by omega)
        have l1 : (k : Int) < (P.length : Int) := by omega
        have HY : Hid (Q.getD k 0 = 0) := Lib.hid (getD_ge (by omega))
        have d2 : decide ((k : Int) < (Q.length : Int)) = false := decide_eq_false (by omega)
        have l2 : ¬ (k : Int) < (Q.length : Int) := by omega
        obtain ⟨A, hAA⟩ : ∃ A, A = sumTo P k := ⟨_, rfl⟩
        rw [← hAA] at hA hx2 ⊢
        have HA : Hid (sumTo P k = A) := Lib.hid hAA.symm
        clear hAA
        obtain ⟨B, hBB⟩ : ∃ B, B = sumTo Q k := ⟨_, rfl⟩
        rw [← hBB] at hB ⊢
        have HB : Hid (sumTo Q k = B) := Lib.hid hBB.symm
        clear hBB
        generalize P[k] = x at *
        have hw1 : IntKind.i64.wrap (A + x) = A + x := IntWalk.i64_in _ (by omega)
        obtain ⟨M, hMM⟩ : ∃ M, M = mf P Q k := ⟨_, rfl⟩
        have hM : M = min A B := by rw [hMM]; unfold mf; rw [HA.out, HB.out]
        rw [← hMM]
        obtain ⟨N, hNN⟩ : ∃ N, N = mf P Q (k + 1) := ⟨_, rfl⟩
        have hN : N = min (A + x) B := by rw [hNN]; unfold mf; rw [sumTo, sumTo, HX.out, HY.out, HA.out, HB.out]; simp
        have HN : Hid (mf P Q (k + 1) = N) := Lib.hid hNN.symm
        have HMI : Hid (mi P Q k = N - M) := Lib.hid (by unfold mi; rw [← hNN, ← hMM])
        have HS := Lib.hid (tr_succ (mi P Q) k)
        have hmn : (if B < (A + x) then B else (A + x)) = N := by rw [hN]; split <;> omega
        obtain ⟨vs, hvs⟩ : ∃ vs, vs = ints (tr (mi P Q) k) := ⟨_, rfl⟩
        have hlv : vs.length ≤ 16 := by rw [hvs, List.length_map]; have := tr_len (mi P Q) k; omega
        rw [← hvs] at hown
        have HVS := Lib.hid hvs
        have HO := Lib.hid hown
        have hnb : 0 ≤ N ∧ N ≤ 16 := by omega
        have hmb : 0 ≤ M ∧ M ≤ 16 := by omega
        clear hvs hown hMM hNN hM hN
        have hw3 : IntKind.i64.wrap (N - M) = N - M := IntWalk.i64_in _ (by omega)
        by_cases h3 : M < N
        · have d3 : decide (M < N) = true := decide_eq_true h3
          have HI : Hid (0 < mi P Q k) := Lib.hid (by rw [HMI.out]; omega)
          clear h3
          go_wp2_with (at_builtin; refine wpList_append_o _ rfl (.tmp 48) (.tmp 54) 22 rfl w.heap.size wr.heap.size 3 i0 (.int .i64 0) 8 Try.underlying22 hi hz0 hz1 hz2 rfl _ vs rfl (HO.out.alloc _) (wr.heap.size + 1) (some ⟨wr.heap.size, 0, none⟩) 1 1 [.int .i64 (N - M)] rfl (Rd.one _ _ _) rfl (by simp; rfl) (by unfold maxLen; omega) (by omega) (by have := hbel.size; simp; omega) ?_; intro v' w1 ho1 hg1 hat1)
          go_roundw
          case rel =>
            refine ⟨k + 1, by omega, by go_num, (by rw [sumTo, HX.out, HA.out]), (by rw [sumTo, HY.out, HB.out]; go_num), (by rw [HN.out]), below_push hbel (Nat.le_refl _) hg1 HO.out.base, ?_⟩
            rw [HVS.out] at ho1
            rw [HS.out, if_pos HI.out, HMI.out]
            simpa [ints] using ho1
          case measure => simp [intOf]; omega
        · have d3 : decide (M < N) = false := decide_eq_false h3
          have HI : Hid (¬ 0 < mi P Q k) := Lib.hid (by rw [HMI.out]; omega)
          clear h3
          go_wp2_with fail
          go_roundw
          case rel =>
            refine ⟨k + 1, by omega, by go_num, (by rw [sumTo, HX.out, HA.out]), (by rw [sumTo, HY.out, HB.out]; go_num), (by rw [HN.out]), hbel, ?_⟩
            rw [HS.out, if_neg HI.out, List.append_nil, ← HVS.out]
            exact HO.out
          case measure => simp [intOf]; omega
    · by_cases h2 : k < Q.length
      · have hgo : True := trivial
        have HX : Hid (P.getD k 0 = 0) := Lib.hid (getD_ge (by omega))
        have d1 : decide ((k : Int) < (P.length : Int)) = false := decide_eq_false (by omega)
        have l1 : ¬ (k : Int) < (P.length : Int) := by omega
        obtain ⟨b2, o2, rfl, _, hc2⟩ := ((hq.more hBb).below hbel).at_ h2
        have hy := HGQ.out k
        have hy2 := HBQ.out (k + 1)
        rw [sumTo] at hy2
        rw [getD_lt h2] at hy hy2
        have HY : Hid (Q.getD k 0 = Q[k]) := Lib.hid (getD_lt h2)
        have d2 : decide ((k : Int) < (Q.length : Int)) = true := decide_eq_true (by omega)
        have l2 : (k : Int) < (Q.length : Int) := by omega
        obtain ⟨A, hAA⟩ : ∃ A, A = sumTo P k := ⟨_, rfl⟩
        rw [← hAA] at hA ⊢
        have HA : Hid (sumTo P k = A) := Lib.hid hAA.symm
        clear hAA
        obtain ⟨B, hBB⟩ : ∃ B, B = sumTo Q k := ⟨_, rfl⟩
        rw [← hBB] at hB hy2 ⊢
        have HB : Hid (sumTo Q k = B) := Lib.hid hBB.symm
        clear hBB
        generalize Q[k] = y at *
        have hw2 : IntKind.i64.wrap (B + y) = B + y := IntWalk.i64_in _ (by omega)
        obtain ⟨M, hMM⟩ : ∃ M, M = mf P Q k := ⟨_, rfl⟩
        have hM : M = min A B := by rw [hMM]; unfold mf; rw [HA.out, HB.out]
        rw [← hMM]
        obtain ⟨N, hNN⟩ : ∃ N, N = mf P Q (k + 1) := ⟨_, rfl⟩
        have hN : N = min A (B + y) := by rw [hNN]; unfold mf; rw [sumTo, sumTo, HX.out, HY.out, HA.out, HB.out]; simp
        have HN : Hid (mf P Q (k + 1) = N) := Lib.hid hNN.symm
        have HMI : Hid (mi P Q k = N - M) := Lib.hid (by unfold mi; rw [← hNN, ← hMM])
        have HS := Lib.hid (tr_succ (mi P Q) k)
        have hmn : (if (B + y) < A then (B + y) else A) = N := by rw [hN]; split <;> omega
        obtain ⟨vs, hvs⟩ : ∃ vs, vs = ints (tr (mi P Q) k) := ⟨_, rfl⟩
        have hlv : vs.length ≤ 16 := by rw [hvs, List.length_map]; have := tr_len (mi P Q) k; omega
        rw [← hvs] at hown
        have HVS := Lib.hid hvs
        have HO := Lib.hid hown
        have hnb : 0 ≤ N ∧ N ≤ 16 := by omega
        have hmb : 0 ≤ M ∧ M ≤ 16 := by omega
        clear hvs hown hMM hNN hM hN
        have hw3 : IntKind.i64.wrap (N - M) = N - M := IntWalk.i64_in _ (by omega)
        by_cases h3 : M < N
        · have d3 : decide (M < N) = true := decide_eq_true h3
          have HI : Hid (0 < mi P Q k) := Lib.hid (by rw [HMI.out]; omega)
          clear h3
          go_wp2_with (at_builtin; refine wpList_append_o _ rfl (.tmp 48) (.tmp 54) 22 rfl w.heap.size wr.heap.size 3 i0 (.int .i64 0) 8 Try.underlying22 hi hz0 hz1 hz2 rfl _ vs rfl (HO.out.alloc _) (wr.heap.size + 1) (some ⟨wr.heap.size, 0, none⟩) 1 1 [.int .i64 (N - M)] rfl (Rd.one _ _ _) rfl (by simp; rfl) (by unfold maxLen; omega) (by omega) (by have := hbel.size; simp; omega) ?_; intro v' w1 ho1 hg1 hat1)
          go_roundw
          case rel =>
            refine ⟨k + 1, by omega, by go_num, (by rw [sumTo, HX.out, HA.out]; go_num), (by rw [sumTo, HY.out, HB.out]), (by rw [HN.out]), below_push hbel (Nat.le_refl _) hg1 HO.out.base, ?_⟩
            rw [HVS.out] at ho1
            rw [HS.out, if_pos HI.out, HMI.out]
            simpa [ints] using ho1
          case measure => simp [intOf]; omega
        · have d3 : decide (M < N) = false := decide_eq_false h3
          have HI : Hid (¬ 0 < mi P Q k) := Lib.hid (by rw [HMI.out]; omega)
          clear h3
          go_wp2_with fail
          go_roundw
          case rel =>
            refine ⟨k + 1, by omega, by go_num, (by rw [sumTo, HX.out, HA.out]; go_num), (by rw [sumTo, HY.out, HB.out]), (by rw [HN.out]), hbel, ?_⟩
            rw [HS.out, if_neg HI.out, List.append_nil, ← HVS.out]
            exact HO.out
          case measure => simp [intOf]; omega
      · have hgo : True := trivial
        have HX : Hid (P.getD k 0 = 0) := Lib.hid (getD_ge (by omega))
        have d1 : decide ((k : Int) < (P.length : Int)) = false := decide_eq_false (by omega)
        have l1 : ¬ (k : Int) < (P.length : Int) := by omega
        have HY : Hid (Q.getD k 0 = 0) := Lib.hid (getD_ge (by omega))
        have d2 : decide ((k : Int) < (Q.length : Int)) = false := decide_eq_false (by omega)
        have l2 : ¬ (k : Int) < (Q.length : Int) := by omega
        rw [mt_at (by omega) (by omega) hk] at hown
        obtain ⟨a', c', rfl⟩ := hown.form
        have hl4 : (ints (NP.mt P Q)).length = (NP.mt P Q).length := by simp
        rw [hl4] at hown ⊢
        have HO := Lib.hid hown
        clear hown hl4
        go_wp2_with fail
        go_ret
        exact ⟨a', c', rfl, HO.out, hbel⟩

set_option maxHeartbeats 1000000 in
theorem sMeetParts_any (a b : Option Addr) (ca cb Ba Bb : Nat) (P Q : List Int) (w : World) (h : Rd w Ba a (ints P)) (hq : Rd w Bb b (ints Q)) (hBa : Ba ≤ w.heap.size) (hBb : Bb ≤ w.heap.size) (hl : P.length ≤ 4611686018427387904) (hlq : Q.length ≤ 4611686018427387904) :
    Calls Try.prog 40 #[.slice a P.length ca, .slice b Q.length cb] w fun e w' => ∃ a' c', e = .returned (.tuple #[.slice a' (mtF P Q).length c', .bool (oneS' P Q)]) ∧ Own w' w.heap.size w'.heap.size 3 (.slice a' (mtF P Q).length c') (ints (mtF P Q)) ∧ Below w.heap.size w w' := by
  cases hvp : valid P with
  | false =>
    have HP := Lib.hid hvp
    have HI : oneS' P Q = false := by unfold oneS'; rw [hvp]; rfl
    rw [mtF_no HI, HI]
    clear hvp HI
    go_enter Try.func40, Try.ntmps40
    go_wp2_with (go_at_call 47; refine (validParts_any _ _ Ba P _ h hl).mono ?_; rintro e wv ⟨rfl, n1, rfl⟩; rw [HP.out])
    go_ret2
    exact ⟨none, 0, rfl, own_nilF _ _ _, (Dr.n w _).below _⟩
  | true =>
    have HP := Lib.hid hvp
    cases hvq : valid Q with
    | false =>
      have HQ := Lib.hid hvq
      have HI : oneS' P Q = false := by unfold oneS'; rw [hvp, hvq]; rfl
      rw [mtF_no HI, HI]
      clear hvp hvq HI
      go_enter Try.func40, Try.ntmps40
      go_wp2_with (first
      | (go_at_call 47; refine (validParts_any _ _ Bb Q _ (hq.dr (Dr.n w n1)) hlq).mono ?_; rintro e wv ⟨rfl, n2, rfl⟩; rw [HQ.out])
      | (go_at_call 47; refine (validParts_any _ _ Ba P _ h hl).mono ?_; rintro e wv ⟨rfl, n1, rfl⟩; rw [HP.out]))
      go_ret2
      exact ⟨none, 0, rfl, own_nilF _ _ _, (Dr.n w _).below _⟩
    | true =>
      have HQ := Lib.hid hvq
      have HFP := Lib.hid (valid_fits hvp)
      have HFQ := Lib.hid (valid_fits hvq)
      have hs01 : True := trivial
      by_cases hs : sumL P = sumL Q
      · have HI : oneS' P Q = true := by unfold oneS'; rw [hvp, hvq, hs]; simp
        have d1 : (sumL P != sumL Q) = false := by simp [hs]
        rw [mtF_yes HI, HI]
        clear hvp hvq hs HI
        go_enter Try.func40, Try.ntmps40
        go_wp2_with (first
      | (go_at_call 68; refine (smeet_any _ _ _ _ Ba Bb P Q _ (h.dr (Dr.n w (n1 + n2))) (hq.dr (Dr.n w (n1 + n2))) (by exact hBa) (by exact hBb) HP.out HQ.out).mono ?_; rintro e w1 ⟨a1, c1, rfl, ho1, hb1⟩)
      | (go_at_call 67; have hsx := hs1; refine (sum_any _ _ Bb Q _ (hq.dr (Dr.n w (n1 + n2))) HFQ.out hlq).mono ?_; rintro e wv ⟨rfl, rfl⟩)
      | (go_at_call 67; refine (sum_any _ _ Ba P _ (h.dr (Dr.n w (n1 + n2))) HFP.out hl).mono ?_; rintro e wv ⟨rfl, rfl⟩; have hs1 : True := trivial)
      | (go_at_call 47; refine (validParts_any _ _ Bb Q _ (hq.dr (Dr.n w n1)) hlq).mono ?_; rintro e wv ⟨rfl, n2, rfl⟩; rw [HQ.out])
      | (go_at_call 47; refine (validParts_any _ _ Ba P _ h hl).mono ?_; rintro e wv ⟨rfl, n1, rfl⟩; rw [HP.out]))
        go_ret2
        exact ⟨a1, c1, rfl, ho1, ((Dr.n w _).below _).trans hb1⟩
      · have HI : oneS' P Q = false := by unfold oneS'; rw [hvp, hvq]; simpa using hs
        have d1 : (sumL P != sumL Q) = true := by simpa using hs
        rw [mtF_no HI, HI]
        clear hvp hvq hs HI
        go_enter Try.func40, Try.ntmps40
        go_wp2_with (first
      | (go_at_call 67; have hsx := hs1; refine (sum_any _ _ Bb Q _ (hq.dr (Dr.n w (n1 + n2))) HFQ.out hlq).mono ?_; rintro e wv ⟨rfl, rfl⟩)
      | (go_at_call 67; refine (sum_any _ _ Ba P _ (h.dr (Dr.n w (n1 + n2))) HFP.out hl).mono ?_; rintro e wv ⟨rfl, rfl⟩; have hs1 : True := trivial)
      | (go_at_call 47; refine (validParts_any _ _ Bb Q _ (hq.dr (Dr.n w n1)) hlq).mono ?_; rintro e wv ⟨rfl, n2, rfl⟩; rw [HQ.out])
      | (go_at_call 47; refine (validParts_any _ _ Ba P _ h hl).mono ?_; rintro e wv ⟨rfl, n1, rfl⟩; rw [HP.out]))
        go_ret2
        exact ⟨none, 0, rfl, own_nilF _ _ _, (Dr.n w _).below _⟩

set_option maxHeartbeats 1000000 in
theorem sJoinParts_any (a b : Option Addr) (ca cb Ba Bb : Nat) (P Q : List Int) (w : World) (h : Rd w Ba a (ints P)) (hq : Rd w Bb b (ints Q)) (hBa : Ba ≤ w.heap.size) (hBb : Bb ≤ w.heap.size) (hl : P.length ≤ 4611686018427387904) (hlq : Q.length ≤ 4611686018427387904) :
    Calls Try.prog 44 #[.slice a P.length ca, .slice b Q.length cb] w fun e w' => ∃ a' c', e = .returned (.tuple #[.slice a' (jnF P Q).length c', .bool (oneS' P Q)]) ∧ Own w' w.heap.size w'.heap.size 3 (.slice a' (jnF P Q).length c') (ints (jnF P Q)) ∧ Below w.heap.size w w' := by
  cases hvp : valid P with
  | false =>
    have HP := Lib.hid hvp
    have HI : oneS' P Q = false := by unfold oneS'; rw [hvp]; rfl
    rw [jnF_no HI, HI]
    clear hvp HI
    go_enter Try.func44, Try.ntmps44
    go_wp2_with (go_at_call 47; refine (validParts_any _ _ Ba P _ h hl).mono ?_; rintro e wv ⟨rfl, n1, rfl⟩; rw [HP.out])
    go_ret2
    exact ⟨none, 0, rfl, own_nilF _ _ _, (Dr.n w _).below _⟩
  | true =>
    have HP := Lib.hid hvp
    cases hvq : valid Q with
    | false =>
      have HQ := Lib.hid hvq
      have HI : oneS' P Q = false := by unfold oneS'; rw [hvp, hvq]; rfl
      rw [jnF_no HI, HI]
      clear hvp hvq HI
      go_enter Try.func44, Try.ntmps44
      go_wp2_with (first
      | (go_at_call 47; refine (validParts_any _ _ Bb Q _ (hq.dr (Dr.n w n1)) hlq).mono ?_; rintro e wv ⟨rfl, n2, rfl⟩; rw [HQ.out])
      | (go_at_call 47; refine (validParts_any _ _ Ba P _ h hl).mono ?_; rintro e wv ⟨rfl, n1, rfl⟩; rw [HP.out]))
      go_ret2
      exact ⟨none, 0, rfl, own_nilF _ _ _, (Dr.n w _).below _⟩
    | true =>
      have HQ := Lib.hid hvq
      have HFP := Lib.hid (valid_fits hvp)
      have HFQ := Lib.hid (valid_fits hvq)
      have hs01 : True := trivial
      by_cases hs : sumL P = sumL Q
      · have HI : oneS' P Q = true := by unfold oneS'; rw [hvp, hvq, hs]; simp
        have d1 : (sumL P != sumL Q) = false := by simp [hs]
        rw [jnF_yes HI, HI]
        clear hvp hvq hs HI
        go_enter Try.func44, Try.ntmps44
        go_wp2_with (first
      | (go_at_call 67; have hsx := hs1; refine (sum_any _ _ Bb Q _ (hq.dr (Dr.n w (n1 + n2))) HFQ.out hlq).mono ?_; rintro e wv ⟨rfl, rfl⟩)
      | (go_at_call 67; refine (sum_any _ _ Ba P _ (h.dr (Dr.n w (n1 + n2))) HFP.out hl).mono ?_; rintro e wv ⟨rfl, rfl⟩; have hs1 : True := trivial)
      | (go_at_call 47; refine (validParts_any _ _ Bb Q _ (hq.dr (Dr.n w n1)) hlq).mono ?_; rintro e wv ⟨rfl, n2, rfl⟩; rw [HQ.out])
      | (go_at_call 47; refine (validParts_any _ _ Ba P _ h hl).mono ?_; rintro e wv ⟨rfl, n1, rfl⟩; rw [HP.out]))
        have hz0 : w.heap.size = (w.drewN (n1 + n2)).heap.size := rfl
        refine (sconjugate_any _ _ Ba P _ (h.dr (Dr.n w (n1 + n2))) (by exact hBa) HP.out).mono ?_
        rintro e w1 ⟨a1, c1, rfl, ho1, hb1⟩
        have hB1 : Below w.heap.size w w1 := ((Dr.n w _).below _).trans hb1
        have HO1 := Lib.hid ho1
        clear ho1 hb1
        go_wp2_with fail
        refine (sconjugate_any _ _ w.heap.size Q _ ((hq.more hBb).below hB1) hB1.size HQ.out).mono ?_
        rintro e w2 ⟨a2, c2, rfl, ho2, hb2⟩
        have ho1 := HO1.out.below (hb2.mono HO1.out.le)
        have hB2 := hB1.trans (hb2.mono hB1.size)
        have HO1' := Lib.hid ho1
        have HO2 := Lib.hid ho2
        clear ho1 ho2
        go_wp2_with fail
        refine (smeet_any _ _ _ _ _ _ (conj P) (conj Q) _ HO1'.out.rd HO2.out.rd HO1'.out.le HO2.out.le (valid_conj HP.out) (valid_conj HQ.out)).mono ?_
        rintro e w3 ⟨a3, c3, rfl, ho3, hb3⟩
        have hB3 := hB2.trans (hb3.mono hB2.size)
        have HO3 := Lib.hid ho3
        clear ho3 HO1' HO2
        go_wp2_with fail
        refine (sconjugate_any _ _ _ (NP.mt (conj P) (conj Q)) _ HO3.out.rd HO3.out.le (valid_mt (valid_conj HP.out) (valid_conj HQ.out))).mono ?_
        rintro e w4 ⟨a4, c4, rfl, ho4, hb4⟩
        have hB4 := hB3.trans (hb4.mono hB3.size)
        have HO4 := Lib.hid (ho4.lower hB3.size)
        clear ho4
        go_wp2_with fail
        go_ret2
        exact ⟨a4, c4, rfl, HO4.out, hB4⟩
      · have HI : oneS' P Q = false := by unfold oneS'; rw [hvp, hvq]; simpa using hs
        have d1 : (sumL P != sumL Q) = true := by simpa using hs
        rw [jnF_no HI, HI]
        clear hvp hvq hs HI
        go_enter Try.func44, Try.ntmps44
        go_wp2_with (first
      | (go_at_call 67; have hsx := hs1; refine (sum_any _ _ Bb Q _ (hq.dr (Dr.n w (n1 + n2))) HFQ.out hlq).mono ?_; rintro e wv ⟨rfl, rfl⟩)
      | (go_at_call 67; refine (sum_any _ _ Ba P _ (h.dr (Dr.n w (n1 + n2))) HFP.out hl).mono ?_; rintro e wv ⟨rfl, rfl⟩; have hs1 : True := trivial)
      | (go_at_call 47; refine (validParts_any _ _ Bb Q _ (hq.dr (Dr.n w n1)) hlq).mono ?_; rintro e wv ⟨rfl, n2, rfl⟩; rw [HQ.out])
      | (go_at_call 47; refine (validParts_any _ _ Ba P _ h hl).mono ?_; rintro e wv ⟨rfl, n1, rfl⟩; rw [HP.out]))
        go_ret2
        exact ⟨none, 0, rfl, own_nilF _ _ _, (Dr.n w _).below _⟩
end Go.Proofs.Ytlgglbgdopmkpaa
