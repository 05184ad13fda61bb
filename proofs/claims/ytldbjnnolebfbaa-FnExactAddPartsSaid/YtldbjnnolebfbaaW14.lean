/-
  Walks: parts united and added, of the model.
-/
import Derived.Test.YtldbjnnolebfbaaW13
namespace Go.Proofs.Ytldbjnnolebfbaa
open Go.RowKit NP
set_option linter.unusedVariables false
theorem Rd.grownNew {w w' : World} {B : Nat} {a : Option Addr} {vs : List Value} (h : Rd w B a vs) (hb : Below w.heap.size w w') (hB : B ≤ w.heap.size) : Rd w' B a vs := h.below (hb.mono hB)

set_option maxHeartbeats 1000000 in
theorem sUniteParts_any    (a b : Option Addr) (ca cb Ba Bb : Nat) (P Q : List Int) (w : World) (h : Rd w Ba a (ints P)) (hq : Rd w Bb b (ints Q)) (hBa : Ba ≤ w.heap.size) (hBb : Bb ≤ w.heap.size) (hl : P.length ≤ 4611686018427387904) (hlq : Q.length ≤ 4611686018427387904) :
    Calls Try.prog 9 #[.slice a P.length ca, .slice b Q.length cb] w fun e w' => ∃ a' c', e = .returned (.tuple #[.slice a' (uniF P Q).length c', .bool (two P Q)]) ∧ Own w' w.heap.size w'.heap.size 3 (.slice a' (uniF P Q).length c') (ints (uniF P Q)) ∧ Below w.heap.size w w' := by
  obtain ⟨i0, hi, hz0, hz1, hz2⟩ := T_int'
  by_cases htt : valid P = true ∧ valid Q = true ∧ sumL P + sumL Q ≤ 16
  · have ht : two P Q = true := by unfold two; rw [htt.1, htt.2.1, decide_eq_true htt.2.2]; rfl
    obtain ⟨hvp, hvq, hsb⟩ := htt
    have HP := Lib.hid hvp
    have HQ := Lib.hid hvq
    have HFP := Lib.hid (valid_fits hvp)
    have HFQ := Lib.hid (valid_fits hvq)
    have hbp := valid_bd hvp
    have hbq := valid_bd hvq
    have hx1 : 0 ≤ sumL P ∧ sumL P ≤ 16 := ⟨hbp.1, hbp.2.1⟩
    have hx2 : 0 ≤ sumL Q ∧ sumL Q ≤ 16 := ⟨hbq.1, hbq.2.1⟩
    have hp16 := hbp.2.2.2
    have hq16 := hbq.2.2.2
    have hg : decide (16 < sumL P + sumL Q) = false := decide_eq_false (by omega)
    rw [uniF_yes ht, ht]
    clear hvp hvq ht hsb hbp hbq
    go_enter Try.func9, Try.ntmps9
    go_wp2_with (first
      | (go_at_call 27; rw [show P.length + Q.length = (P ++ Q).length from (by simp)]; refine (merge_any _ _ _ (P ++ Q) _ HO4.out.rd (Nat.le_refl _) (by simp; omega)).mono ?_; rintro e w5 ⟨a5, c5, rfl, ho5, hb5⟩)
      | (at_builtin; refine wpList_append_o _ rfl (.tmp 24) (.tmp 25) 22 rfl w.heap.size w3.heap.size 3 i0 (.int .i64 0) 8 Try.underlying22 hi hz0 hz1 hz2 rfl _ (ints P) rfl HO.out w.heap.size b Q.length cb (ints Q) rfl ((hq.more hBb).below hb3) (by simp) (ints_one Q) (by simp; unfold maxLen; omega) (by simp; omega) hb3.size ?_; intro v' w4 ho4 hg4 hat4; clear hat4; have hb4 : Below w.heap.size w w4 := hb3.grown hg4 hb3.size HO.out.base; have e4 : ints P ++ ints Q = ints (P ++ Q) := (by simp [ints]); rw [e4] at ho4; obtain ⟨a4, c4, rfl⟩ := ho4.form; have hl4 : (ints (P ++ Q)).length = P.length + Q.length := (by simp [ints]); rw [hl4] at ho4 ⊢; have HO4 := Lib.hid ho4; clear ho4 hg4 e4 hl4)
      | (at_builtin; refine wpList_append_o _ rfl (.tmp 22) (.tmp 23) 22 rfl w.heap.size (w.heap.size + 1) 3 i0 (.int .i64 0) 8 Try.underlying22 hi hz0 hz1 hz2 rfl _ [] rfl (Own.empty (w.drewN (n1 + n2)) 3) Ba a P.length ca (ints P) rfl ((h.dr (Dr.n w (n1 + n2))).alloc (by exact hBa) _) (by simp) (ints_one P) (by simp; unfold maxLen; omega) (by simp; omega) (by simp) ?_; intro v' w3 ho3 hg3 hat3; rw [List.nil_append] at ho3; clear hat3; have hb3 : Below w.heap.size w w3 := (((Dr.n w (n1 + n2)).below _).alloc (by simp) _).grown hg3 (by simp) (fun x hx => by injection hx with hx; subst hx; exact Nat.le_refl _); obtain ⟨a3, c3, rfl⟩ := ho3.form; have hl1 : (ints P).length = P.length := (by simp); rw [hl1] at ho3 ⊢; have HO := Lib.hid ho3; clear ho3 hg3 hl1)
      | (go_at_call 26; have hsx := hs1; refine (sum_any _ _ Bb Q _ (hq.dr (Dr.n w (n1 + n2))) HFQ.out hlq).mono ?_; rintro e wv ⟨rfl, rfl⟩)
      | (go_at_call 26; refine (sum_any _ _ Ba P _ (h.dr (Dr.n w (n1 + n2))) HFP.out hl).mono ?_; rintro e wv ⟨rfl, rfl⟩; have hs1 : True := trivial)
      | (go_at_call 25; refine (validParts_any _ _ Bb Q _ (hq.dr (Dr.n w n1)) hlq).mono ?_; rintro e wv ⟨rfl, n2, rfl⟩; rw [HQ.out])
      | (go_at_call 25; refine (validParts_any _ _ Ba P _ h hl).mono ?_; rintro e wv ⟨rfl, n1, rfl⟩; rw [HP.out]))
    go_ret2
    exact ⟨a5, c5, rfl, ho5.lower hb4.size, hb4.trans (hb5.mono hb4.size)⟩
  · have ht : two P Q = false := by
      cases h2 : two P Q with
      | false => rfl
      | true => exact absurd (two_out h2) htt
    rw [uniF_no ht, ht]
    cases hvp : valid P with
    | false =>
      have HP := Lib.hid hvp
      clear hvp ht htt
      go_enter Try.func9, Try.ntmps9
      go_wp2_with (first
        | (go_at_call 25; refine (validParts_any _ _ Ba P _ h hl).mono ?_; rintro e wv ⟨rfl, n1, rfl⟩; rw [HP.out]))
      go_ret2
      exact ⟨none, 0, rfl, own_nil0 _ _ _, (Dr.n w _).below _⟩
    | true =>
      have HP := Lib.hid hvp
      cases hvq : valid Q with
      | false =>
        have HQ := Lib.hid hvq
        clear hvp hvq ht htt
        go_enter Try.func9, Try.ntmps9
        go_wp2_with (first
          | (go_at_call 25; refine (validParts_any _ _ Bb Q _ (hq.dr (Dr.n w n1)) hlq).mono ?_; rintro e wv ⟨rfl, n2, rfl⟩; rw [HQ.out])
          | (go_at_call 25; refine (validParts_any _ _ Ba P _ h hl).mono ?_; rintro e wv ⟨rfl, n1, rfl⟩; rw [HP.out]))
        go_ret2
        exact ⟨none, 0, rfl, own_nil0 _ _ _, (Dr.n w (n1 + n2)).below _⟩
      | true =>
        have HQ := Lib.hid hvq
        have HFP := Lib.hid (valid_fits hvp)
        have HFQ := Lib.hid (valid_fits hvq)
        have hsb : ¬ sumL P + sumL Q ≤ 16 := fun hc => htt ⟨hvp, hvq, hc⟩
        have hbp := valid_bd hvp
        have hbq := valid_bd hvq
        have hx1 : 0 ≤ sumL P ∧ sumL P ≤ 16 := ⟨hbp.1, hbp.2.1⟩
        have hx2 : 0 ≤ sumL Q ∧ sumL Q ≤ 16 := ⟨hbq.1, hbq.2.1⟩
        have hg : decide (16 < sumL P + sumL Q) = true := decide_eq_true (by omega)
        clear hvp hvq ht htt hbp hbq hsb
        go_enter Try.func9, Try.ntmps9
        go_wp2_with (first
          | (go_at_call 26; have hsx := hs1; refine (sum_any _ _ Bb Q _ (hq.dr (Dr.n w (n1 + n2))) HFQ.out hlq).mono ?_; rintro e wv ⟨rfl, rfl⟩)
          | (go_at_call 26; refine (sum_any _ _ Ba P _ (h.dr (Dr.n w (n1 + n2))) HFP.out hl).mono ?_; rintro e wv ⟨rfl, rfl⟩; have hs1 : True := trivial)
          | (go_at_call 25; refine (validParts_any _ _ Bb Q _ (hq.dr (Dr.n w n1)) hlq).mono ?_; rintro e wv ⟨rfl, n2, rfl⟩; rw [HQ.out])
          | (go_at_call 25; refine (validParts_any _ _ Ba P _ h hl).mono ?_; rintro e wv ⟨rfl, n1, rfl⟩; rw [HP.out]))
        go_ret2
        exact ⟨none, 0, rfl, own_nil0 _ _ _, (Dr.n w (n1 + n2)).below _⟩

set_option maxHeartbeats 2000000 in
theorem sAddParts_any    (a b : Option Addr) (ca cb Ba Bb : Nat) (P Q : List Int) (w : World) (h : Rd w Ba a (ints P)) (hq : Rd w Bb b (ints Q)) (hBa : Ba ≤ w.heap.size) (hBb : Bb ≤ w.heap.size) (hl : P.length ≤ 4611686018427387904) (hlq : Q.length ≤ 4611686018427387904) :
    Calls Try.prog 19 #[.slice a P.length ca, .slice b Q.length cb] w fun e w' => ∃ a' c', e = .returned (.tuple #[.slice a' (adpF P Q).length c', .bool (two P Q)]) ∧ Own w' w.heap.size w'.heap.size 3 (.slice a' (adpF P Q).length c') (ints (adpF P Q)) ∧ Below w.heap.size w w' := by
  obtain ⟨i0, hi, hz0, hz1, hz2⟩ := T_int'
  by_cases htt : valid P = true ∧ valid Q = true ∧ sumL P + sumL Q ≤ 16
  · have ht : two P Q = true := by unfold two; rw [htt.1, htt.2.1, decide_eq_true htt.2.2]; rfl
    obtain ⟨hvp, hvq, hsb⟩ := htt
    have HP := Lib.hid hvp
    have HQ := Lib.hid hvq
    have HFP := Lib.hid (valid_fits hvp)
    have HFQ := Lib.hid (valid_fits hvq)
    have hbp := valid_bd hvp
    have hbq := valid_bd hvq
    have hx1 : 0 ≤ sumL P ∧ sumL P ≤ 16 := ⟨hbp.1, hbp.2.1⟩
    have hx2 : 0 ≤ sumL Q ∧ sumL Q ≤ 16 := ⟨hbq.1, hbq.2.1⟩
    have hp16 := hbp.2.2.2
    have hq16 := hbq.2.2.2
    have hg : decide (16 < sumL P + sumL Q) = false := decide_eq_false (by omega)
    have HNP := Lib.hid (getD_nn hvp)
    have HNQ := Lib.hid (getD_nn hvq)
    rw [adpF_yes ht, ht]
    clear hvp hvq ht hsb hbp hbq
    go_enter Try.func19, Try.ntmps19
    go_wp2_with (first
      | (go_at_call 26; have hsx := hs1; refine (sum_any _ _ Bb Q _ (hq.dr (Dr.n w (n1 + n2))) HFQ.out hlq).mono ?_; rintro e wv ⟨rfl, rfl⟩)
      | (go_at_call 26; refine (sum_any _ _ Ba P _ (h.dr (Dr.n w (n1 + n2))) HFP.out hl).mono ?_; rintro e wv ⟨rfl, rfl⟩; have hs1 : True := trivial)
      | (go_at_call 25; refine (validParts_any _ _ Bb Q _ (hq.dr (Dr.n w n1)) hlq).mono ?_; rintro e wv ⟨rfl, n2, rfl⟩; rw [HQ.out])
      | (go_at_call 25; refine (validParts_any _ _ Ba P _ h hl).mono ?_; rintro e wv ⟨rfl, n1, rfl⟩; rw [HP.out]))
    go_loopw [6, 7, 8] (fun v vi vn wr => ∃ k : Nat, k ≤ max P.length Q.length ∧ vi = .int .i64 (k : Int) ∧ Below w.heap.size w wr ∧ Own wr w.heap.size wr.heap.size 3 v (ints ((adp P Q).take k))) (fun _ vi _ _ => 20 - (intOf vi).toNat)
    case atStart => exact ⟨0, Nat.zero_le _, rfl, ((Dr.n w (n1 + n2)).below _).alloc (by simp) _, (Own.empty (w.drewN (n1 + n2)) 3).more⟩
    case round =>
      obtain ⟨k, hk, rfl, hbel, hown⟩ := hrel
      have hnp := HNP.out k
      have hnq := HNQ.out k
      by_cases hlt : k < max P.length Q.length
      · have hS : Hid ((adp P Q).take (k + 1) = (adp P Q).take k ++ [P.getD k 0 + Q.getD k 0]) := Lib.hid (by
          have hk2 : k < (adp P Q).length := by rw [adp_len]; exact hlt
          rw [List.take_succ_eq_append_getElem hk2, ← getD_lt hk2, adp_getD])
        obtain ⟨vs, hvs⟩ : ∃ vs, vs = ints ((adp P Q).take k) := ⟨_, rfl⟩
        have hlv : vs.length ≤ 16 := by rw [hvs]; simp; omega
        rw [← hvs] at hown
        have HVS := Lib.hid hvs
        have HO := Lib.hid hown
        clear hvs hown
        by_cases hkp : k < P.length
        · obtain ⟨b1, o1, rfl, _, hc1⟩ := ((h.more hBa).below hbel).at_ hkp
          rw [getD_lt hkp] at hnp hS
          have hwp : IntKind.i64.wrap (0 + P[k]) = P[k] := by rw [Int.zero_add]; exact IntWalk.i64_in _ (by omega)
          have d1 : decide ((k : Int) < (P.length : Int)) = true := decide_eq_true (by omega)
          by_cases hkq : k < Q.length
          · obtain ⟨b2, o2, rfl, _, hc2⟩ := ((hq.more hBb).below hbel).at_ hkq
            rw [getD_lt hkq] at hnq hS
            have d2 : decide ((k : Int) < (Q.length : Int)) = true := decide_eq_true (by omega)
            have hwq : IntKind.i64.wrap (P[k] + Q[k]) = P[k] + Q[k] := IntWalk.i64_in _ (by omega)
            generalize P[k] = x at *
            generalize Q[k] = y at *
            go_wp2_with (at_builtin; refine wpList_append_o _ rfl (.tmp 58) (.tmp 60) 22 rfl w.heap.size wr.heap.size 3 i0 (.int .i64 0) 8 Try.underlying22 hi hz0 hz1 hz2 rfl _ vs rfl (HO.out.alloc _) (wr.heap.size + 1) (some ⟨wr.heap.size, 0, none⟩) 1 1 [.int .i64 (x + y)] rfl (Rd.one _ _ _) rfl (by simp; rfl) (by unfold maxLen; omega) (by omega) (by have := hbel.size; simp; omega) ?_; intro v' w1 ho1 hg1 hat1)
            go_roundw
            case rel =>
              refine ⟨k + 1, by omega, by go_num, below_push hbel (Nat.le_refl _) hg1 HO.out.base, ?_⟩
              rw [HVS.out] at ho1
              rw [hS.out]
              simpa [ints] using ho1
            case measure => simp [intOf]; omega
          · rw [getD_ge (by omega)] at hnq hS
            have d2 : decide ((k : Int) < (Q.length : Int)) = false := decide_eq_false (by omega)
            generalize P[k] = x at *
            go_wp2_with (at_builtin; refine wpList_append_o _ rfl (.tmp 58) (.tmp 60) 22 rfl w.heap.size wr.heap.size 3 i0 (.int .i64 0) 8 Try.underlying22 hi hz0 hz1 hz2 rfl _ vs rfl (HO.out.alloc _) (wr.heap.size + 1) (some ⟨wr.heap.size, 0, none⟩) 1 1 [.int .i64 x] rfl (Rd.one _ _ _) rfl (by simp; rfl) (by unfold maxLen; omega) (by omega) (by have := hbel.size; simp; omega) ?_; intro v' w1 ho1 hg1 hat1)
            go_roundw
            case rel =>
              refine ⟨k + 1, by omega, by go_num, below_push hbel (Nat.le_refl _) hg1 HO.out.base, ?_⟩
              rw [HVS.out] at ho1
              rw [hS.out]
              simpa [ints] using ho1
            case measure => simp [intOf]; omega
        · rw [getD_ge (by omega)] at hnp hS
          have hkq : k < Q.length := by omega
          have d1 : decide ((k : Int) < (P.length : Int)) = false := decide_eq_false (by omega)
          obtain ⟨b2, o2, rfl, _, hc2⟩ := ((hq.more hBb).below hbel).at_ hkq
          rw [getD_lt hkq] at hnq hS
          have d2 : decide ((k : Int) < (Q.length : Int)) = true := decide_eq_true (by omega)
          have hwq : IntKind.i64.wrap (0 + Q[k]) = Q[k] := by rw [Int.zero_add]; exact IntWalk.i64_in _ (by omega)
          generalize Q[k] = y at *
          go_wp2_with (at_builtin; refine wpList_append_o _ rfl (.tmp 58) (.tmp 60) 22 rfl w.heap.size wr.heap.size 3 i0 (.int .i64 0) 8 Try.underlying22 hi hz0 hz1 hz2 rfl _ vs rfl (HO.out.alloc _) (wr.heap.size + 1) (some ⟨wr.heap.size, 0, none⟩) 1 1 [.int .i64 y] rfl (Rd.one _ _ _) rfl (by simp; rfl) (by unfold maxLen; omega) (by omega) (by have := hbel.size; simp; omega) ?_; intro v' w1 ho1 hg1 hat1)
          go_roundw
          case rel =>
            refine ⟨k + 1, by omega, by go_num, below_push hbel (Nat.le_refl _) hg1 HO.out.base, ?_⟩
            rw [HVS.out] at ho1
            rw [hS.out]
            simpa [ints] using ho1
          case measure => simp [intOf]; omega
      · obtain rfl : k = max P.length Q.length := by omega
        have d1 : decide (((max P.length Q.length : Nat) : Int) < (P.length : Int)) = false := decide_eq_false (by omega)
        have d2 : decide (((max P.length Q.length : Nat) : Int) < (Q.length : Int)) = false := decide_eq_false (by omega)
        rw [List.take_of_length_le (by rw [adp_len]; exact Nat.le_refl _)] at hown
        obtain ⟨a', c', rfl⟩ := hown.form
        have hl4 : (ints (adp P Q)).length = (adp P Q).length := by simp
        rw [hl4] at hown ⊢
        have HO := Lib.hid hown
        clear hown hl4 hlt hk
        have hkP : P.length ≤ max P.length Q.length := Nat.le_max_left _ _
        have hkQ : Q.length ≤ max P.length Q.length := Nat.le_max_right _ _
        clear d1 d2
        generalize max P.length Q.length = kk at *
        have d1 : decide ((kk : Int) < (P.length : Int)) = false := decide_eq_false (by omega)
        have d2 : decide ((kk : Int) < (Q.length : Int)) = false := decide_eq_false (by omega)
        go_wp2
        go_ret2
        exact ⟨a', c', rfl, HO.out, hbel⟩
  · have ht : two P Q = false := by
      cases h2 : two P Q with
      | false => rfl
      | true => exact absurd (two_out h2) htt
    rw [adpF_no ht, ht]
    cases hvp : valid P with
    | false =>
      have HP := Lib.hid hvp
      clear hvp ht htt
      go_enter Try.func19, Try.ntmps19
      go_wp2_with (first
        | (go_at_call 25; refine (validParts_any _ _ Ba P _ h hl).mono ?_; rintro e wv ⟨rfl, n1, rfl⟩; rw [HP.out]))
      go_ret2
      exact ⟨none, 0, rfl, own_nil0 _ _ _, (Dr.n w _).below _⟩
    | true =>
      have HP := Lib.hid hvp
      cases hvq : valid Q with
      | false =>
        have HQ := Lib.hid hvq
        clear hvp hvq ht htt
        go_enter Try.func19, Try.ntmps19
        go_wp2_with (first
          | (go_at_call 25; refine (validParts_any _ _ Bb Q _ (hq.dr (Dr.n w n1)) hlq).mono ?_; rintro e wv ⟨rfl, n2, rfl⟩; rw [HQ.out])
          | (go_at_call 25; refine (validParts_any _ _ Ba P _ h hl).mono ?_; rintro e wv ⟨rfl, n1, rfl⟩; rw [HP.out]))
        go_ret2
        exact ⟨none, 0, rfl, own_nil0 _ _ _, (Dr.n w (n1 + n2)).below _⟩
      | true =>
        have HQ := Lib.hid hvq
        have HFP := Lib.hid (valid_fits hvp)
        have HFQ := Lib.hid (valid_fits hvq)
        have hsb : ¬ sumL P + sumL Q ≤ 16 := fun hc => htt ⟨hvp, hvq, hc⟩
        have hbp := valid_bd hvp
        have hbq := valid_bd hvq
        have hx1 : 0 ≤ sumL P ∧ sumL P ≤ 16 := ⟨hbp.1, hbp.2.1⟩
        have hx2 : 0 ≤ sumL Q ∧ sumL Q ≤ 16 := ⟨hbq.1, hbq.2.1⟩
        have hg : decide (16 < sumL P + sumL Q) = true := decide_eq_true (by omega)
        clear hvp hvq ht htt hbp hbq hsb
        go_enter Try.func19, Try.ntmps19
        go_wp2_with (first
          | (go_at_call 26; have hsx := hs1; refine (sum_any _ _ Bb Q _ (hq.dr (Dr.n w (n1 + n2))) HFQ.out hlq).mono ?_; rintro e wv ⟨rfl, rfl⟩)
          | (go_at_call 26; refine (sum_any _ _ Ba P _ (h.dr (Dr.n w (n1 + n2))) HFP.out hl).mono ?_; rintro e wv ⟨rfl, rfl⟩; have hs1 : True := trivial)
          | (go_at_call 25; refine (validParts_any _ _ Bb Q _ (hq.dr (Dr.n w n1)) hlq).mono ?_; rintro e wv ⟨rfl, n2, rfl⟩; rw [HQ.out])
          | (go_at_call 25; refine (validParts_any _ _ Ba P _ h hl).mono ?_; rintro e wv ⟨rfl, n1, rfl⟩; rw [HP.out]))
        go_ret2
        exact ⟨none, 0, rfl, own_nil0 _ _ _, (Dr.n w (n1 + n2)).below _⟩
end Go.Proofs.Ytldbjnnolebfbaa
