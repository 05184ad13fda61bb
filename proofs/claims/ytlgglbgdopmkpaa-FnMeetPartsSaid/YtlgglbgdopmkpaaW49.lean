/-
  Walks of the model: inside, dominance, meets, joins.
-/
import Derived.Test.YtlgglbgdopmkpaaW4
import Derived.Test.YtlgglbgdopmkpaaM28
namespace Go.Proofs.Ytlgglbgdopmkpaa
open Go.RowKit NP
set_option linter.unusedVariables false
set_option linter.unusedSimpArgs false
theorem ins_no {P Q : List Int} {k : Nat} (h : P.getD k 0 < Q.getD k 0) : ins P Q = false := by
  cases hh : ins P Q with
  | false => rfl
  | true => have := (ins_iff.1 hh).2.2 k; omega
theorem sumTo_bd {L : List Int} (hv : valid L = true) (k : Nat) : 0 ≤ sumTo L k ∧ sumTo L k ≤ 16 := by
  rw [sumTo_take]
  have := valid_bd (valid_take hv k)
  omega
theorem dom_no {P Q : List Int} {k : Nat} (hk : k ≤ 16) (h : sumTo P k < sumTo Q k) : dom P Q = false := by
  cases hh : dom P Q with
  | false => rfl
  | true => have := (dom_iff.1 hh).2.2.2 k hk; omega
theorem dom_yes {P Q : List Int} (hp : valid P = true) (hq : valid Q = true) {n : Nat} (h1 : P.length ≤ n) (h2 : Q.length ≤ n) (h : ∀ j, j ≤ n → sumTo Q j ≤ sumTo P j) : dom P Q = (sumL P == sumL Q) := by
  rw [Bool.eq_iff_iff, dom_iff, beq_iff_eq]
  constructor
  · rintro ⟨_, _, hs, _⟩; exact hs
  · intro hs
    refine ⟨hp, hq, hs, fun k _ => ?_⟩
    rcases Nat.lt_or_ge k n with hk | hk
    · exact h k (by omega)
    · rw [sumTo_all P k (by omega), sumTo_all Q k (by omega), hs]; exact Int.le_refl _
theorem mt_at {P Q : List Int} {n : Nat} (h1 : P.length ≤ n) (h2 : Q.length ≤ n) (hn : n ≤ 16) : tr (mi P Q) n = mt P Q := by
  unfold NP.mt
  refine (tr_more hn fun i hi => ?_).symm
  unfold mi mf
  simp only [sumTo]
  rw [getD_ge (by omega), getD_ge (by omega)]
  omega
def oneS' (P Q : List Int) : Bool := valid P && valid Q && (sumL P == sumL Q)
def mtF (P Q : List Int) : List Int := if oneS' P Q then mt P Q else []
def jnF (P Q : List Int) : List Int := if oneS' P Q then jn P Q else []
theorem oneS_out {P Q : List Int} (h : oneS' P Q = true) : valid P = true ∧ valid Q = true ∧ sumL P = sumL Q := by
  unfold oneS' at h
  simp only [Bool.and_eq_true, beq_iff_eq] at h
  exact ⟨h.1.1, h.1.2, h.2⟩
theorem mtF_yes {P Q : List Int} (h : oneS' P Q = true) : mtF P Q = mt P Q := by simp [mtF, h]
theorem mtF_no {P Q : List Int} (h : oneS' P Q = false) : mtF P Q = [] := by simp [mtF, h]
theorem jnF_yes {P Q : List Int} (h : oneS' P Q = true) : jnF P Q = jn P Q := by simp [jnF, h]
theorem jnF_no {P Q : List Int} (h : oneS' P Q = false) : jnF P Q = [] := by simp [jnF, h]
theorem mtF_len (P Q : List Int) : (mtF P Q).length ≤ 16 := by
  cases h : oneS' P Q with
  | true => rw [mtF_yes h]; obtain ⟨h1, h2, _⟩ := oneS_out h; exact (valid_bd (valid_mt h1 h2)).2.2.2
  | false => rw [mtF_no h]; simp
theorem jnF_len (P Q : List Int) : (jnF P Q).length ≤ 16 := by
  cases h : oneS' P Q with
  | true => rw [jnF_yes h]; obtain ⟨h1, h2, _⟩ := oneS_out h; exact (valid_bd (valid_jn h1 h2)).2.2.2
  | false => rw [jnF_no h]; simp

set_option maxHeartbeats 1000000 in
theorem sHasInside_any (a b : Option Addr) (ca cb Ba Bb : Nat) (P Q : List Int) (w : World) (h : Rd w Ba a (ints P)) (hq : Rd w Bb b (ints Q)) (hBa : Ba ≤ w.heap.size) (hBb : Bb ≤ w.heap.size) (hl : P.length ≤ 4611686018427387904) (hlq : Q.length ≤ 4611686018427387904) :
    Calls Try.prog 28 #[.slice a P.length ca, .slice b Q.length cb] w fun e w' => e = .returned (.bool (ins P Q)) ∧ Dr w w' := by
  cases hvp : valid P with
  | false =>
    have HP := Lib.hid hvp
    have HI : Hid (ins P Q = false) := Lib.hid (by unfold ins; rw [hvp]; rfl)
    clear hvp
    go_enter Try.func28, Try.ntmps28
    go_wp2_with (go_at_call 47; refine (validParts_any _ _ Ba P _ h hl).mono ?_; rintro e wv ⟨rfl, n1, rfl⟩; rw [HP.out])
    go_ret
    exact ⟨ret_bool HI.out.symm, Dr.n w n1⟩
  | true =>
    have HP := Lib.hid hvp
    cases hvq : valid Q with
    | false =>
      have HQ := Lib.hid hvq
      have HI : Hid (ins P Q = false) := Lib.hid (by unfold ins; rw [hvp, hvq]; rfl)
      clear hvp hvq
      go_enter Try.func28, Try.ntmps28
      go_wp2_with (first
      | (go_at_call 47; refine (validParts_any _ _ Bb Q _ (hq.dr (Dr.n w n1)) hlq).mono ?_; rintro e wv ⟨rfl, n2, rfl⟩; rw [HQ.out])
      | (go_at_call 47; refine (validParts_any _ _ Ba P _ h hl).mono ?_; rintro e wv ⟨rfl, n1, rfl⟩; rw [HP.out]))
      go_ret
      exact ⟨ret_bool HI.out.symm, Dr.n w _⟩
    | true =>
      have HQ := Lib.hid hvq
      have hpl := (valid_bd hvp).2.2.2
      have hql := (valid_bd hvq).2.2.2
      have HG := Lib.hid (getD_nn hvp)
      by_cases hlen : Q.length ≤ P.length
      · have d1 : decide ((P.length : Int) < (Q.length : Int)) = false := decide_eq_false (by omega)
        have d1' : decide (P.length < Q.length) = false := decide_eq_false (by omega)
        clear hvp hvq
        go_enter Try.func28, Try.ntmps28
        go_wp2_with (first
      | (go_at_call 47; refine (validParts_any _ _ Bb Q _ (hq.dr (Dr.n w n1)) hlq).mono ?_; rintro e wv ⟨rfl, n2, rfl⟩; rw [HQ.out])
      | (go_at_call 47; refine (validParts_any _ _ Ba P _ h hl).mono ?_; rintro e wv ⟨rfl, n1, rfl⟩; rw [HP.out]))
        go_loopw [5] (fun i wr => ∃ k : Nat, k ≤ Q.length ∧ i = .int .i64 k ∧ Dr w wr ∧ Hid (∀ j, j < k → Q.getD j 0 ≤ P.getD j 0)) (fun i _ => 20 - (intOf i).toNat)
        case atStart => exact ⟨0, Nat.zero_le _, rfl, Dr.n w _, Lib.hid fun j hj => by omega⟩
        case round =>
          obtain ⟨k, hk, rfl, hdr, HJ⟩ := hrel
          by_cases hlt : k < Q.length
          · have hkP : k < P.length := by omega
            obtain ⟨b1, o1, rfl, _, hc1⟩ := (h.dr hdr).at_ hkP
            obtain ⟨b2, o2, rfl, _, hc2⟩ := (hq.dr hdr).at_ hlt
            have hlt' : (k : Int) < (Q.length : Int) := by omega
            have hkP' : (k : Int) < (P.length : Int) := by omega
            have HX : Hid (P.getD k 0 = P[k]) := Lib.hid (getD_lt hkP)
            have HY : Hid (Q.getD k 0 = Q[k]) := Lib.hid (getD_lt hlt)
            generalize P[k] = x at *
            generalize Q[k] = y at *
            by_cases hxy : x < y
            · have d3 : decide (x < y) = true := decide_eq_true hxy
              have HI : Hid (ins P Q = false) := Lib.hid (ins_no (k := k) (by rw [HX.out, HY.out]; exact hxy))
              clear hxy
              go_wp2_with fail
              go_quiet (fail)
              go_wp2_with fail
              go_ret
              exact ⟨ret_bool HI.out.symm, hdr.drewN _⟩
            · have d3 : decide (x < y) = false := decide_eq_false hxy
              have hyx : y ≤ x := by omega
              clear hxy
              go_wp2_with fail
              go_quiet (fail)
              go_wp2_with fail
              go_roundw
              case rel => exact ⟨k + 1, by omega, by go_num, hdr.drewN _, Lib.hid fun j hj => by
                rcases Nat.lt_or_ge j k with h | h
                · exact HJ.out j h
                · obtain rfl : j = k := by omega
                  rw [HX.out, HY.out]; exact hyx⟩
              case measure => simp [intOf]; omega
          · obtain rfl : k = Q.length := by omega
            have HI : Hid (ins P Q = true) := Lib.hid (ins_iff.2 ⟨HP.out, HQ.out, fun i => by
              rcases Nat.lt_or_ge i Q.length with hi | hi
              · exact HJ.out i hi
              · rw [getD_ge hi]; exact (HG.out i).1⟩)
            go_wp2_with fail
            go_ret
            exact ⟨ret_bool HI.out.symm, hdr⟩
      · have d1 : decide ((P.length : Int) < (Q.length : Int)) = true := decide_eq_true (by omega)
        have d1' : decide (P.length < Q.length) = true := decide_eq_true (by omega)
        have HI : Hid (ins P Q = false) := Lib.hid (ins_no (k := P.length) (by rw [getD_ge (Nat.le_refl _)]; have := getD_pos hvq (show P.length < Q.length by omega); omega))
        clear hvp hvq
        go_enter Try.func28, Try.ntmps28
        go_wp2_with (first
      | (go_at_call 47; refine (validParts_any _ _ Bb Q _ (hq.dr (Dr.n w n1)) hlq).mono ?_; rintro e wv ⟨rfl, n2, rfl⟩; rw [HQ.out])
      | (go_at_call 47; refine (validParts_any _ _ Ba P _ h hl).mono ?_; rintro e wv ⟨rfl, n1, rfl⟩; rw [HP.out]))
        go_ret
        exact ⟨ret_bool HI.out.symm, Dr.n w _⟩

set_option maxHeartbeats 2000000 in
theorem sdominates_any (a b : Option Addr) (ca cb Ba Bb : Nat) (P Q : List Int) (w : World) (h : Rd w Ba a (ints P)) (hq : Rd w Bb b (ints Q)) (hBa : Ba ≤ w.heap.size) (hBb : Bb ≤ w.heap.size) (hvp : valid P = true) (hvq : valid Q = true) :
    Calls Try.prog 65 #[.slice a P.length ca, .slice b Q.length cb] w fun e w' => e = .returned (.bool (dom P Q)) ∧ w = w' := by
  have hpl := (valid_bd hvp).2.2.2
  have hql := (valid_bd hvq).2.2.2
  have HGP := Lib.hid (getD_nn hvp)
  have HGQ := Lib.hid (getD_nn hvq)
  have HBP := Lib.hid (sumTo_bd hvp)
  have HBQ := Lib.hid (sumTo_bd hvq)
  have HP := Lib.hid hvp
  have HQ := Lib.hid hvq
  clear hvp hvq
  go_enter Try.func65, Try.ntmps65
  go_wp2_with fail
  go_loop [5, 6, 7] (fun va vb vi => ∃ k : Nat, k ≤ 16 ∧ vi = .int .i64 k ∧ va = .int .i64 (sumTo P k) ∧ vb = .int .i64 (sumTo Q k) ∧ Hid (∀ j, j ≤ k → sumTo Q j ≤ sumTo P j)) (fun _ _ vi => 20 - (intOf vi).toNat)
  case atStart => exact ⟨0, Nat.zero_le _, rfl, rfl, rfl, Lib.hid fun j hj => by (obtain rfl : j = 0 := by omega); exact Int.le_refl _⟩
  case round =>
    obtain ⟨k, hk, rfl, rfl, rfl, HJ⟩ := hrel
    have hA := HBP.out k
    have hB := HBQ.out k
    by_cases h1 : k < P.length
    · by_cases h2 : k < Q.length
      · have hgo : True := trivial
        obtain ⟨b1, o1, rfl, _, hc1⟩ := h.at_ h1
        have hx := HGP.out k
        have hx2 := HBP.out (k + 1)
        rw [sumTo] at hx2
        rw [getD_lt h1] at hx hx2
        have HX : Hid (P.getD k 0 = P[k]) := Lib.hid (getD_lt h1)
        have d1 : decide ((k : Int) < (P.length : Int)) = true := decide_eq_true (by omega)
        have l1 : (k : Int) < (P.length : Int) := by omega
        obtain ⟨b2, o2, rfl, _, hc2⟩ := hq.at_ h2
        have hy := HGQ.out k
        have hy2 := HBQ.out (k + 1)
        rw [sumTo] at hy2
        rw [getD_lt h2] at hy hy2
        have HY : Hid (Q.getD k 0 = Q[k]) := Lib.hid (getD_lt h2)
        have d2 : decide ((k : Int) < (Q.length : Int)) = true := decide_eq_true (by omega)
        have l2 : (k : Int) < (Q.length : Int) := by omega
        obtain ⟨A, hAA⟩ : ∃ A, A = sumTo P k := ⟨_, rfl⟩
        rw [← hAA] at hA hx2 ⊢
        have HA : Hid (sumTo P k = A) := Lib.hid hAA.symm
        clear hAA
        obtain ⟨B, hBB⟩ : ∃ B, B = sumTo Q k := ⟨_, rfl⟩
        rw [← hBB] at hB hy2 ⊢
        have HB : Hid (sumTo Q k = B) := Lib.hid hBB.symm
        clear hBB
        generalize P[k] = x at *
        have hw1 : IntKind.i64.wrap (A + x) = A + x := IntWalk.i64_in _ (by omega)
        generalize Q[k] = y at *
        have hw2 : IntKind.i64.wrap (B + y) = B + y := IntWalk.i64_in _ (by omega)
        by_cases h3 : (A + x) < (B + y)
        · have d3 : decide ((A + x) < (B + y)) = true := decide_eq_true h3
          have HI : Hid (dom P Q = false) := Lib.hid (dom_no (k := k + 1) (by omega) (by rw [sumTo, sumTo, HX.out, HY.out, HA.out, HB.out]; omega))
          clear h3
          go_wp2_with fail
          go_ret
          exact ⟨ret_bool HI.out.symm, rfl⟩
        · have d3 : decide ((A + x) < (B + y)) = false := decide_eq_false h3
          have h4 : (B + y) ≤ (A + x) := by omega
          clear h3
          go_wp2_with fail
          go_round
          case rel => exact ⟨k + 1, by omega, by go_num, by rw [sumTo, HX.out, HA.out], by rw [sumTo, HY.out, HB.out], Lib.hid fun j hj => by
            rcases Nat.lt_or_ge j (k + 1) with h | h
            · exact HJ.out j (by omega)
            · obtain rfl : j = k + 1 := by omega
              rw [sumTo, sumTo, HX.out, HY.out, HA.out, HB.out]; omega⟩
          case measure => simp [intOf]; omega
      · have hgo : True := trivial
        obtain ⟨b1, o1, rfl, _, hc1⟩ := h.at_ h1
        have hx := HGP.out k
        have hx2 := HBP.out (k + 1)
        rw [sumTo] at hx2
        rw [getD_lt h1] at hx hx2
        have HX : Hid (P.getD k 0 = P[k]) := Lib.hid (getD_lt h1)
        have d1 : decide ((k : Int) < (P.length : Int)) = true := decide_eq_true (by omega)
        have l1 : (k : Int) < (P.length : Int) := by omega
        have HY : Hid (Q.getD k 0 = 0) := Lib.hid (getD_ge (by omega))
        have d2 : decide ((k : Int) < (Q.length : Int)) = false := decide_eq_false (by omega)
        have l2 : ¬ (k : Int) < (Q.length : Int) := by omega
        obtain ⟨A, hAA⟩ : ∃ A, A = sumTo P k := ⟨_, rfl⟩
        rw [← hAA] at hA hx2 ⊢
        have HA : Hid (sumTo P k = A) := Lib.hid hAA.symm
        clear hAA
        obtain ⟨B, hBB⟩ : ∃ B, B = sumTo Q k := ⟨_, rfl⟩
        rw [← hBB] at hB ⊢
        have HB : Hid (sumTo Q k = B) := Lib.hid hBB.symm
        clear hBB
        generalize P[k] = x at *
        have hw1 : IntKind.i64.wrap (A + x) = A + x := IntWalk.i64_in _ (by omega)
        by_cases h3 : (A + x) < B
        · have d3 : decide ((A + x) < B) = true := decide_eq_true h3
          have HI : Hid (dom P Q = false) := Lib.hid (dom_no (k := k + 1) (by omega) (by rw [sumTo, sumTo, HX.out, HY.out, HA.out, HB.out]; omega))
          clear h3
          go_wp2_with fail
          go_ret
          exact ⟨ret_bool HI.out.symm, rfl⟩
        · have d3 : decide ((A + x) < B) = false := decide_eq_false h3
          have h4 : B ≤ (A + x) := by omega
          clear h3
          go_wp2_with fail
          go_round
          case rel => exact ⟨k + 1, by omega, by go_num, by rw [sumTo, HX.out, HA.out], by rw [sumTo, HY.out, HB.out]; go_num, Lib.hid fun j hj => by
            rcases Nat.lt_or_ge j (k + 1) with h | h
            · exact HJ.out j (by omega)
            · obtain rfl : j = k + 1 := by omega
              rw [sumTo, sumTo, HX.out, HY.out, HA.out, HB.out]; omega⟩
          case measure => simp [intOf]; omega
    · by_cases h2 : k < Q.length
      · have hgo : True := trivial
        have HX : Hid (P.getD k 0 = 0) := Lib.hid (getD_ge (by omega))
        have d1 : decide ((k : Int) < (P.length : Int)) = false := decide_eq_false (by omega)
        have l1 : ¬ (k : Int) < (P.length : Int) := by omega
        obtain ⟨b2, o2, rfl, _, hc2⟩ := hq.at_ h2
        have hy := HGQ.out k
        have hy2 := HBQ.out (k + 1)
        rw [sumTo] at hy2
        rw [getD_lt h2] at hy hy2
        have HY : Hid (Q.getD k 0 = Q[k]) := Lib.hid (getD_lt h2)
        have d2 : decide ((k : Int) < (Q.length : Int)) = true := decide_eq_true (by omega)
        have l2 : (k : Int) < (Q.length : Int) := by omega
        obtain ⟨A, hAA⟩ : ∃ A, A = sumTo P k := ⟨_, rfl⟩
        rw [← hAA] at hA ⊢
        have HA : Hid (sumTo P k = A) := Lib.hid hAA.symm
        clear hAA
        obtain ⟨B, hBB⟩ : ∃ B, B = sumTo Q k := ⟨_, rfl⟩
        rw [← hBB] at hB hy2 ⊢
        have HB : Hid (sumTo Q k = B) := Lib.hid hBB.symm
        clear hBB
        generalize Q[k] = y at *
        have hw2 : IntKind.i64.wrap (B + y) = B + y := IntWalk.i64_in _ (by omega)
        by_cases h3 : A < (B + y)
        · have d3 : decide (A < (B + y)) = true := decide_eq_true h3
          have HI : Hid (dom P Q = false) := Lib.hid (dom_no (k := k + 1) (by omega) (by rw [sumTo, sumTo, HX.out, HY.out, HA.out, HB.out]; omega))
          clear h3
          go_wp2_with fail
          go_ret
          exact ⟨ret_bool HI.out.symm, rfl⟩
        · have d3 : decide (A < (B + y)) = false := decide_eq_false h3
          have h4 : (B + y) ≤ A := by omega
          clear h3
          go_wp2_with fail
          go_round
          case rel => exact ⟨k + 1, by omega, by go_num, by rw [sumTo, HX.out, HA.out]; go_num, by rw [sumTo, HY.out, HB.out], Lib.hid fun j hj => by
            rcases Nat.lt_or_ge j (k + 1) with h | h
            · exact HJ.out j (by omega)
            · obtain rfl : j = k + 1 := by omega
              rw [sumTo, sumTo, HX.out, HY.out, HA.out, HB.out]; omega⟩
          case measure => simp [intOf]; omega
      · have hgo : True := trivial
        have HX : Hid (P.getD k 0 = 0) := Lib.hid (getD_ge (by omega))
        have d1 : decide ((k : Int) < (P.length : Int)) = false := decide_eq_false (by omega)
        have l1 : ¬ (k : Int) < (P.length : Int) := by omega
        have HY : Hid (Q.getD k 0 = 0) := Lib.hid (getD_ge (by omega))
        have d2 : decide ((k : Int) < (Q.length : Int)) = false := decide_eq_false (by omega)
        have l2 : ¬ (k : Int) < (Q.length : Int) := by omega
        have HI : Hid (dom P Q = (sumL P == sumL Q)) := Lib.hid (dom_yes HP.out HQ.out (n := k) (by omega) (by omega) HJ.out)
        have e1 := sumTo_all P k (by omega)
        have e2 := sumTo_all Q k (by omega)
        rw [e1, e2]
        clear e1 e2
        go_wp2_with fail
        go_ret
        exact ⟨ret_bool HI.out.symm, rfl⟩

set_option maxHeartbeats 1000000 in
theorem sDominates_any (a b : Option Addr) (ca cb Ba Bb : Nat) (P Q : List Int) (w : World) (h : Rd w Ba a (ints P)) (hq : Rd w Bb b (ints Q)) (hBa : Ba ≤ w.heap.size) (hBb : Bb ≤ w.heap.size) (hl : P.length ≤ 4611686018427387904) (hlq : Q.length ≤ 4611686018427387904) :
    Calls Try.prog 37 #[.slice a P.length ca, .slice b Q.length cb] w fun e w' => e = .returned (.bool (dom P Q)) ∧ Dr w w' := by
  cases hvp : valid P with
  | false =>
    have HP := Lib.hid hvp
    have HI : Hid (dom P Q = false) := Lib.hid (by unfold dom; rw [hvp]; rfl)
    clear hvp
    go_enter Try.func37, Try.ntmps37
    go_wp2_with (go_at_call 47; refine (validParts_any _ _ Ba P _ h hl).mono ?_; rintro e wv ⟨rfl, n1, rfl⟩; rw [HP.out])
    go_ret
    exact ⟨ret_bool HI.out.symm, Dr.n w _⟩
  | true =>
    have HP := Lib.hid hvp
    cases hvq : valid Q with
    | false =>
      have HQ := Lib.hid hvq
      have HI : Hid (dom P Q = false) := Lib.hid (by unfold dom; rw [hvp, hvq]; rfl)
      clear hvp hvq
      go_enter Try.func37, Try.ntmps37
      go_wp2_with (first
      | (go_at_call 47; refine (validParts_any _ _ Bb Q _ (hq.dr (Dr.n w n1)) hlq).mono ?_; rintro e wv ⟨rfl, n2, rfl⟩; rw [HQ.out])
      | (go_at_call 47; refine (validParts_any _ _ Ba P _ h hl).mono ?_; rintro e wv ⟨rfl, n1, rfl⟩; rw [HP.out]))
      go_ret
      exact ⟨ret_bool HI.out.symm, Dr.n w _⟩
    | true =>
      have HQ := Lib.hid hvq
      clear hvp hvq
      go_enter Try.func37, Try.ntmps37
      go_wp2_with (first
      | (go_at_call 65; refine (sdominates_any _ _ _ _ Ba Bb P Q _ (h.dr (Dr.n w (n1 + n2))) (hq.dr (Dr.n w (n1 + n2))) (by exact hBa) (by exact hBb) HP.out HQ.out).mono ?_; rintro e wv ⟨rfl, rfl⟩)
      | (first
      | (go_at_call 47; refine (validParts_any _ _ Bb Q _ (hq.dr (Dr.n w n1)) hlq).mono ?_; rintro e wv ⟨rfl, n2, rfl⟩; rw [HQ.out])
      | (go_at_call 47; refine (validParts_any _ _ Ba P _ h hl).mono ?_; rintro e wv ⟨rfl, n1, rfl⟩; rw [HP.out])))
      go_ret
      exact ⟨rfl, Dr.n w _⟩
end Go.Proofs.Ytlgglbgdopmkpaa
