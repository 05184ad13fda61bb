/-
  Walks of the model: kinds of parts; stairs.
-/
import Derived.Test.YtfcmfjhlmjnjiaaW32
import Derived.Test.YtfcmfjhlmjnjiaaW8
namespace Go.Proofs.Ytfcmfjhlmjnjiaa
open Go.RowKit NP
set_option linter.unusedVariables false
set_option linter.unusedSimpArgs false

set_option maxHeartbeats 1000000 in
theorem gaps_any (a : Option Addr) (c B : Nat) (L : List Int) (d : Int) (hd : 0 ≤ d ∧ d ≤ 100) (hv : valid L = true) (w : World) (h : Rd w B a (ints L)) :
    Calls Try.prog 54 #[.slice a L.length c, .int .i64 d] w fun e w' => e = .returned (.bool (kFall d d L)) ∧ ∃ n, w' = w.drewN n := by
  have hl16 := (valid_bd hv).2.2.2
  have HNN := Lib.hid (getD_nn hv)
  clear hv
  go_enter Try.func54, Try.ntmps54
  go_wp2
  go_loopw [5] (fun vi wr => ∃ k : Nat, k ≤ L.length - 1 ∧ vi = .int .i64 k ∧ Dr w wr ∧ Hid (∀ j, j < k → (fun j => decide ((if L.getD j 0 % 3 = 0 then d else d) ≤ L.getD j 0 - L.getD (j + 1) 0)) j = true)) (fun vi _ => L.length - (intOf vi).toNat)
  case atStart => exact ⟨0, Nat.zero_le _, rfl, Dr.refl _, Lib.hid fun j hj => by omega⟩
  case round =>
    obtain ⟨k, hk, rfl, hdr, HP⟩ := hrel
    by_cases hlt : k < L.length - 1
    · have hlt' : (k : Int) + 1 < (L.length : Int) := by omega
      have hR := h.dr hdr
      have hk0 : k < L.length := by omega
      have hk1 : k + 1 < L.length := by omega
      obtain ⟨b, o, rfl, _, hc⟩ := hR.at_ hk0
      obtain ⟨b', o', e', -, hc'⟩ := hR.at_ hk1
      injection e' with e'; injection e' with e2 e3; subst e2 e3
      have hx := HNN.out k
      have hy := HNN.out (k + 1)
      have hg : L.getD k 0 = L[k] := getD_lt hk0
      have hg' : L.getD (k + 1) 0 = L[k + 1] := getD_lt hk1
      rw [hg] at hx
      rw [hg'] at hy
      have HG := Lib.hid hg
      have HG' := Lib.hid hg'
      have HT : Hid (∀ x : Int, (if x % 3 = 0 then d else d) = d) := Lib.hid fun x => by split <;> rfl
      clear hg hg'
      generalize L[k] = x at hc hx HG
      generalize L[k + 1] = y at hc' hy HG'
      by_cases e2 : x - y < d
      · have HF : Hid (kFall d d L = false) := Lib.hid (allTo_no hlt (by rw [HG.out, HG'.out, HT.out]; simpa using e2))
        go_wp2_with fail
        go_quiet (fail)
        go_wp2
        go_ret
        exact ⟨ret_bool HF.out.symm, hdr.trans (Dr.n _ _)⟩
      · have e3 : d ≤ x - y := by omega
        clear e2
        go_wp2_with fail
        go_quiet (fail)
        go_wp2
        go_roundw
        case rel => exact ⟨k + 1, by omega, by go_num, hdr.drewN _, Lib.hid (upto HP.out (by show decide (_ ≤ _) = true; rw [HG.out, HG'.out, HT.out]; simpa using e3))⟩
        case measure => simp [intOf]; omega
    · have hge : ¬ (k : Int) + 1 < (L.length : Int) := by omega
      obtain rfl : k = L.length - 1 := by omega
      have HF : Hid (kFall d d L = true) := Lib.hid (allTo_yes HP.out)
      clear hlt
      go_wp2
      go_ret
      exact ⟨ret_bool HF.out.symm, hdr⟩

set_option maxHeartbeats 1000000 in
theorem same_any (a b : Option Addr) (ca cb Ba Bb : Nat) (L M : List Int) (hl : L.length ≤ 1000) (w : World) (h : Rd w Ba a (ints L)) (hm : Rd w Bb b (ints M)) (hml : M.length ≤ 1000) :
    Calls Try.prog 55 #[.slice a L.length ca, .slice b M.length cb] w fun e w' => e = .returned (.bool (decide (L = M))) ∧ ∃ n, w' = w.drewN n := by
  by_cases hlen : L.length = M.length
  · have b0 : ((L.length : Int) != (M.length : Int)) = false := by simp [hlen]
    go_enter Try.func55, Try.ntmps55
    go_wp2_with fail
    clear b0
    go_loopw [5] (fun vi wr => ∃ k : Nat, k ≤ L.length ∧ vi = .int .i64 k ∧ Dr w wr ∧ Hid (∀ j, j < k → L.getD j 0 = M.getD j 0)) (fun vi _ => L.length - (intOf vi).toNat)
    case atStart => exact ⟨0, Nat.zero_le _, rfl, Dr.refl _, Lib.hid fun j hj => by omega⟩
    case round =>
      obtain ⟨k, hk, rfl, hdr, HP⟩ := hrel
      by_cases hlt : k < L.length
      · have hlt' : (k : Int) < (L.length : Int) := by omega
        have hltm : k < M.length := by omega
        have hlt'm : (k : Int) < (M.length : Int) := by omega
        obtain ⟨b1, o1, rfl, _, hc⟩ := (h.dr hdr).at_ hlt
        obtain ⟨b2, o2, rfl, _, hc'⟩ := (hm.dr hdr).at_ hltm
        have HG : Hid (L.getD k 0 = L[k]) := Lib.hid (getD_lt hlt)
        have HG' : Hid (M.getD k 0 = M[k]) := Lib.hid (getD_lt hltm)
        by_cases e1 : L[k] = M[k]
        · have HE : Hid (L.getD k 0 = M.getD k 0) := Lib.hid (by rw [HG.out, HG'.out, e1])
          have b1 : (L[k] != M[k]) = false := by simp [e1]
          clear e1 hlen
          generalize L[k] = x at hc HG b1
          generalize M[k] = y at hc' HG' b1
          go_wp2_with fail
          go_quiet (fail)
          go_wp2
          go_roundw
          case rel => exact ⟨k + 1, by omega, by go_num, hdr.drewN _, Lib.hid fun j hj => by
            rcases Nat.lt_or_ge j k with h1 | h1
            · exact HP.out j h1
            · obtain rfl : j = k := by omega
              exact HE.out⟩
          case measure => simp [intOf]; omega
        · have HF : Hid (decide (L = M) = false) := Lib.hid (decide_eq_false fun hc => e1 (by subst hc; rfl))
          have b1 : (L[k] != M[k]) = true := by simpa using e1
          clear e1 hlen
          generalize L[k] = x at hc HG b1
          generalize M[k] = y at hc' HG' b1
          go_wp2_with fail
          go_quiet (fail)
          go_wp2
          go_ret
          exact ⟨ret_bool HF.out.symm, hdr.trans (Dr.n _ _)⟩
      · obtain rfl : k = L.length := by omega
        have HF : Hid (decide (L = M) = true) := Lib.hid (decide_eq_true (List.ext_getElem hlen fun j h1 h2 => by
          have := HP.out j h1
          rwa [getD_lt h1, getD_lt h2] at this))
        clear hlen
        go_wp2
        go_ret
        exact ⟨ret_bool HF.out.symm, hdr⟩
  · have b0 : ((L.length : Int) != (M.length : Int)) = true := by simp; omega
    have HF : Hid (decide (L = M) = false) := Lib.hid (decide_eq_false fun hc => hlen (by rw [hc]))
    clear hlen
    go_enter Try.func55, Try.ntmps55
    go_wp2_with fail
    go_ret
    exact ⟨ret_bool HF.out.symm, 0, rfl⟩

/-- whether all leave one of some remainders -/
def remIn (m : Int) (R : List Int) (L : List Int) : Bool := allTo (fun j => hasI R (L.getD j 0 % m)) L.length
set_option maxHeartbeats 1000000 in
theorem allRemain_any (a b : Option Addr) (c cb Bb B : Nat) (L R : List Int) (m : Int) (hm : 1 ≤ m ∧ m ≤ 100) (hv : valid L = true) (w : World) (h : Rd w B a (ints L)) (hr : Rd w Bb b (ints R)) (hrl : R.length ≤ 1000) :
    Calls Try.prog 53 #[.slice a L.length c, .int .i64 m, .slice b R.length cb] w fun e w' => e = .returned (.bool (remIn m R L)) ∧ w = w' := by
  have hl16 := (valid_bd hv).2.2.2
  have HNN := Lib.hid (getD_nn hv)
  clear hv
  go_enter Try.func53, Try.ntmps53
  go_wp2
  go_loop [7] (fun vi => ∃ k : Nat, k ≤ L.length ∧ vi = .int .i64 k ∧ Hid (∀ j, j < k → (fun j => hasI R (L.getD j 0 % m)) j = true)) (fun vi => L.length - (intOf vi).toNat)
  case atStart => exact ⟨0, Nat.zero_le _, rfl, Lib.hid fun j hj => by omega⟩
  case round =>
    obtain ⟨k, hk, rfl, HP⟩ := hrel
    by_cases hlt : k < L.length
    · have hlt' : (k : Int) < (L.length : Int) := by omega
      obtain ⟨b1, o1, rfl, _, hc⟩ := h.at_ hlt
      have hx := HNN.out k
      have hg : L.getD k 0 = L[k] := getD_lt hlt
      rw [hg] at hx
      have HG := Lib.hid hg
      clear hg
      generalize L[k] = x at hc hx HG
      obtain ⟨q, hq⟩ : ∃ q, x % m = q := ⟨_, rfl⟩
      have hq0 : x.tmod m = q := by rw [Int.tmod_eq_emod_of_nonneg hx.1]; exact hq
      have HQ := Lib.hid hq
      cases hh : hasI R q with
      | true =>
        have HH := Lib.hid hh
        clear hh
        go_wp2_with (go_at_call 58; refine (hasInt_any _ _ Bb R q _ hr (by omega)).mono ?_; rintro e w' ⟨rfl, rfl⟩; rw [HH.out])
        go_round
        case rel => exact ⟨k + 1, by omega, by go_num, Lib.hid (upto HP.out (by show hasI R _ = true; rw [HG.out, HQ.out, HH.out]))⟩
        case measure => simp [intOf]; omega
      | false =>
        have HH := Lib.hid hh
        have HF : Hid (remIn m R L = false) := Lib.hid (allTo_no hlt (by rw [HG.out, HQ.out, hh]))
        clear hh
        go_wp2_with (go_at_call 58; refine (hasInt_any _ _ Bb R q _ hr (by omega)).mono ?_; rintro e w' ⟨rfl, rfl⟩; rw [HH.out])
        go_ret
        exact ⟨ret_bool HF.out.symm, rfl⟩
    · obtain rfl : k = L.length := by omega
      have HF : Hid (remIn m R L = true) := Lib.hid (allTo_yes HP.out)
      go_wp2
      go_ret
      exact ⟨ret_bool HF.out.symm, rfl⟩


end Go.Proofs.Ytfcmfjhlmjnjiaa
