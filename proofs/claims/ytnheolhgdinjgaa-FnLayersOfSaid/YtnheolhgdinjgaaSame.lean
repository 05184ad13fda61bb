/-
  Walks of the model: two lists the same.
-/
import Derived.Test.YtnheolhgdinjgaaW1
import Derived.Test.YtnheolhgdinjgaaW8
import Derived.Test.YtnheolhgdinjgaaM28
import Derived.Deep.QuietTactic
import Derived.BigQuiet
namespace Go.Proofs.Ytnheolhgdinjgaa
open Go.RowKit NP
set_option maxRecDepth 8000
set_option linter.unusedVariables false
set_option linter.unusedSimpArgs false
set_option maxHeartbeats 1000000 in
theorem sameL_any (a b : Option Addr) (ca cb Ba Bb : Nat) (L M : List Int) (hl : L.length ≤ 1000) (w : World) (h : Rd w Ba a (ints L)) (hm : Rd w Bb b (ints M)) (hml : M.length ≤ 1000) :
    Calls Try.prog 52 #[.slice a L.length ca, .slice b M.length cb] w fun e w' => e = .returned (.bool (decide (L = M))) ∧ ∃ n, w' = w.drewN n := by
  by_cases hlen : L.length = M.length
  · have b0 : ((L.length : Int) != (M.length : Int)) = false := by simp [hlen]
    go_enter Try.func52, Try.ntmps52
    go_wp2_with fail
    clear b0
    go_loopw [5] (fun vi wr => ∃ k : Nat, k ≤ L.length ∧ vi = .int .i64 k ∧ Dr w wr ∧ Hid (∀ j, j < k → L.getD j 0 = M.getD j 0)) (fun vi _ => L.length - (intOf vi).toNat)
    case atStart => exact ⟨0, Nat.zero_le _, rfl, Dr.refl _, Lib.hid fun j hj => by omega⟩
    case round =>
      obtain ⟨k, hk, rfl, hdr, HP⟩ := hrel
      by_cases hlt : k < L.length
      · have hlt' : (k : Int) < (L.length : Int) := by omega
        have hltm : k < M.length := by omega
        have hlt'm : (k : Int) < (M.length : Int) := by omega
        obtain ⟨b1, o1, rfl, _, hc⟩ := (h.dr hdr).at_ hlt
        obtain ⟨b2, o2, rfl, _, hc'⟩ := (hm.dr hdr).at_ hltm
        have HG : Hid (L.getD k 0 = L[k]) := Lib.hid (getD_lt hlt)
        have HG' : Hid (M.getD k 0 = M[k]) := Lib.hid (getD_lt hltm)
        by_cases e1 : L[k] = M[k]
        · have HE : Hid (L.getD k 0 = M.getD k 0) := Lib.hid (by rw [HG.out, HG'.out, e1])
          have b1 : (L[k] != M[k]) = false := by simp [e1]
          clear e1 hlen
          generalize L[k] = x at hc HG b1
          generalize M[k] = y at hc' HG' b1
          go_wp2_with fail
          go_quiet (fail)
          go_wp2
          go_roundw
          case rel => exact ⟨k + 1, by omega, by go_num, hdr.drewN _, Lib.hid fun j hj => by
            rcases Nat.lt_or_ge j k with h1 | h1
            · exact HP.out j h1
            · obtain rfl : j = k := by omega
              exact HE.out⟩
          case measure => simp [intOf]; omega
        · have HF : Hid (decide (L = M) = false) := Lib.hid (decide_eq_false fun hc => e1 (by subst hc; rfl))
          have b1 : (L[k] != M[k]) = true := by simpa using e1
          clear e1 hlen
          generalize L[k] = x at hc HG b1
          generalize M[k] = y at hc' HG' b1
          go_wp2_with fail
          go_quiet (fail)
          go_wp2
          go_ret
          exact ⟨ret_bool HF.out.symm, hdr.trans (Dr.n _ _)⟩
      · obtain rfl : k = L.length := by omega
        have HF : Hid (decide (L = M) = true) := Lib.hid (decide_eq_true (List.ext_getElem hlen fun j h1 h2 => by
          have := HP.out j h1
          rwa [getD_lt h1, getD_lt h2] at this))
        clear hlen
        go_wp2
        go_ret
        exact ⟨ret_bool HF.out.symm, hdr⟩
  · have b0 : ((L.length : Int) != (M.length : Int)) = true := by simp; omega
    have HF : Hid (decide (L = M) = false) := Lib.hid (decide_eq_false fun hc => hlen (by rw [hc]))
    clear hlen
    go_enter Try.func52, Try.ntmps52
    go_wp2_with fail
    go_ret
    exact ⟨ret_bool HF.out.symm, 0, rfl⟩
end Go.Proofs.Ytnheolhgdinjgaa
