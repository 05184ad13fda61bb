/-
  Plain mathematics: how many rows and numbers the answers about piles have.
-/
import Derived.Test.YtnheolhgdinjgaaW91
namespace Go.Proofs.Ytnheolhgdinjgaa
open Go.RowKit NP
theorem cnt_rows {LL : List (List Int)} (h : ∀ L ∈ LL, valid L = true) : (cntLL LL : Int) ≤ sumLL LL := by
  induction LL with
  | nil => simp [cntLL, sumLL, sumL]
  | cons L R ih =>
    have h1 := ih fun M hM => h M (by simp [hM])
    have h2 := (valid_bd (h L (by simp))).2.2.1
    have e1 : cntLL (L :: R) = L.length + cntLL R := by simp [cntLL]
    have e2 : sumLL (L :: R) = sumL L + sumLL R := by simp [sumLL, sumL]
    rw [e1, e2]
    omega
theorem vpl_cnt {LL : List (List Int)} (h : vpl LL = true) : cntLL LL ≤ 16 := by
  have h1 := cnt_rows (vpl_each h)
  have h2 := vpl_sum h
  omega
theorem pl_three {LL : List (List Int)} (h : vpl LL = true) : LL.length ≤ 16 ∧ cntLL LL ≤ 16 ∧ ∀ L ∈ LL, L.length ≤ 4611686018427387904 := ⟨vpl_len h, vpl_cnt h, fun L hL => by have := vpl_l16 h L hL; omega⟩
theorem tpF_three (LL : List (List Int)) : (tpF LL).length ≤ 16 ∧ cntLL (tpF LL) ≤ 16 ∧ ∀ L ∈ tpF LL, L.length ≤ 4611686018427387904 := by
  cases h : vpl LL with
  | false => rw [tpF_no h]; exact ⟨by simp, by simp [cntLL], by simp⟩
  | true => rw [tpF_yes h]; exact pl_three (vpl_turn h)
theorem lpF_three (LL : List (List Int)) : (lpF LL).length ≤ 16 ∧ cntLL (lpF LL) ≤ 16 ∧ ∀ L ∈ lpF LL, L.length ≤ 4611686018427387904 := by
  cases h : vpl LL with
  | false => rw [lpF_no h]; exact ⟨by simp, by simp [cntLL], by simp⟩
  | true => rw [lpF_yes h]; exact pl_three (vpl_lay h)
theorem tpF_l (LL : List (List Int)) : (tpF LL).length ≤ 16 := (tpF_three LL).1
theorem tpF_c (LL : List (List Int)) : cntLL (tpF LL) ≤ 16 := (tpF_three LL).2.1
theorem tpF_r (LL : List (List Int)) : ∀ L ∈ tpF LL, L.length ≤ 4611686018427387904 := (tpF_three LL).2.2
theorem lpF_l (LL : List (List Int)) : (lpF LL).length ≤ 16 := (lpF_three LL).1
theorem lpF_c (LL : List (List Int)) : cntLL (lpF LL) ≤ 16 := (lpF_three LL).2.1
theorem lpF_r (LL : List (List Int)) : ∀ L ∈ lpF LL, L.length ≤ 4611686018427387904 := (lpF_three LL).2.2
end Go.Proofs.Ytnheolhgdinjgaa
