/-
  Plain mathematics of added parts.
-/
import Derived.Test.YthafbdpeignccaaM5
namespace Go.Proofs.Ythafbdpeignccaa
namespace NP
set_option linter.unusedVariables false
def two (P Q : List Int) : Bool := valid P && valid Q && decide (sumL P + sumL Q ≤ 16)
def adp (P Q : List Int) : List Int := (List.range (max P.length Q.length)).map fun i => P.getD i 0 + Q.getD i 0
theorem adp_len (P Q : List Int) : (adp P Q).length = max P.length Q.length := by simp [adp]
theorem adp_getD (P Q : List Int) (i : Nat) : (adp P Q).getD i 0 = P.getD i 0 + Q.getD i 0 := by
  rcases Nat.lt_or_ge i (max P.length Q.length) with h | h
  · rw [getD_lt (by rw [adp_len]; exact h)]
    simp [adp]
  · rw [getD_ge (by rw [adp_len]; exact h), getD_ge (by omega), getD_ge (by omega)]
    rfl
theorem getD_nn {L : List Int} (hv : valid L = true) (i : Nat) : 0 ≤ L.getD i 0 ∧ L.getD i 0 ≤ 16 := by
  rcases Nat.lt_or_ge i L.length with h | h
  · rw [getD_lt h]
    have := preS_of_valid hv i h h
    omega
  · rw [getD_ge h]; omega
theorem getD_fall {L : List Int} (hv : valid L = true) (i : Nat) (h : 0 < i) : L.getD i 0 ≤ L.getD (i - 1) 0 := by
  rcases Nat.lt_or_ge i L.length with h1 | h1
  · rw [getD_lt h1, getD_lt (by omega)]
    exact (preS_of_valid hv i h1 h1).2.2 h
  · rw [getD_ge h1]; exact (getD_nn hv _).1
/-- the sum, by places -/
def sumTo (L : List Int) : Nat → Int
  | 0 => 0
  | n + 1 => sumTo L n + L.getD n 0
theorem sumTo_take (L : List Int) (n : Nat) : sumTo L n = sumL (L.take n) := by
  induction n with
  | zero => rfl
  | succ n ih =>
    rw [sumTo, ih]
    rcases Nat.lt_or_ge n L.length with h | h
    · rw [sumL_take_succ L n h, getD_lt h]
    · rw [getD_ge h, List.take_of_length_le h, List.take_of_length_le (by omega)]; omega
theorem sumTo_all (L : List Int) (n : Nat) (h : L.length ≤ n) : sumTo L n = sumL L := by rw [sumTo_take, List.take_of_length_le h]
theorem sumTo_add {A P Q : List Int} (h : ∀ i, A.getD i 0 = P.getD i 0 + Q.getD i 0) (n : Nat) : sumTo A n = sumTo P n + sumTo Q n := by
  induction n with
  | zero => rfl
  | succ n ih => rw [sumTo, sumTo, sumTo, ih, h]; omega
theorem adp_sum (P Q : List Int) : sumL (adp P Q) = sumL P + sumL Q := by
  rw [← sumTo_all (adp P Q) (max P.length Q.length) (by rw [adp_len]; exact Nat.le_refl _), sumTo_add (adp_getD P Q), sumTo_all P _ (Nat.le_max_left _ _), sumTo_all Q _ (Nat.le_max_right _ _)]
theorem two_out {P Q : List Int} (h : two P Q = true) : valid P = true ∧ valid Q = true ∧ sumL P + sumL Q ≤ 16 := by
  unfold two at h
  simp only [Bool.and_eq_true, decide_eq_true_eq] at h
  exact ⟨h.1.1, h.1.2, h.2⟩
theorem valid_adp {P Q : List Int} (h : two P Q = true) : valid (adp P Q) = true := by
  obtain ⟨hp, hq, hs⟩ := two_out h
  have hbp := valid_bd hp
  have hbq := valid_bd hq
  apply valid_of_preS
  · intro j hj _
    have e := adp_getD P Q j
    rw [getD_lt hj] at e
    have h1 := getD_nn hp j
    have h2 := getD_nn hq j
    rw [adp_len] at hj
    have h3 : 1 ≤ P.getD j 0 + Q.getD j 0 := by
      rcases Nat.lt_or_ge j P.length with h | h
      · have := getD_pos hp h; omega
      · have := getD_pos hq (by omega : j < Q.length); omega
    have h4 : P.getD j 0 + Q.getD j 0 ≤ 16 := by
      have a1 : P.getD j 0 ≤ sumL P := by
        rcases Nat.lt_or_ge j P.length with h | h
        · rw [getD_lt h]
          exact (elem_le_sum (fun x hx => by obtain ⟨n, hn, e⟩ := List.mem_iff_getElem.1 hx; have := preS_of_valid hp n hn hn; omega) h).1
        · rw [getD_ge h]; omega
      have a2 : Q.getD j 0 ≤ sumL Q := by
        rcases Nat.lt_or_ge j Q.length with h | h
        · rw [getD_lt h]
          exact (elem_le_sum (fun x hx => by obtain ⟨n, hn, e⟩ := List.mem_iff_getElem.1 hx; have := preS_of_valid hq n hn hn; omega) h).1
        · rw [getD_ge h]; omega
      omega
    refine ⟨by omega, by omega, fun h0 => ?_⟩
    have e2 := adp_getD P Q (j - 1)
    rw [getD_lt (by rw [adp_len]; omega)] at e2
    have := getD_fall hp j h0
    have := getD_fall hq j h0
    omega
  · rw [adp_sum]; exact hs
/-- what stands in the program's diagram when i places have been added to -/
def amid (P Q : List Int) (i : Nat) : List Int := (List.range 16).map fun j => if j < i then P.getD j 0 + Q.getD j 0 else P.getD j 0
theorem amid_len (P Q : List Int) (i : Nat) : (amid P Q i).length = 16 := by simp [amid]
theorem amid_get (P Q : List Int) (i j : Nat) (h : j < (amid P Q i).length) : (amid P Q i)[j] = if j < i then P.getD j 0 + Q.getD j 0 else P.getD j 0 := by simp [amid]
theorem amid_zero {P : List Int} (hp : P.length ≤ 16) (Q : List Int) : amid P Q 0 = pad P := by
  apply List.ext_getElem
  · rw [amid_len, pad_len hp]
  · intro j h1 h2
    rw [amid_get, if_neg (by omega), ← pad_getD hp, getD_lt h2]
theorem amid_set (P Q : List Int) (i : Nat) : (amid P Q i).set i (P.getD i 0 + Q.getD i 0) = amid P Q (i + 1) := by
  apply List.ext_getElem
  · rw [List.length_set, amid_len, amid_len]
  · intro j h1 h2
    by_cases hj : i = j
    · subst hj
      rw [List.getElem_set_self, amid_get, if_pos (by omega)]
    · rw [List.getElem_set_ne hj, amid_get, amid_get]
      split <;> split <;> first | rfl | omega
theorem amid_end {P Q : List Int} (h : two P Q = true) : amid P Q 16 = pad (adp P Q) := by
  have hv := valid_adp h
  have hl := (valid_bd hv).2.2.2
  apply List.ext_getElem
  · rw [amid_len, pad_len hl]
  · intro j h1 h2
    rw [amid_get, if_pos (by rw [amid_len] at h1; exact h1)]
    have e := pad_getD hl j
    rw [getD_lt h2, adp_getD] at e
    exact e.symm
def adpF (P Q : List Int) : List Int := if two P Q then adp P Q else []
theorem adpF_yes {P Q : List Int} (h : two P Q = true) : adpF P Q = adp P Q := by simp [adpF, h]
theorem adpF_no {P Q : List Int} (h : two P Q = false) : adpF P Q = [] := by simp [adpF, h]
theorem adpF_len (P Q : List Int) : (adpF P Q).length ≤ 16 := by
  unfold adpF
  split
  · rename_i h
    exact (valid_bd (valid_adp h)).2.2.2
  · simp
end NP
end Go.Proofs.Ythafbdpeignccaa
