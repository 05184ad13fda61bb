/-
  Plain mathematics: a cell taken away is put again, and a cell put is taken away.
-/
import Derived.Test.YthafbdpeignccaaM5
namespace Go.Proofs.Ythafbdpeignccaa
namespace NP
set_option linter.unusedVariables false
theorem add_less {L : List Int} (hv : valid L = true) {k : Nat} (hk : k < L.length) (hc : isC L k = true) : addL (lessL L k) k = L := by
  have hg : L.getD k 0 = L[k] := getD_lt hk
  unfold lessL
  split
  · rename_i h1
    have hlast := less_last hv hk hc h1
    rw [List.take_set_of_le (Nat.le_refl _)]
    unfold addL
    rw [if_pos (by simp; omega)]
    have e : L = L.take k ++ [L[k]] := by
      rw [← List.take_succ_eq_append_getElem hk, List.take_of_length_le (by omega)]
    rw [hg] at h1
    have h2 : L[k] = 1 := by omega
    rw [h2] at e
    exact e.symm
  · rename_i h1
    unfold addL
    rw [if_neg (by simp; omega), getD_set _ _ _ hk, if_pos rfl, hg]
    apply List.ext_getElem
    · simp
    · intro j h2 h3
      by_cases hj : k = j
      · subst hj
        rw [List.getElem_set_self]; omega
      · rw [List.getElem_set_ne hj, List.getElem_set_ne hj]
theorem less_sum {L : List Int} (hv : valid L = true) {k : Nat} (hk : k < L.length) (hc : isC L k = true) : sumL (lessL L k) = sumL L - 1 := by
  have h := sumL_add (lessL L k) (k := k) (by
    unfold lessL
    split
    · simp; omega
    · simp; omega)
  rw [add_less hv hk hc] at h
  omega
theorem less_len_ge {L : List Int} {k : Nat} (hk : k < L.length) : k ≤ (lessL L k).length := by
  unfold lessL
  split <;> simp <;> omega
/-- what a taken cell leaves takes a cell -/
theorem add_of_rmv {L : List Int} (hv : valid L = true) {k : Nat} (hk : k < L.length) (hc : isC L k = true) : addOk (lessL L k) k = true ∧ addC (lessL L k) k = L := by
  have h : addOk (lessL L k) k = true := by
    unfold addOk
    rw [valid_less hv hk hc, decide_eq_true (by omega : (0 : Int) ≤ (k : Int)), decide_eq_true (by have := less_len_ge hk; omega : (k : Int) ≤ ((lessL L k).length : Int)), Int.toNat_natCast, add_less hv hk hc, hv]
    rfl
  refine ⟨h, ?_⟩
  unfold addC
  rw [if_pos h, Int.toNat_natCast, add_less hv hk hc]
theorem addL_length (L : List Int) {k : Nat} (hk : k ≤ L.length) : k < (addL L k).length ∧ L.length ≤ (addL L k).length := by
  unfold addL
  split <;> simp <;> omega
theorem isC_add {L : List Int} (hv : valid L = true) {k : Nat} (hk : k ≤ L.length) (ha : valid (addL L k) = true) : isC (addL L k) k = true := by
  have hl := addL_length L hk
  unfold isC
  by_cases h1 : k + 1 = (addL L k).length
  · rw [decide_eq_true h1, Bool.true_or]
  · rw [decide_eq_false h1, Bool.false_or, addL_getD L hk, addL_getD L hk, if_pos rfl, if_neg (by omega)]
    apply decide_eq_true
    have : L.getD (k + 1) 0 ≤ L.getD k 0 := by
      rcases Nat.lt_or_ge (k + 1) L.length with h2 | h2
      · rw [getD_lt h2, getD_lt (by omega)]
        have := (preS_of_valid hv (k + 1) h2 h2).2.2 (by omega)
        simpa using this
      · rw [getD_ge h2]
        rcases Nat.lt_or_ge k L.length with h3 | h3
        · have := getD_pos hv h3; omega
        · rw [getD_ge h3]; exact Int.le_refl _
    omega
theorem less_add {L : List Int} (hv : valid L = true) {k : Nat} (hk : k ≤ L.length) : lessL (addL L k) k = L := by
  unfold lessL
  rw [addL_getD L hk, if_pos rfl]
  split
  · rename_i h1
    have h0 : k = L.length := by
      rcases Nat.lt_or_ge k L.length with h | h
      · have := getD_pos hv h; omega
      · omega
    rw [List.take_set_of_le (Nat.le_refl _)]
    unfold addL
    rw [if_pos h0, h0]
    simp
  · rename_i h1
    have h0 : k < L.length := by
      rcases Nat.lt_or_ge k L.length with h | h
      · exact h
      · rw [getD_ge h] at h1; omega
    unfold addL
    rw [if_neg (by omega), getD_lt h0]
    apply List.ext_getElem
    · simp
    · intro j h2 h3
      by_cases hj : k = j
      · subst hj
        rw [List.getElem_set_self]; omega
      · rw [List.getElem_set_ne hj, List.getElem_set_ne hj]
theorem rmv_of_add {L : List Int} (hv : valid L = true) {k : Nat} (hk : k ≤ L.length) (ha : valid (addL L k) = true) : rmvOk (addL L k) k = true ∧ rmv (addL L k) k = L := by
  have hl := addL_length L hk
  have h : rmvOk (addL L k) k = true := by
    unfold rmvOk
    rw [ha, decide_eq_true (by omega : (0 : Int) ≤ (k : Int)), decide_eq_true (by omega : (k : Int) < ((addL L k).length : Int)), Int.toNat_natCast, isC_add hv hk ha]
    rfl
  refine ⟨h, ?_⟩
  unfold rmv
  rw [if_pos h, Int.toNat_natCast, less_add hv hk]
end NP
end Go.Proofs.Ythafbdpeignccaa
