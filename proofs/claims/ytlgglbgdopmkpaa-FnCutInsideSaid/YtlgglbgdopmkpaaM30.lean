/-
  Plain mathematics of orders: the promise of the cut.
-/
import Derived.Test.YtlgglbgdopmkpaaM29
import Derived.Test.YtlgglbgdopmkpaaW55
namespace Go.Proofs.Ytlgglbgdopmkpaa
open NP
set_option linter.unusedVariables false
theorem cutL_getD {P Q : List Int} (hp : valid P = true) (hq : valid Q = true) (i : Nat) : (cutL P Q).getD i 0 = min (P.getD i 0) (Q.getD i 0) := by
  unfold cutL
  rw [tr_getD (lo2_fall hp hq) (lo2_nn hp hq)]
  split
  · rfl
  · rw [getD_ge (by have := (valid_bd hp).2.2.2; omega), getD_ge (by have := (valid_bd hq).2.2.2; omega)]; rfl
theorem cutH_getD {P Q : List Int} (hp : valid P = true) (hq : valid Q = true) (i : Nat) : (cutH P Q).getD i 0 = max (P.getD i 0) (Q.getD i 0) := by
  unfold cutH
  rw [tr_getD (hi2_fall hp hq) (hi2_nn hp hq)]
  split
  · rfl
  · rw [getD_ge (by have := (valid_bd hp).2.2.2; omega), getD_ge (by have := (valid_bd hq).2.2.2; omega)]; rfl
theorem cut_facts {P Q : List Int} (h : cutOk P Q = true) : sumL (cutL P Q) + sumL (cutH P Q) = sumL P + sumL Q ∧ ins P (cutL P Q) = true ∧ ins Q (cutL P Q) = true ∧ ins (cutH P Q) P = true ∧ ins (cutH P Q) Q = true ∧ ins P Q = decide (cutL P Q = Q) := by
  obtain ⟨hp, hq, _⟩ := cutOk_out h
  have vl := valid_cutL hp hq
  have vh := valid_cutH h
  have g1 := cutL_getD hp hq
  have g2 := cutH_getD hp hq
  refine ⟨?_, ins_iff.2 ⟨hp, vl, fun i => by rw [g1]; omega⟩, ins_iff.2 ⟨hq, vl, fun i => by rw [g1]; omega⟩, ins_iff.2 ⟨vh, hp, fun i => by rw [g2]; omega⟩, ins_iff.2 ⟨vh, hq, fun i => by rw [g2]; omega⟩, ?_⟩
  · unfold cutL cutH
    rw [sum_tr (lo2_nn hp hq), sum_tr (hi2_nn hp hq), sf_cut, sumTo_all P 16 (valid_bd hp).2.2.2, sumTo_all Q 16 (valid_bd hq).2.2.2]
  · rw [Bool.eq_iff_iff, ins_iff, decide_eq_true_eq]
    constructor
    · rintro ⟨_, _, hk⟩
      exact valid_ext vl hq fun j => by rw [g1]; have := hk j; omega
    · intro e
      refine ⟨hp, hq, fun i => ?_⟩
      have := g1 i
      rw [e] at this
      omega
end Go.Proofs.Ytlgglbgdopmkpaa
