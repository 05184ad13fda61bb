/-
  All summands with a sum: how many, how long; the power of the laws.
-/
import Derived.Test.YtgbkaahmmpgjfaaW71
namespace Go.Proofs.Ytgbkaahmmpgjfaa
open Go.RowKit NP
set_option linter.unusedVariables false
theorem asTab : (List.range 9).all (fun k => decide ((allS k).length ≤ 1000) && decide (cntLL (allS k) ≤ 2000)) = true := by decide +kernel
theorem asF_few (n : Int) : (asF n).length ≤ 1000 := by
  unfold asF
  split
  · have := List.all_eq_true.1 asTab n.toNat (by simp; omega)
    simp at this
    exact this.1
  · simp
theorem asF_cnt (n : Int) : cntLL (asF n) ≤ 2000 := by
  unfold asF
  split
  · have := List.all_eq_true.1 asTab n.toNat (by simp; omega)
    simp at this
    exact this.2
  · simp [cntLL]
theorem asF_short (n : Int) : ∀ X ∈ asF n, X.length ≤ 4611686018427387904 := by
  intro X hX
  unfold asF at hX
  split at hX
  · unfold allS at hX
    obtain ⟨m, -, rfl⟩ := List.mem_map.1 hX
    have := smk_len16 m (show n.toNat ≤ 16 by omega)
    omega
  · simp at hX
theorem as_at {m k : Nat} (hm : m ≤ 8) (hk : k < (allS m).length) : mkF ((allS m)[k]) = (k : Int) ∧ sumL ((allS m)[k]) = (m : Int) ∧ sumFits ((allS m)[k]) := by
  have hk' : k < 2 ^ (m - 1) := by rw [← allS_len]; exact hk
  have e : (allS m)[k] = smk m k := by simp [allS]
  rw [e]
  have hv := smk_ok (n := m) k (by omega)
  refine ⟨by rw [mkF_yes hv, mkN_smk hk'], smk_sum m k, fun j hj => by have := vsm_bd (vsm_take hv j); omega⟩

end Go.Proofs.Ytgbkaahmmpgjfaa
