/-
  Walks: parts of a set, of the program and of the model.
-/
import Derived.Test.YtgdkifpjcjegpaaW1
import Derived.Test.YtgdkifpjcjegpaaL1
import Derived.Test.YtgdkifpjcjegpaaC4
import Derived.Test.YtgdkifpjcjegpaaM22
namespace Go.Proofs.Ytgdkifpjcjegpaa
open Go.RowKit NP
set_option linter.unusedVariables false

theorem stB_mk {S : List Int} {k : Nat} (hk : k < S.length) (HP : ∀ j, j < k → (1 ≤ S.getD j 0 ∧ S.getD j 0 ≤ 40 ∧ (0 < j → S.getD (j - 1) 0 < S.getD j 0))) (h1 : 1 ≤ S[k]) (h2 : S[k] ≤ 40) (h3 : 0 < k → S.getD (k - 1) 0 < S[k]) :
    ∀ j, j < k + 1 → (1 ≤ S.getD j 0 ∧ S.getD j 0 ≤ 40 ∧ (0 < j → S.getD (j - 1) 0 < S.getD j 0)) := fun j hj => by
  rcases Nat.lt_or_ge j k with h | h
  · exact HP j h
  · obtain rfl : j = k := by omega
    rw [getD_lt hk]
    exact ⟨h1, h2, h3⟩






end Go.Proofs.Ytgdkifpjcjegpaa
