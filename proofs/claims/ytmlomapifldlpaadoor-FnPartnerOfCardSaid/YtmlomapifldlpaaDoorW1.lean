/-
  Walks: sum, validParts, ValidParts, SumOf of the model.
-/
import Derived.Test.YtmlomapifldlpaaDoorProg
import Derived.Test.YtmlomapifldlpaaDoorMath
import Derived.Test.YtmlomapifldlpaaDoorBase
import Derived.Deep.QuietTactic
import Derived.BigQuiet
import Derived.Lib.Hide
namespace Go.Proofs.YtmlomapifldlpaaDoor
open Go.RowKit NP
set_option maxRecDepth 8000
set_option linter.unusedVariables false

/-- what the sums on the way stay within -/
def sumFits (L : List Int) : Prop := ∀ k, k ≤ L.length → -4611686018427387904 ≤ sumL (L.take k) ∧ sumL (L.take k) ≤ 4611686018427387904
theorem sumFits.next {L : List Int} (h : sumFits L) {k : Nat} (hk : k < L.length) : -4611686018427387904 ≤ sumL (L.take k) + L[k] ∧ sumL (L.take k) + L[k] ≤ 4611686018427387904 := by
  have := h (k + 1) (by omega)
  rw [sumL_take_succ L k hk] at this
  exact this

theorem inRange_yes (n lo hi : Int) (w : World) (h1 : lo ≤ n) (h2 : n ≤ hi) : Calls Tryd.prog 19 #[.int .i64 n, .int .i64 lo, .int .i64 hi] w fun e w' => e = .returned (.bool true) ∧ w' = w := by
  go_enter Tryd.func19, Tryd.ntmps19
  go_wp2
  go_ret
  exact ⟨rfl, rfl⟩
theorem inRange_no (n lo hi : Int) (w : World) (h : n < lo ∨ hi < n) : Calls Tryd.prog 19 #[.int .i64 n, .int .i64 lo, .int .i64 hi] w fun e w' => e = .returned (.bool false) ∧ w' = w := by
  by_cases h1 : lo ≤ n
  · have h2 : hi < n := by omega
    clear h
    go_enter Tryd.func19, Tryd.ntmps19
    go_wp2
    go_ret
    exact ⟨ret_bool (by simp; omega), rfl⟩
  · clear h
    go_enter Tryd.func19, Tryd.ntmps19
    go_wp2
    go_ret
    exact ⟨rfl, rfl⟩

end Go.Proofs.YtmlomapifldlpaaDoor
