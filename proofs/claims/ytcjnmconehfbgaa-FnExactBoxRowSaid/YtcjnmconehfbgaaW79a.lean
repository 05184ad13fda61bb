/-
  Walks: whether the sides of a box are in limits.
-/
import Derived.Test.YtcjnmconehfbgaaProg
import Derived.Test.YtcjnmconehfbgaaBase
namespace Go.Proofs.Ytcjnmconehfbgaa
open Go.RowKit
set_option maxRecDepth 8000
set_option linter.unusedVariables false
set_option linter.unusedSimpArgs false
def limB (a b : Int) : Bool := decide (0 ≤ a ∧ a ≤ 4 ∧ 0 ≤ b ∧ b ≤ 4)
theorem isInLimits_any (a b : Int) (w : World) :
    Calls Try.prog 57 #[.agg #[.int .i64 a, .int .i64 b]] w fun e w' => e = .returned (.bool (limB a b)) ∧ Below w.heap.size w w' := by
  have hc : limB a b = true ∨ (limB a b = false ∧ (a < 0 ∨ (0 ≤ a ∧ 4 < a) ∨ (0 ≤ a ∧ a ≤ 4 ∧ b < 0) ∨ (0 ≤ a ∧ a ≤ 4 ∧ 0 ≤ b ∧ 4 < b))) := by
    unfold limB
    by_cases h : 0 ≤ a ∧ a ≤ 4 ∧ 0 ≤ b ∧ b ≤ 4
    · exact Or.inl (decide_eq_true h)
    · exact Or.inr ⟨decide_eq_false h, by omega⟩
  have fin := fun k => ((Below.refl w.heap.size w).alloc (Nat.le_refl _) k)
  rcases hc with h | ⟨h, h1 | ⟨h1, h2⟩ | ⟨h1, h2, h3⟩ | ⟨h1, h2, h3, h4⟩⟩
  · obtain ⟨h1, h2, h3, h4⟩ := of_decide_eq_true h
    rw [h]
    clear h
    have g1 : decide (0 ≤ a) = true := decide_eq_true h1
    have g2 : decide (a ≤ 4) = true := decide_eq_true h2
    have g3 : decide (0 ≤ b) = true := decide_eq_true h3
    have g4 : decide (b ≤ 4) = true := decide_eq_true h4
    go_enter Try.func57, Try.ntmps57
    go_wp2
    go_ret
    exact ⟨rfl, fin _⟩
  all_goals rw [h]; clear h
  · have g1 : decide (0 ≤ a) = false := decide_eq_false (by omega)
    go_enter Try.func57, Try.ntmps57
    go_wp2
    go_ret
    exact ⟨rfl, fin _⟩
  · have g1 : decide (0 ≤ a) = true := decide_eq_true h1
    have g2 : decide (a ≤ 4) = false := decide_eq_false (by omega)
    go_enter Try.func57, Try.ntmps57
    go_wp2
    go_ret
    exact ⟨rfl, fin _⟩
  · have g1 : decide (0 ≤ a) = true := decide_eq_true h1
    have g2 : decide (a ≤ 4) = true := decide_eq_true h2
    have g3 : decide (0 ≤ b) = false := decide_eq_false (by omega)
    go_enter Try.func57, Try.ntmps57
    go_wp2
    go_ret
    exact ⟨rfl, fin _⟩
  · have g1 : decide (0 ≤ a) = true := decide_eq_true h1
    have g2 : decide (a ≤ 4) = true := decide_eq_true h2
    have g3 : decide (0 ≤ b) = true := decide_eq_true h3
    have g4 : decide (b ≤ 4) = false := decide_eq_false (by omega)
    go_enter Try.func57, Try.ntmps57
    go_wp2
    go_ret
    exact ⟨rfl, fin _⟩
end Go.Proofs.Ytcjnmconehfbgaa
