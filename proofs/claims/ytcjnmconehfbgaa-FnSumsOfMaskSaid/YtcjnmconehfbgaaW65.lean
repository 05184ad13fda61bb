/-
  Walks: the program's summands: opposite, summandsOf, twoSummands.
-/
import Derived.Test.YtcjnmconehfbgaaW64
import Derived.Deep.RegionWith
import Derived.RegionTactic
namespace Go.Proofs.Ytcjnmconehfbgaa
open Go.RowKit NP
set_option maxRecDepth 8000
set_option linter.unusedVariables false
theorem two_one (a b : Int) : ∀ v ∈ (#[Value.int .i64 a, Value.int .i64 b]).toList, v.oneCell' = true := by intro v hv; simp at hv; rcases hv with rfl | rfl <;> rfl
theorem link_one (n m x : Nat) (w : World) (h1 : m < 2 ^ (n - 1)) (hx : 1 ≤ x) (hs : n + x ≤ 16) :
    Calls Try.prog 90 #[.agg #[.int .i64 n, .int .i64 m], .agg #[.int .i64 x, .int .i64 0], .bool false] w fun e w' =>
      e = .returned (.agg #[.int .i64 ((n + x : Nat) : Int), .int .i64 ((m + (if n = 0 then 0 else 2 ^ (n - 1)) : Nat) : Int)]) ∧ Below w.heap.size w w' := by
  have := link_any n m x 0 false w h1 (Nat.two_pow_pos _) hs
  have e : lkN n m x 0 false = m + (if n = 0 then 0 else 2 ^ (n - 1)) := by
    unfold lkN
    by_cases h0 : n = 0
    · simp [h0]
    · simp [h0, show ¬ x = 0 by omega]
  rw [e, show (((0 : Nat) : Int)) = 0 from rfl] at this
  exact this
end Go.Proofs.Ytcjnmconehfbgaa
