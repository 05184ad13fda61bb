/-
  Walks: SquareSum, SelfCount, DivisorSum, Pentagonal of the model and of the program.
-/
import Derived.Test.YtcjnmconehfbgaaC2
import Derived.Test.YtcjnmconehfbgaaM9
namespace Go.Proofs.Ytcjnmconehfbgaa
open Go.RowKit NP
set_option maxRecDepth 8000
set_option linter.unusedVariables false

theorem same_below {P : Program} {f : FuncId} {args : Array Value} {w : World} {v : Value} (h : Calls P f args w fun e w' => e = .returned v ∧ w = w') : Calls P f args w fun e w' => e = .returned v ∧ Below w.heap.size w w' := h.mono fun _ _ ⟨a, b⟩ => ⟨a, b ▸ Below.refl _ _⟩









end Go.Proofs.Ytcjnmconehfbgaa
