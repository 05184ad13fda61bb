/-
  Walks: corners of the model and of the program.
-/
import Derived.Test.YtcjnmconehfbgaaW4
import Derived.Test.YtcjnmconehfbgaaM3
namespace Go.Proofs.Ytcjnmconehfbgaa
open Go.RowKit NP
set_option maxRecDepth 8000
set_option linter.unusedVariables false





end Go.Proofs.Ytcjnmconehfbgaa
