/-
  Walks of the model: kinds of parts; stairs.
-/
import Derived.Test.YtcjnmconehfbgaaW29
import Derived.Test.YtcjnmconehfbgaaW8
namespace Go.Proofs.Ytcjnmconehfbgaa
open Go.RowKit NP
set_option maxRecDepth 8000
set_option linter.unusedVariables false
set_option linter.unusedSimpArgs false





end Go.Proofs.Ytcjnmconehfbgaa
