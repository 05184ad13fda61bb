/-
  Walks: corners of the model and of the program.
-/
import Derived.Test.YtnheolhgdinjgaaW4
import Derived.Test.YtnheolhgdinjgaaM3
namespace Go.Proofs.Ytnheolhgdinjgaa
open Go.RowKit NP
set_option maxRecDepth 8000
set_option linter.unusedVariables false





end Go.Proofs.Ytnheolhgdinjgaa
