/-
  Walks: corners of the model and of the program.
-/
import Derived.Test.YtldbjnnolebfbaaW4
import Derived.Test.YtldbjnnolebfbaaM3
namespace Go.Proofs.Ytldbjnnolebfbaa
open Go.RowKit NP
set_option linter.unusedVariables false





end Go.Proofs.Ytldbjnnolebfbaa
