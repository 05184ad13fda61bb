/-
  Walks: corners of the model and of the program.
-/
import Derived.Test.YthincndannopmaaW4
import Derived.Test.YthincndannopmaaM3
namespace Go.Proofs.Ythincndannopmaa
open Go.RowKit NP
set_option linter.unusedVariables false





end Go.Proofs.Ythincndannopmaa
