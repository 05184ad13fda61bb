/-
  Walks: corners of the model and of the program.
-/
import Derived.Test.YtemkchihbnneeaaW4
import Derived.Test.YtemkchihbnneeaaM3
namespace Go.Proofs.Ytemkchihbnneeaa
open Go.RowKit NP
set_option linter.unusedVariables false





end Go.Proofs.Ytemkchihbnneeaa
