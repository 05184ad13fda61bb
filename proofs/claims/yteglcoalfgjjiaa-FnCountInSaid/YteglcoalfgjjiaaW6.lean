/-
  Walks: corners of the model and of the program.
-/
import Derived.Test.YteglcoalfgjjiaaW4
import Derived.Test.YteglcoalfgjjiaaM3
namespace Go.Proofs.Yteglcoalfgjjiaa
open Go.RowKit NP
set_option linter.unusedVariables false





end Go.Proofs.Yteglcoalfgjjiaa
