/-
  Walks: withOnce of the program, SignedDistinct of the model and of the program.
-/
import Derived.Test.YteglcoalfgjjiaaC3
import Derived.Test.YteglcoalfgjjiaaM10
namespace Go.Proofs.Yteglcoalfgjjiaa
open Go.RowKit NP
set_option linter.unusedVariables false




end Go.Proofs.Yteglcoalfgjjiaa
