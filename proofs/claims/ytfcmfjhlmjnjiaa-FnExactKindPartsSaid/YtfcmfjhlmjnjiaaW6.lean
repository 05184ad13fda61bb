/-
  Walks: corners of the model and of the program.
-/
import Derived.Test.YtfcmfjhlmjnjiaaW4
import Derived.Test.YtfcmfjhlmjnjiaaM3
namespace Go.Proofs.Ytfcmfjhlmjnjiaa
open Go.RowKit NP
set_option linter.unusedVariables false





end Go.Proofs.Ytfcmfjhlmjnjiaa
