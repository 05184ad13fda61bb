/-
  Walks: corners of the model and of the program.
-/
import Derived.Test.YtdembcibnngmhaaW4
import Derived.Test.YtdembcibnngmhaaM3
namespace Go.Proofs.Ytdembcibnngmhaa
open Go.RowKit NP
set_option linter.unusedVariables false





end Go.Proofs.Ytdembcibnngmhaa
