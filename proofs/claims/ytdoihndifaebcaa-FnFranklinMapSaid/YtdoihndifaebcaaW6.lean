/-
  Walks: corners of the model and of the program.
-/
import Derived.Test.YtdoihndifaebcaaW4
import Derived.Test.YtdoihndifaebcaaM3
namespace Go.Proofs.Ytdoihndifaebcaa
open Go.RowKit NP
set_option linter.unusedVariables false





end Go.Proofs.Ytdoihndifaebcaa
