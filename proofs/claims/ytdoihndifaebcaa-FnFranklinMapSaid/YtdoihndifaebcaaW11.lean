/-
  Walks: a cell put, of the model; the draws of AddCell.
-/
import Derived.Test.YtdoihndifaebcaaW8
import Derived.Test.YtdoihndifaebcaaD4
namespace Go.Proofs.Ytdoihndifaebcaa
open Go.RowKit NP
set_option linter.unusedVariables false


end Go.Proofs.Ytdoihndifaebcaa
