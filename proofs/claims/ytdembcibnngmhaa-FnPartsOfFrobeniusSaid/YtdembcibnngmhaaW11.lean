/-
  Walks: a cell put, of the model; the draws of AddCell.
-/
import Derived.Test.YtdembcibnngmhaaW8
import Derived.Test.YtdembcibnngmhaaD4
namespace Go.Proofs.Ytdembcibnngmhaa
open Go.RowKit NP
set_option linter.unusedVariables false


end Go.Proofs.Ytdembcibnngmhaa
