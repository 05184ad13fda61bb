/-
  Walks: a cell put, of the model; the draws of AddCell.
-/
import Derived.Test.YtemkchihbnneeaaW8
import Derived.Test.YtemkchihbnneeaaD4
namespace Go.Proofs.Ytemkchihbnneeaa
open Go.RowKit NP
set_option linter.unusedVariables false


end Go.Proofs.Ytemkchihbnneeaa
