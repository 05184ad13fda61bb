/-
  Walks: a cell put, of the model; the draws of AddCell.
-/
import Derived.Test.YthincndannopmaaW8
import Derived.Test.YthincndannopmaaD4
namespace Go.Proofs.Ythincndannopmaa
open Go.RowKit NP
set_option linter.unusedVariables false


end Go.Proofs.Ythincndannopmaa
