/-
  Walks: a cell put, of the model; the draws of AddCell.
-/
import Derived.Test.YtldbjnnolebfbaaW8
import Derived.Test.YtldbjnnolebfbaaD4
namespace Go.Proofs.Ytldbjnnolebfbaa
open Go.RowKit NP
set_option linter.unusedVariables false


end Go.Proofs.Ytldbjnnolebfbaa
