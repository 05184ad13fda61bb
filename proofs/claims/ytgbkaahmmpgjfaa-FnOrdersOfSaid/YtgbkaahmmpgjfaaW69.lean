/-
  Walks: the model's functions of summands that answer lists, and FinerSums.
-/
import Derived.Test.YtgbkaahmmpgjfaaW68
import Derived.Test.YtgbkaahmmpgjfaaW64
namespace Go.Proofs.Ytgbkaahmmpgjfaa
open Go.RowKit NP
set_option linter.unusedVariables false
end Go.Proofs.Ytgbkaahmmpgjfaa
