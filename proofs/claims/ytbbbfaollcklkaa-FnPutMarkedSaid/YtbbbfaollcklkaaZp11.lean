/-
  Walks: parts united and added, of the model.
-/
import Derived.Test.YtbbbfaollcklkaaZp1
import Derived.Test.YtbbbfaollcklkaaZp2
import Derived.Test.YtbbbfaollcklkaaZp3
import Derived.Test.YtbbbfaollcklkaaZp4
import Derived.Test.YtbbbfaollcklkaaZp5
import Derived.Test.YtbbbfaollcklkaaZp6
import Derived.Test.YtbbbfaollcklkaaZp7
import Derived.Test.YtbbbfaollcklkaaZp8
import Derived.Test.YtbbbfaollcklkaaZp9
import Derived.Test.YtbbbfaollcklkaaZp10
namespace Go.Proofs.Ytbbbfaollcklkaa
open Go.RowKit NP
set_option maxRecDepth 8000
set_option linter.unusedVariables false
theorem Rd.grownNew {w w' : World} {B : Nat} {a : Option Addr} {vs : List Value} (h : Rd w B a vs) (hb : Below w.heap.size w w') (hB : B ≤ w.heap.size) : Rd w' B a vs := h.below (hb.mono hB)


end Go.Proofs.Ytbbbfaollcklkaa
