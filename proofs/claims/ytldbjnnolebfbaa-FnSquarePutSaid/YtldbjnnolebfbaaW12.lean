/-
  Walks of the program: two diagrams of two lists. (The words lie in W44 and W46 since the code has twoThatFit.)
-/
import Derived.Test.YtldbjnnolebfbaaW11
import Derived.Test.YtldbjnnolebfbaaM17
import Derived.Test.YtldbjnnolebfbaaW46
import Derived.Deep.RegionHeld3
import Derived.Deep.MidRow
import Derived.StillTailTactics
namespace Go.Proofs.Ytldbjnnolebfbaa
end Go.Proofs.Ytldbjnnolebfbaa
