import Derived.Test.YtmlomapifldlpaaDoorL1
import Derived.Deep.RegionLaw
import Derived.Deep.DrawnRows
namespace Go.Proofs.YtmlomapifldlpaaDoor
open Go.RowKit NP
set_option maxRecDepth 8000
set_option linter.unusedVariables false
attribute [local go_sem ↓] Go.wp_at_zero Go.wp_at_succ
/-- where x goes -/
def posOf (x : Int) (M : List Int) : Nat := ff (fun (j : Nat) => decide (x ≤ M.getD j 0)) M.length
def insK (M : List Int) (x : Int) : List Int := M.take (posOf x M) ++ x :: M.drop (posOf x M)
def mrg (L : List Int) : List Int := L.foldl insK []
end Go.Proofs.YtmlomapifldlpaaDoor
