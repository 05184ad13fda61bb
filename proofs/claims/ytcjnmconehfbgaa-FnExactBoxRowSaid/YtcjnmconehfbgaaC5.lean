/-
  Walks: the draws of numbers: CountParts, AtMostParts, JustParts, DivisorSum, Pentagonal, SignedDistinct.
-/
import Derived.Test.YtcjnmconehfbgaaC4
import Derived.Test.YtcjnmconehfbgaaD1
namespace Go.Proofs.Ytcjnmconehfbgaa
open Go.RowKit NP
set_option maxRecDepth 8000
set_option linter.unusedVariables false

theorem chg_low2 {a b c : World} {g : Nat} (hb : Below a.heap.size a b) (hg : a.heap.size ≤ g) (h : b.grownBy c (some g)) : Below a.heap.size a c := hb.grown h hb.size fun k hk => by injection hk with hk; omega









end Go.Proofs.Ytcjnmconehfbgaa
