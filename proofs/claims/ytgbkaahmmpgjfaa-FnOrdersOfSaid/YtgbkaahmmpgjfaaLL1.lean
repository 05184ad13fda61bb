/-
  Walks: the laws' own helpers on lists of lists: compared (eqIntSS, equalLists).
-/
import Derived.Test.YtgbkaahmmpgjfaaL1
import Derived.Deep.RegionHeld3
import Derived.Test.YtgbkaahmmpgjfaaLL
namespace Go.Proofs.Ytgbkaahmmpgjfaa
open Go.RowKit NP
set_option linter.unusedVariables false
theorem keepD2 {wr wx w' : World} {p q : Addr} {x y : Value} (h1 : wx.cell? p = some x) (h2 : wx.cell? q = some y) (h3 : Dr wr wx) (hd : Dr wx w') : w'.cell? p = some x ∧ w'.cell? q = some y ∧ Dr wr w' := by
  obtain ⟨n, rfl⟩ := hd
  exact ⟨h1, h2, h3.drewN n⟩



end Go.Proofs.Ytgbkaahmmpgjfaa
