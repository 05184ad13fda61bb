/-
  Walks: the draws of two parts.
-/
import Derived.Test.YtdoihndifaebcaaD3
namespace Go.Proofs.Ytdoihndifaebcaa
open Go.RowKit NP
set_option linter.unusedVariables false

theorem small_of_parts {M : List Int} (h : SmallParts M) : Small M := ⟨by have := h.1; omega, fun x hx => by have := h.2 x hx; omega⟩

end Go.Proofs.Ytdoihndifaebcaa
