/-
  DERIVED. GIVEN WITH THE SEED: THE CARDS: each row of YtmlomapifldlpaaDoorRows.lean that lists a variable, with what it lists TIED to the program's text (the seventh form; the later family's looks); each row that meets fmt, with fmt's text TOLD by the authors' own Lean function (tested against real Go, not proved from fmt's source: count such statements apart). THE CARD IS WHAT COUNTS. Prove the row's statement (the work); the ties are given (YtmlomapifldlpaaDoorTie.lean); close each card by the builder's one call (the guide's Derived/Test/ToyasCard.lean, 'card_holds'). Laid BY PROGRAM, IN A SANDBOX (cutbox-door.mjs). By AI agents, Wed Nov 11 2026. No macro, syntax, notation, axiom, sorry.
-/
import Derived.Test.YtmlomapifldlpaaDoorRows
import GoSem.ClaimSeven
namespace Go.Proofs.YtmlomapifldlpaaDoor
namespace Rows

/-- THE TIED CARD OF 'laws.FnExactPartnerOf'. -/
def fnExactPartnerOfCard : Claim7 := { stood := { row := fnExactPartnerOfRow, standIns := [], harness := (true, "4d012ca5ef3a49329b971c55e44b89f6a1391809e17308bbf09495da074f144a"), looks := false }, kinds := [], alts := [], laidByText := true, laidKinds := [.data], laidTests := true, laidLooks := .later }
def FnExactPartnerOfCardSaid : Prop := Claim7.holds Tryd.pinned (.plain (OpenSpec.ofChange fnExactPartnerOfSpec)) fnExactPartnerOfCard

/-- THE TIED CARD OF 'laws.FnPartnerOf'. -/
def fnPartnerOfCard : Claim7 := { stood := { row := fnPartnerOfRow, standIns := [], harness := (true, "4d012ca5ef3a49329b971c55e44b89f6a1391809e17308bbf09495da074f144a"), looks := false }, kinds := [], alts := [], laidByText := true, laidKinds := [.data], laidTests := true, laidLooks := .later }
def FnPartnerOfCardSaid : Prop := Claim7.holds Tryd.pinned (.plain (OpenSpec.ofChange fnPartnerOfSpec)) fnPartnerOfCard

/-- THE TIED CARD OF 'laws.FnKindCount'. -/
def fnKindCountCard : Claim7 := { stood := { row := fnKindCountRow, standIns := [], harness := (true, "4d012ca5ef3a49329b971c55e44b89f6a1391809e17308bbf09495da074f144a"), looks := false }, kinds := [], alts := [], laidByText := true, laidKinds := [.data], laidTests := true, laidLooks := .later }
def FnKindCountCardSaid : Prop := Claim7.holds Tryd.pinned (.plain (OpenSpec.ofChange fnKindCountSpec)) fnKindCountCard

/-- THE SECOND FORM's CARD OF 'laws.FnExactPartnerOf'. -/
def fnExactPartnerOfUptoCard : Claim7 := { stood := { row := fnExactPartnerOfUptoRow, standIns := [], harness := (true, "4d012ca5ef3a49329b971c55e44b89f6a1391809e17308bbf09495da074f144a"), looks := false }, kinds := [], alts := [], laidByText := true, laidKinds := [.data], laidTests := true, laidLooks := .later }
def FnExactPartnerOfUptoCardSaid : Prop := Claim7.holds Tryd.pinned (.plain (OpenSpec.upto fnExactPartnerOfSpec)) fnExactPartnerOfUptoCard

/-- THE SECOND FORM's CARD OF 'laws.FnPartnerOf'. -/
def fnPartnerOfUptoCard : Claim7 := { stood := { row := fnPartnerOfUptoRow, standIns := [], harness := (true, "4d012ca5ef3a49329b971c55e44b89f6a1391809e17308bbf09495da074f144a"), looks := false }, kinds := [], alts := [], laidByText := true, laidKinds := [.data], laidTests := true, laidLooks := .later }
def FnPartnerOfUptoCardSaid : Prop := Claim7.holds Tryd.pinned (.plain (OpenSpec.upto fnPartnerOfSpec)) fnPartnerOfUptoCard

/-- THE SECOND FORM's CARD OF 'laws.FnKindCount'. -/
def fnKindCountUptoCard : Claim7 := { stood := { row := fnKindCountUptoRow, standIns := [], harness := (true, "4d012ca5ef3a49329b971c55e44b89f6a1391809e17308bbf09495da074f144a"), looks := false }, kinds := [], alts := [], laidByText := true, laidKinds := [.data], laidTests := true, laidLooks := .later }
def FnKindCountUptoCardSaid : Prop := Claim7.holds Tryd.pinned (.plain (OpenSpec.upto fnKindCountSpec)) fnKindCountUptoCard
end Rows
end Go.Proofs.YtmlomapifldlpaaDoor
