/-
  No cell of these rows narrows 'for every input' (looked for: loops, veiled, ifaces, maps, wideKeys, modest, calm, conditions, laid).
  DERIVED. THE GIVEN ROWS OF THIS SEAT. 10 by the template 'for every input the law returns true; each argument reads behind the call as it read before'; 0 by the template 'total and deterministic' (their statements: YtnheolhgdinjgaaTotals.lean).
  GIVEN WITH THE SEED: the statements are not yours to turn. If you find one false, say at which input.
  Laid BY PROGRAM, IN A SANDBOX (cutbox-rows.mjs): the forced cells as the released guide's own fill.sh prints them over the translation a50b790636280b37… (all of the seat's roots in one cut). By AI agents, Wed Nov 11 2026. No macro, syntax, notation, axiom, sorry.
-/
import Derived.Test.YtnheolhgdinjgaaChecked
import GoSem.Claim
import GoSem.ClaimJoined
import GoSem.ClaimMapViews
import Derived.JoinedTies
import Derived.KernelRfl
namespace Go.Proofs.Ytnheolhgdinjgaa
/- THE CELL 'sum', in the pinned program and in every row, IS THE sha256 OF THE DUMP (.gsa) THAT YtnheolhgdinjgaaProg.lean LOADS. Nothing in Lean hashes anything: it is a label: what it is worth is what the hold of that sum in a sandbox is worth. -/
noncomputable def Try.pinned : Pinned := { name := "ytnheolhgdinjgaa", sum := "a50b790636280b37f884b588ac9afdb34f68234e9abea4c366799fc9e9b30dd1", checked := Try.checked }
namespace Rows
def none {H : Type} : Left H := { results := [], args := [] }

/-- 'laws.FnExactValidPile': WHATEVER THE INPUT: true; the input reads as it did. -/
def fnExactValidPileSpec : ChangeSpec := { name := "fnExactValidPile", fn := fun _ => fun
  | [d] => { results := [.lit (.bool true)], args := [d] }
  | _ => none }
def fnExactValidPileRow : OpenClaim := { program := "ytnheolhgdinjgaa", sum := "a50b790636280b37f884b588ac9afdb34f68234e9abea4c366799fc9e9b30dd1", func := "loop.example/numberparts/laws.FnExactValidPile", spec := "fnExactValidPile", apart := false }
def FnExactValidPileSaid : Prop := fnExactValidPileRow.holds Try.pinned (OpenSpec.ofChange fnExactValidPileSpec)

/-- ITS FALSE NEIGHBOUR: 'it returns false'. Refute it at one input. -/
def fnExactValidPileWrong : ChangeSpec := { name := "fnExactValidPile", fn := fun _ => fun
  | [d] => { results := [.lit (.bool false)], args := [d] }
  | _ => none }
def FnExactValidPileWrongFalsely : Prop := fnExactValidPileRow.holds Try.pinned (OpenSpec.ofChange fnExactValidPileWrong)

/-- 'laws.FnValidPile': WHATEVER THE INPUT: true; the input reads as it did. -/
def fnValidPileSpec : ChangeSpec := { name := "fnValidPile", fn := fun _ => fun
  | [d] => { results := [.lit (.bool true)], args := [d] }
  | _ => none }
def fnValidPileRow : OpenClaim := { program := "ytnheolhgdinjgaa", sum := "a50b790636280b37f884b588ac9afdb34f68234e9abea4c366799fc9e9b30dd1", func := "loop.example/numberparts/laws.FnValidPile", spec := "fnValidPile", apart := false }
def FnValidPileSaid : Prop := fnValidPileRow.holds Try.pinned (OpenSpec.ofChange fnValidPileSpec)

/-- ITS FALSE NEIGHBOUR: 'it returns false'. Refute it at one input. -/
def fnValidPileWrong : ChangeSpec := { name := "fnValidPile", fn := fun _ => fun
  | [d] => { results := [.lit (.bool false)], args := [d] }
  | _ => none }
def FnValidPileWrongFalsely : Prop := fnValidPileRow.holds Try.pinned (OpenSpec.ofChange fnValidPileWrong)

/-- 'laws.FnExactPileSum': WHATEVER THE INPUT: true; the input reads as it did. -/
def fnExactPileSumSpec : ChangeSpec := { name := "fnExactPileSum", fn := fun _ => fun
  | [d] => { results := [.lit (.bool true)], args := [d] }
  | _ => none }
def fnExactPileSumRow : OpenClaim := { program := "ytnheolhgdinjgaa", sum := "a50b790636280b37f884b588ac9afdb34f68234e9abea4c366799fc9e9b30dd1", func := "loop.example/numberparts/laws.FnExactPileSum", spec := "fnExactPileSum", apart := false }
def FnExactPileSumSaid : Prop := fnExactPileSumRow.holds Try.pinned (OpenSpec.ofChange fnExactPileSumSpec)

/-- ITS FALSE NEIGHBOUR: 'it returns false'. Refute it at one input. -/
def fnExactPileSumWrong : ChangeSpec := { name := "fnExactPileSum", fn := fun _ => fun
  | [d] => { results := [.lit (.bool false)], args := [d] }
  | _ => none }
def FnExactPileSumWrongFalsely : Prop := fnExactPileSumRow.holds Try.pinned (OpenSpec.ofChange fnExactPileSumWrong)

/-- 'laws.FnPileSum': WHATEVER THE INPUT: true; the input reads as it did. -/
def fnPileSumSpec : ChangeSpec := { name := "fnPileSum", fn := fun _ => fun
  | [d] => { results := [.lit (.bool true)], args := [d] }
  | _ => none }
def fnPileSumRow : OpenClaim := { program := "ytnheolhgdinjgaa", sum := "a50b790636280b37f884b588ac9afdb34f68234e9abea4c366799fc9e9b30dd1", func := "loop.example/numberparts/laws.FnPileSum", spec := "fnPileSum", apart := false }
def FnPileSumSaid : Prop := fnPileSumRow.holds Try.pinned (OpenSpec.ofChange fnPileSumSpec)

/-- ITS FALSE NEIGHBOUR: 'it returns false'. Refute it at one input. -/
def fnPileSumWrong : ChangeSpec := { name := "fnPileSum", fn := fun _ => fun
  | [d] => { results := [.lit (.bool false)], args := [d] }
  | _ => none }
def FnPileSumWrongFalsely : Prop := fnPileSumRow.holds Try.pinned (OpenSpec.ofChange fnPileSumWrong)

/-- 'laws.FnExactTurnPile': WHATEVER THE INPUT: true; the input reads as it did. -/
def fnExactTurnPileSpec : ChangeSpec := { name := "fnExactTurnPile", fn := fun _ => fun
  | [d] => { results := [.lit (.bool true)], args := [d] }
  | _ => none }
def fnExactTurnPileRow : OpenClaim := { program := "ytnheolhgdinjgaa", sum := "a50b790636280b37f884b588ac9afdb34f68234e9abea4c366799fc9e9b30dd1", func := "loop.example/numberparts/laws.FnExactTurnPile", spec := "fnExactTurnPile", apart := false }
def FnExactTurnPileSaid : Prop := fnExactTurnPileRow.holds Try.pinned (OpenSpec.ofChange fnExactTurnPileSpec)

/-- ITS FALSE NEIGHBOUR: 'it returns false'. Refute it at one input. -/
def fnExactTurnPileWrong : ChangeSpec := { name := "fnExactTurnPile", fn := fun _ => fun
  | [d] => { results := [.lit (.bool false)], args := [d] }
  | _ => none }
def FnExactTurnPileWrongFalsely : Prop := fnExactTurnPileRow.holds Try.pinned (OpenSpec.ofChange fnExactTurnPileWrong)

/-- 'laws.FnTurnPile': WHATEVER THE INPUT: true; the input reads as it did. -/
def fnTurnPileSpec : ChangeSpec := { name := "fnTurnPile", fn := fun _ => fun
  | [d] => { results := [.lit (.bool true)], args := [d] }
  | _ => none }
def fnTurnPileRow : OpenClaim := { program := "ytnheolhgdinjgaa", sum := "a50b790636280b37f884b588ac9afdb34f68234e9abea4c366799fc9e9b30dd1", func := "loop.example/numberparts/laws.FnTurnPile", spec := "fnTurnPile", apart := false }
def FnTurnPileSaid : Prop := fnTurnPileRow.holds Try.pinned (OpenSpec.ofChange fnTurnPileSpec)

/-- ITS FALSE NEIGHBOUR: 'it returns false'. Refute it at one input. -/
def fnTurnPileWrong : ChangeSpec := { name := "fnTurnPile", fn := fun _ => fun
  | [d] => { results := [.lit (.bool false)], args := [d] }
  | _ => none }
def FnTurnPileWrongFalsely : Prop := fnTurnPileRow.holds Try.pinned (OpenSpec.ofChange fnTurnPileWrong)

/-- 'laws.FnExactLayersOf': WHATEVER THE INPUT: true; the input reads as it did. -/
def fnExactLayersOfSpec : ChangeSpec := { name := "fnExactLayersOf", fn := fun _ => fun
  | [d] => { results := [.lit (.bool true)], args := [d] }
  | _ => none }
def fnExactLayersOfRow : OpenClaim := { program := "ytnheolhgdinjgaa", sum := "a50b790636280b37f884b588ac9afdb34f68234e9abea4c366799fc9e9b30dd1", func := "loop.example/numberparts/laws.FnExactLayersOf", spec := "fnExactLayersOf", apart := false }
def FnExactLayersOfSaid : Prop := fnExactLayersOfRow.holds Try.pinned (OpenSpec.ofChange fnExactLayersOfSpec)

/-- ITS FALSE NEIGHBOUR: 'it returns false'. Refute it at one input. -/
def fnExactLayersOfWrong : ChangeSpec := { name := "fnExactLayersOf", fn := fun _ => fun
  | [d] => { results := [.lit (.bool false)], args := [d] }
  | _ => none }
def FnExactLayersOfWrongFalsely : Prop := fnExactLayersOfRow.holds Try.pinned (OpenSpec.ofChange fnExactLayersOfWrong)

/-- 'laws.FnLayersOf': WHATEVER THE INPUT: true; the input reads as it did. -/
def fnLayersOfSpec : ChangeSpec := { name := "fnLayersOf", fn := fun _ => fun
  | [d] => { results := [.lit (.bool true)], args := [d] }
  | _ => none }
def fnLayersOfRow : OpenClaim := { program := "ytnheolhgdinjgaa", sum := "a50b790636280b37f884b588ac9afdb34f68234e9abea4c366799fc9e9b30dd1", func := "loop.example/numberparts/laws.FnLayersOf", spec := "fnLayersOf", apart := false }
def FnLayersOfSaid : Prop := fnLayersOfRow.holds Try.pinned (OpenSpec.ofChange fnLayersOfSpec)

/-- ITS FALSE NEIGHBOUR: 'it returns false'. Refute it at one input. -/
def fnLayersOfWrong : ChangeSpec := { name := "fnLayersOf", fn := fun _ => fun
  | [d] => { results := [.lit (.bool false)], args := [d] }
  | _ => none }
def FnLayersOfWrongFalsely : Prop := fnLayersOfRow.holds Try.pinned (OpenSpec.ofChange fnLayersOfWrong)

/-- 'laws.FnExactIsEvenPile': WHATEVER THE INPUT: true; the input reads as it did. -/
def fnExactIsEvenPileSpec : ChangeSpec := { name := "fnExactIsEvenPile", fn := fun _ => fun
  | [d] => { results := [.lit (.bool true)], args := [d] }
  | _ => none }
def fnExactIsEvenPileRow : OpenClaim := { program := "ytnheolhgdinjgaa", sum := "a50b790636280b37f884b588ac9afdb34f68234e9abea4c366799fc9e9b30dd1", func := "loop.example/numberparts/laws.FnExactIsEvenPile", spec := "fnExactIsEvenPile", apart := false }
def FnExactIsEvenPileSaid : Prop := fnExactIsEvenPileRow.holds Try.pinned (OpenSpec.ofChange fnExactIsEvenPileSpec)

/-- ITS FALSE NEIGHBOUR: 'it returns false'. Refute it at one input. -/
def fnExactIsEvenPileWrong : ChangeSpec := { name := "fnExactIsEvenPile", fn := fun _ => fun
  | [d] => { results := [.lit (.bool false)], args := [d] }
  | _ => none }
def FnExactIsEvenPileWrongFalsely : Prop := fnExactIsEvenPileRow.holds Try.pinned (OpenSpec.ofChange fnExactIsEvenPileWrong)

/-- 'laws.FnIsEvenPile': WHATEVER THE INPUT: true; the input reads as it did. -/
def fnIsEvenPileSpec : ChangeSpec := { name := "fnIsEvenPile", fn := fun _ => fun
  | [d] => { results := [.lit (.bool true)], args := [d] }
  | _ => none }
def fnIsEvenPileRow : OpenClaim := { program := "ytnheolhgdinjgaa", sum := "a50b790636280b37f884b588ac9afdb34f68234e9abea4c366799fc9e9b30dd1", func := "loop.example/numberparts/laws.FnIsEvenPile", spec := "fnIsEvenPile", recurses := true, apart := false }
def FnIsEvenPileSaid : Prop := fnIsEvenPileRow.holds Try.pinned (OpenSpec.ofChange fnIsEvenPileSpec)

/-- ITS FALSE NEIGHBOUR: 'it returns false'. Refute it at one input. -/
def fnIsEvenPileWrong : ChangeSpec := { name := "fnIsEvenPile", fn := fun _ => fun
  | [d] => { results := [.lit (.bool false)], args := [d] }
  | _ => none }
def FnIsEvenPileWrongFalsely : Prop := fnIsEvenPileRow.holds Try.pinned (OpenSpec.ofChange fnIsEvenPileWrong)

/- THE SECOND FORM. 'bulk': how many values and letters a reading holds, each counted each time it is reached (what is shared counts as often as it is met; a slice's spare places count too). A statement '..UptoSaid' is the law's where the arguments, and the package variables that the reading takes, are together of bulk at most 1048576: NARROWER than '..Said'. Prove '..Said' where nothing that the law and all that it calls make is longer than what came in: it says more and counts as full. Else prove '..UptoSaid'. A law counts once. -/
mutual
def uptoBulk {H : Type} : DataW H → Nat
  | .lit (.string bytes) => bytes.length + 1
  | .lit _ => 1
  | .nil => 1
  | .ptr d => uptoBulk d + 1
  | .slice elems spare => uptoBulkAll elems + uptoBulkAll spare + 1
  | .agg parts => uptoBulkAll parts + 1
  | .iface _ d => uptoBulk d + 1
  | .map entries => uptoBulkEntries entries + 1
  | .held _ => 1
def uptoBulkAll {H : Type} : List (DataW H) → Nat
  | [] => 0
  | d :: r => uptoBulk d + uptoBulkAll r
def uptoBulkEntries {H : Type} : List (Lit × DataW H) → Nat
  | [] => 0
  | x :: r => uptoBulkEntry x + uptoBulkEntries r
def uptoBulkEntry {H : Type} : Lit × DataW H → Nat
  | (.string bytes, d) => bytes.length + uptoBulk d + 1
  | (_, d) => uptoBulk d + 1
 end
def uptoSmall : (H : Type) → List (DataW H) → Bool := fun _ ds => decide (uptoBulkAll ds ≤ 1048576)
def OpenSpec.upto (s : _root_.Go.ChangeSpec) : _root_.Go.OpenSpec := { _root_.Go.OpenSpec.ofChange s with cond := some uptoSmall }

/-- 'laws.FnExactValidPile', WHERE WHAT IT READS IS OF BULK AT MOST 1048576: true; the input reads as it did. -/
def fnExactValidPileUptoRow : OpenClaim := { program := "ytnheolhgdinjgaa", sum := "a50b790636280b37f884b588ac9afdb34f68234e9abea4c366799fc9e9b30dd1", func := "loop.example/numberparts/laws.FnExactValidPile", spec := "fnExactValidPile", apart := false, narrowed := true }
def FnExactValidPileUptoSaid : Prop := fnExactValidPileUptoRow.holds Try.pinned (OpenSpec.upto fnExactValidPileSpec)

/-- 'laws.FnValidPile', WHERE WHAT IT READS IS OF BULK AT MOST 1048576: true; the input reads as it did. -/
def fnValidPileUptoRow : OpenClaim := { program := "ytnheolhgdinjgaa", sum := "a50b790636280b37f884b588ac9afdb34f68234e9abea4c366799fc9e9b30dd1", func := "loop.example/numberparts/laws.FnValidPile", spec := "fnValidPile", apart := false, narrowed := true }
def FnValidPileUptoSaid : Prop := fnValidPileUptoRow.holds Try.pinned (OpenSpec.upto fnValidPileSpec)

/-- 'laws.FnExactPileSum', WHERE WHAT IT READS IS OF BULK AT MOST 1048576: true; the input reads as it did. -/
def fnExactPileSumUptoRow : OpenClaim := { program := "ytnheolhgdinjgaa", sum := "a50b790636280b37f884b588ac9afdb34f68234e9abea4c366799fc9e9b30dd1", func := "loop.example/numberparts/laws.FnExactPileSum", spec := "fnExactPileSum", apart := false, narrowed := true }
def FnExactPileSumUptoSaid : Prop := fnExactPileSumUptoRow.holds Try.pinned (OpenSpec.upto fnExactPileSumSpec)

/-- 'laws.FnPileSum', WHERE WHAT IT READS IS OF BULK AT MOST 1048576: true; the input reads as it did. -/
def fnPileSumUptoRow : OpenClaim := { program := "ytnheolhgdinjgaa", sum := "a50b790636280b37f884b588ac9afdb34f68234e9abea4c366799fc9e9b30dd1", func := "loop.example/numberparts/laws.FnPileSum", spec := "fnPileSum", apart := false, narrowed := true }
def FnPileSumUptoSaid : Prop := fnPileSumUptoRow.holds Try.pinned (OpenSpec.upto fnPileSumSpec)

/-- 'laws.FnExactTurnPile', WHERE WHAT IT READS IS OF BULK AT MOST 1048576: true; the input reads as it did. -/
def fnExactTurnPileUptoRow : OpenClaim := { program := "ytnheolhgdinjgaa", sum := "a50b790636280b37f884b588ac9afdb34f68234e9abea4c366799fc9e9b30dd1", func := "loop.example/numberparts/laws.FnExactTurnPile", spec := "fnExactTurnPile", apart := false, narrowed := true }
def FnExactTurnPileUptoSaid : Prop := fnExactTurnPileUptoRow.holds Try.pinned (OpenSpec.upto fnExactTurnPileSpec)

/-- 'laws.FnTurnPile', WHERE WHAT IT READS IS OF BULK AT MOST 1048576: true; the input reads as it did. -/
def fnTurnPileUptoRow : OpenClaim := { program := "ytnheolhgdinjgaa", sum := "a50b790636280b37f884b588ac9afdb34f68234e9abea4c366799fc9e9b30dd1", func := "loop.example/numberparts/laws.FnTurnPile", spec := "fnTurnPile", apart := false, narrowed := true }
def FnTurnPileUptoSaid : Prop := fnTurnPileUptoRow.holds Try.pinned (OpenSpec.upto fnTurnPileSpec)

/-- 'laws.FnExactLayersOf', WHERE WHAT IT READS IS OF BULK AT MOST 1048576: true; the input reads as it did. -/
def fnExactLayersOfUptoRow : OpenClaim := { program := "ytnheolhgdinjgaa", sum := "a50b790636280b37f884b588ac9afdb34f68234e9abea4c366799fc9e9b30dd1", func := "loop.example/numberparts/laws.FnExactLayersOf", spec := "fnExactLayersOf", apart := false, narrowed := true }
def FnExactLayersOfUptoSaid : Prop := fnExactLayersOfUptoRow.holds Try.pinned (OpenSpec.upto fnExactLayersOfSpec)

/-- 'laws.FnLayersOf', WHERE WHAT IT READS IS OF BULK AT MOST 1048576: true; the input reads as it did. -/
def fnLayersOfUptoRow : OpenClaim := { program := "ytnheolhgdinjgaa", sum := "a50b790636280b37f884b588ac9afdb34f68234e9abea4c366799fc9e9b30dd1", func := "loop.example/numberparts/laws.FnLayersOf", spec := "fnLayersOf", apart := false, narrowed := true }
def FnLayersOfUptoSaid : Prop := fnLayersOfUptoRow.holds Try.pinned (OpenSpec.upto fnLayersOfSpec)

/-- 'laws.FnExactIsEvenPile', WHERE WHAT IT READS IS OF BULK AT MOST 1048576: true; the input reads as it did. -/
def fnExactIsEvenPileUptoRow : OpenClaim := { program := "ytnheolhgdinjgaa", sum := "a50b790636280b37f884b588ac9afdb34f68234e9abea4c366799fc9e9b30dd1", func := "loop.example/numberparts/laws.FnExactIsEvenPile", spec := "fnExactIsEvenPile", apart := false, narrowed := true }
def FnExactIsEvenPileUptoSaid : Prop := fnExactIsEvenPileUptoRow.holds Try.pinned (OpenSpec.upto fnExactIsEvenPileSpec)

/-- 'laws.FnIsEvenPile', WHERE WHAT IT READS IS OF BULK AT MOST 1048576: true; the input reads as it did. -/
def fnIsEvenPileUptoRow : OpenClaim := { program := "ytnheolhgdinjgaa", sum := "a50b790636280b37f884b588ac9afdb34f68234e9abea4c366799fc9e9b30dd1", func := "loop.example/numberparts/laws.FnIsEvenPile", spec := "fnIsEvenPile", recurses := true, apart := false, narrowed := true }
def FnIsEvenPileUptoSaid : Prop := fnIsEvenPileUptoRow.holds Try.pinned (OpenSpec.upto fnIsEvenPileSpec)

end Rows
end Go.Proofs.Ytnheolhgdinjgaa
