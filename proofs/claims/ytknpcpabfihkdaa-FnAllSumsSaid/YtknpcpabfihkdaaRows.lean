/-
  No cell of these rows narrows 'for every input' (looked for: loops, veiled, ifaces, maps, wideKeys, modest, calm, conditions, laid).
  DERIVED. THE GIVEN ROWS OF THIS SEAT. 14 by the template 'for every input the law returns true; each argument reads behind the call as it read before'; 0 by the template 'total and deterministic' (their statements: YtknpcpabfihkdaaTotals.lean).
  GIVEN WITH THE SEED: the statements are not yours to turn. If you find one false, say at which input.
  Laid BY PROGRAM, IN A SANDBOX (cutbox-rows.mjs): the forced cells as the released guide's own fill.sh prints them over the translation aad20242d3dcf604… (all of the seat's roots in one cut). By AI agents, Wed Nov 11 2026. No macro, syntax, notation, axiom, sorry.
-/
import Derived.Test.YtknpcpabfihkdaaChecked
import GoSem.Claim
import GoSem.ClaimJoined
import GoSem.ClaimMapViews
import Derived.JoinedTies
import Derived.KernelRfl
namespace Go.Proofs.Ytknpcpabfihkdaa
/- THE CELL 'sum', in the pinned program and in every row, IS THE sha256 OF THE DUMP (.gsa) THAT YtknpcpabfihkdaaProg.lean LOADS. Nothing in Lean hashes anything: it is a label: what it is worth is what the hold of that sum in a sandbox is worth. -/
noncomputable def Try.pinned : Pinned := { name := "ytknpcpabfihkdaa", sum := "aad20242d3dcf60428eeb4b3da5751fc68800e5c5095408e53970261eafb01d5", checked := Try.checked }
namespace Rows
def none {H : Type} : Left H := { results := [], args := [] }

/-- 'laws.FnExactValidSums': WHATEVER THE INPUT: true; the input reads as it did. -/
def fnExactValidSumsSpec : ChangeSpec := { name := "fnExactValidSums", fn := fun _ => fun
  | [d] => { results := [.lit (.bool true)], args := [d] }
  | _ => none }
def fnExactValidSumsRow : OpenClaim := { program := "ytknpcpabfihkdaa", sum := "aad20242d3dcf60428eeb4b3da5751fc68800e5c5095408e53970261eafb01d5", func := "loop.example/numberparts/laws.FnExactValidSums", spec := "fnExactValidSums", apart := false }
def FnExactValidSumsSaid : Prop := fnExactValidSumsRow.holds Try.pinned (OpenSpec.ofChange fnExactValidSumsSpec)

/-- ITS FALSE NEIGHBOUR: 'it returns false'. Refute it at one input. -/
def fnExactValidSumsWrong : ChangeSpec := { name := "fnExactValidSums", fn := fun _ => fun
  | [d] => { results := [.lit (.bool false)], args := [d] }
  | _ => none }
def FnExactValidSumsWrongFalsely : Prop := fnExactValidSumsRow.holds Try.pinned (OpenSpec.ofChange fnExactValidSumsWrong)

/-- 'laws.FnExactMaskOf': WHATEVER THE INPUT: true; the input reads as it did. -/
def fnExactMaskOfSpec : ChangeSpec := { name := "fnExactMaskOf", fn := fun _ => fun
  | [d] => { results := [.lit (.bool true)], args := [d] }
  | _ => none }
def fnExactMaskOfRow : OpenClaim := { program := "ytknpcpabfihkdaa", sum := "aad20242d3dcf60428eeb4b3da5751fc68800e5c5095408e53970261eafb01d5", func := "loop.example/numberparts/laws.FnExactMaskOf", spec := "fnExactMaskOf", apart := false }
def FnExactMaskOfSaid : Prop := fnExactMaskOfRow.holds Try.pinned (OpenSpec.ofChange fnExactMaskOfSpec)

/-- ITS FALSE NEIGHBOUR: 'it returns false'. Refute it at one input. -/
def fnExactMaskOfWrong : ChangeSpec := { name := "fnExactMaskOf", fn := fun _ => fun
  | [d] => { results := [.lit (.bool false)], args := [d] }
  | _ => none }
def FnExactMaskOfWrongFalsely : Prop := fnExactMaskOfRow.holds Try.pinned (OpenSpec.ofChange fnExactMaskOfWrong)

/-- 'laws.FnExactSumsOfMask': WHATEVER THE INPUT: true; the input reads as it did. -/
def fnExactSumsOfMaskSpec : ChangeSpec := { name := "fnExactSumsOfMask", fn := fun _ => fun
  | [d1, d2] => { results := [.lit (.bool true)], args := [d1, d2] }
  | _ => none }
def fnExactSumsOfMaskRow : OpenClaim := { program := "ytknpcpabfihkdaa", sum := "aad20242d3dcf60428eeb4b3da5751fc68800e5c5095408e53970261eafb01d5", func := "loop.example/numberparts/laws.FnExactSumsOfMask", spec := "fnExactSumsOfMask", apart := false }
def FnExactSumsOfMaskSaid : Prop := fnExactSumsOfMaskRow.holds Try.pinned (OpenSpec.ofChange fnExactSumsOfMaskSpec)

/-- ITS FALSE NEIGHBOUR: 'it returns false'. Refute it at one input. -/
def fnExactSumsOfMaskWrong : ChangeSpec := { name := "fnExactSumsOfMask", fn := fun _ => fun
  | [d1, d2] => { results := [.lit (.bool false)], args := [d1, d2] }
  | _ => none }
def FnExactSumsOfMaskWrongFalsely : Prop := fnExactSumsOfMaskRow.holds Try.pinned (OpenSpec.ofChange fnExactSumsOfMaskWrong)

/-- 'laws.FnExactAllSums': WHATEVER THE INPUT: true; the input reads as it did. -/
def fnExactAllSumsSpec : ChangeSpec := { name := "fnExactAllSums", fn := fun _ => fun
  | [d] => { results := [.lit (.bool true)], args := [d] }
  | _ => none }
def fnExactAllSumsRow : OpenClaim := { program := "ytknpcpabfihkdaa", sum := "aad20242d3dcf60428eeb4b3da5751fc68800e5c5095408e53970261eafb01d5", func := "loop.example/numberparts/laws.FnExactAllSums", spec := "fnExactAllSums", apart := false }
def FnExactAllSumsSaid : Prop := fnExactAllSumsRow.holds Try.pinned (OpenSpec.ofChange fnExactAllSumsSpec)

/-- ITS FALSE NEIGHBOUR: 'it returns false'. Refute it at one input. -/
def fnExactAllSumsWrong : ChangeSpec := { name := "fnExactAllSums", fn := fun _ => fun
  | [d] => { results := [.lit (.bool false)], args := [d] }
  | _ => none }
def FnExactAllSumsWrongFalsely : Prop := fnExactAllSumsRow.holds Try.pinned (OpenSpec.ofChange fnExactAllSumsWrong)

/-- 'laws.FnExactOppositeSums': WHATEVER THE INPUT: true; the input reads as it did. -/
def fnExactOppositeSumsSpec : ChangeSpec := { name := "fnExactOppositeSums", fn := fun _ => fun
  | [d] => { results := [.lit (.bool true)], args := [d] }
  | _ => none }
def fnExactOppositeSumsRow : OpenClaim := { program := "ytknpcpabfihkdaa", sum := "aad20242d3dcf60428eeb4b3da5751fc68800e5c5095408e53970261eafb01d5", func := "loop.example/numberparts/laws.FnExactOppositeSums", spec := "fnExactOppositeSums", apart := false }
def FnExactOppositeSumsSaid : Prop := fnExactOppositeSumsRow.holds Try.pinned (OpenSpec.ofChange fnExactOppositeSumsSpec)

/-- ITS FALSE NEIGHBOUR: 'it returns false'. Refute it at one input. -/
def fnExactOppositeSumsWrong : ChangeSpec := { name := "fnExactOppositeSums", fn := fun _ => fun
  | [d] => { results := [.lit (.bool false)], args := [d] }
  | _ => none }
def FnExactOppositeSumsWrongFalsely : Prop := fnExactOppositeSumsRow.holds Try.pinned (OpenSpec.ofChange fnExactOppositeSumsWrong)

/-- 'laws.FnExactTurnSums': WHATEVER THE INPUT: true; the input reads as it did. -/
def fnExactTurnSumsSpec : ChangeSpec := { name := "fnExactTurnSums", fn := fun _ => fun
  | [d] => { results := [.lit (.bool true)], args := [d] }
  | _ => none }
def fnExactTurnSumsRow : OpenClaim := { program := "ytknpcpabfihkdaa", sum := "aad20242d3dcf60428eeb4b3da5751fc68800e5c5095408e53970261eafb01d5", func := "loop.example/numberparts/laws.FnExactTurnSums", spec := "fnExactTurnSums", apart := false }
def FnExactTurnSumsSaid : Prop := fnExactTurnSumsRow.holds Try.pinned (OpenSpec.ofChange fnExactTurnSumsSpec)

/-- ITS FALSE NEIGHBOUR: 'it returns false'. Refute it at one input. -/
def fnExactTurnSumsWrong : ChangeSpec := { name := "fnExactTurnSums", fn := fun _ => fun
  | [d] => { results := [.lit (.bool false)], args := [d] }
  | _ => none }
def FnExactTurnSumsWrongFalsely : Prop := fnExactTurnSumsRow.holds Try.pinned (OpenSpec.ofChange fnExactTurnSumsWrong)

/-- 'laws.FnExactLinkSums': WHATEVER THE INPUT: true; the input reads as it did. -/
def fnExactLinkSumsSpec : ChangeSpec := { name := "fnExactLinkSums", fn := fun _ => fun
  | [d1, d2, d3] => { results := [.lit (.bool true)], args := [d1, d2, d3] }
  | _ => none }
def fnExactLinkSumsRow : OpenClaim := { program := "ytknpcpabfihkdaa", sum := "aad20242d3dcf60428eeb4b3da5751fc68800e5c5095408e53970261eafb01d5", func := "loop.example/numberparts/laws.FnExactLinkSums", spec := "fnExactLinkSums", apart := false }
def FnExactLinkSumsSaid : Prop := fnExactLinkSumsRow.holds Try.pinned (OpenSpec.ofChange fnExactLinkSumsSpec)

/-- ITS FALSE NEIGHBOUR: 'it returns false'. Refute it at one input. -/
def fnExactLinkSumsWrong : ChangeSpec := { name := "fnExactLinkSums", fn := fun _ => fun
  | [d1, d2, d3] => { results := [.lit (.bool false)], args := [d1, d2, d3] }
  | _ => none }
def FnExactLinkSumsWrongFalsely : Prop := fnExactLinkSumsRow.holds Try.pinned (OpenSpec.ofChange fnExactLinkSumsWrong)

/-- 'laws.FnExactFinerSums': WHATEVER THE INPUT: true; the input reads as it did. -/
def fnExactFinerSumsSpec : ChangeSpec := { name := "fnExactFinerSums", fn := fun _ => fun
  | [d1, d2] => { results := [.lit (.bool true)], args := [d1, d2] }
  | _ => none }
def fnExactFinerSumsRow : OpenClaim := { program := "ytknpcpabfihkdaa", sum := "aad20242d3dcf60428eeb4b3da5751fc68800e5c5095408e53970261eafb01d5", func := "loop.example/numberparts/laws.FnExactFinerSums", spec := "fnExactFinerSums", apart := false }
def FnExactFinerSumsSaid : Prop := fnExactFinerSumsRow.holds Try.pinned (OpenSpec.ofChange fnExactFinerSumsSpec)

/-- ITS FALSE NEIGHBOUR: 'it returns false'. Refute it at one input. -/
def fnExactFinerSumsWrong : ChangeSpec := { name := "fnExactFinerSums", fn := fun _ => fun
  | [d1, d2] => { results := [.lit (.bool false)], args := [d1, d2] }
  | _ => none }
def FnExactFinerSumsWrongFalsely : Prop := fnExactFinerSumsRow.holds Try.pinned (OpenSpec.ofChange fnExactFinerSumsWrong)

/-- 'laws.FnMaskOf': WHATEVER THE INPUT: true; the input reads as it did. -/
def fnMaskOfSpec : ChangeSpec := { name := "fnMaskOf", fn := fun _ => fun
  | [d] => { results := [.lit (.bool true)], args := [d] }
  | _ => none }
def fnMaskOfRow : OpenClaim := { program := "ytknpcpabfihkdaa", sum := "aad20242d3dcf60428eeb4b3da5751fc68800e5c5095408e53970261eafb01d5", func := "loop.example/numberparts/laws.FnMaskOf", spec := "fnMaskOf", apart := false }
def FnMaskOfSaid : Prop := fnMaskOfRow.holds Try.pinned (OpenSpec.ofChange fnMaskOfSpec)

/-- ITS FALSE NEIGHBOUR: 'it returns false'. Refute it at one input. -/
def fnMaskOfWrong : ChangeSpec := { name := "fnMaskOf", fn := fun _ => fun
  | [d] => { results := [.lit (.bool false)], args := [d] }
  | _ => none }
def FnMaskOfWrongFalsely : Prop := fnMaskOfRow.holds Try.pinned (OpenSpec.ofChange fnMaskOfWrong)

/-- 'laws.FnSumsOfMask': WHATEVER THE INPUT: true; the input reads as it did. -/
def fnSumsOfMaskSpec : ChangeSpec := { name := "fnSumsOfMask", fn := fun _ => fun
  | [d] => { results := [.lit (.bool true)], args := [d] }
  | _ => none }
def fnSumsOfMaskRow : OpenClaim := { program := "ytknpcpabfihkdaa", sum := "aad20242d3dcf60428eeb4b3da5751fc68800e5c5095408e53970261eafb01d5", func := "loop.example/numberparts/laws.FnSumsOfMask", spec := "fnSumsOfMask", apart := false }
def FnSumsOfMaskSaid : Prop := fnSumsOfMaskRow.holds Try.pinned (OpenSpec.ofChange fnSumsOfMaskSpec)

/-- ITS FALSE NEIGHBOUR: 'it returns false'. Refute it at one input. -/
def fnSumsOfMaskWrong : ChangeSpec := { name := "fnSumsOfMask", fn := fun _ => fun
  | [d] => { results := [.lit (.bool false)], args := [d] }
  | _ => none }
def FnSumsOfMaskWrongFalsely : Prop := fnSumsOfMaskRow.holds Try.pinned (OpenSpec.ofChange fnSumsOfMaskWrong)

/-- 'laws.FnAllSums': WHATEVER THE INPUT: true; the input reads as it did. -/
def fnAllSumsSpec : ChangeSpec := { name := "fnAllSums", fn := fun _ => fun
  | [d] => { results := [.lit (.bool true)], args := [d] }
  | _ => none }
def fnAllSumsRow : OpenClaim := { program := "ytknpcpabfihkdaa", sum := "aad20242d3dcf60428eeb4b3da5751fc68800e5c5095408e53970261eafb01d5", func := "loop.example/numberparts/laws.FnAllSums", spec := "fnAllSums", apart := false }
def FnAllSumsSaid : Prop := fnAllSumsRow.holds Try.pinned (OpenSpec.ofChange fnAllSumsSpec)

/-- ITS FALSE NEIGHBOUR: 'it returns false'. Refute it at one input. -/
def fnAllSumsWrong : ChangeSpec := { name := "fnAllSums", fn := fun _ => fun
  | [d] => { results := [.lit (.bool false)], args := [d] }
  | _ => none }
def FnAllSumsWrongFalsely : Prop := fnAllSumsRow.holds Try.pinned (OpenSpec.ofChange fnAllSumsWrong)

/-- 'laws.FnOppositeSums': WHATEVER THE INPUT: true; the input reads as it did. -/
def fnOppositeSumsSpec : ChangeSpec := { name := "fnOppositeSums", fn := fun _ => fun
  | [d] => { results := [.lit (.bool true)], args := [d] }
  | _ => none }
def fnOppositeSumsRow : OpenClaim := { program := "ytknpcpabfihkdaa", sum := "aad20242d3dcf60428eeb4b3da5751fc68800e5c5095408e53970261eafb01d5", func := "loop.example/numberparts/laws.FnOppositeSums", spec := "fnOppositeSums", apart := false }
def FnOppositeSumsSaid : Prop := fnOppositeSumsRow.holds Try.pinned (OpenSpec.ofChange fnOppositeSumsSpec)

/-- ITS FALSE NEIGHBOUR: 'it returns false'. Refute it at one input. -/
def fnOppositeSumsWrong : ChangeSpec := { name := "fnOppositeSums", fn := fun _ => fun
  | [d] => { results := [.lit (.bool false)], args := [d] }
  | _ => none }
def FnOppositeSumsWrongFalsely : Prop := fnOppositeSumsRow.holds Try.pinned (OpenSpec.ofChange fnOppositeSumsWrong)

/-- 'laws.FnTurnSums': WHATEVER THE INPUT: true; the input reads as it did. -/
def fnTurnSumsSpec : ChangeSpec := { name := "fnTurnSums", fn := fun _ => fun
  | [d] => { results := [.lit (.bool true)], args := [d] }
  | _ => none }
def fnTurnSumsRow : OpenClaim := { program := "ytknpcpabfihkdaa", sum := "aad20242d3dcf60428eeb4b3da5751fc68800e5c5095408e53970261eafb01d5", func := "loop.example/numberparts/laws.FnTurnSums", spec := "fnTurnSums", apart := false }
def FnTurnSumsSaid : Prop := fnTurnSumsRow.holds Try.pinned (OpenSpec.ofChange fnTurnSumsSpec)

/-- ITS FALSE NEIGHBOUR: 'it returns false'. Refute it at one input. -/
def fnTurnSumsWrong : ChangeSpec := { name := "fnTurnSums", fn := fun _ => fun
  | [d] => { results := [.lit (.bool false)], args := [d] }
  | _ => none }
def FnTurnSumsWrongFalsely : Prop := fnTurnSumsRow.holds Try.pinned (OpenSpec.ofChange fnTurnSumsWrong)

/-- 'laws.FnLinkSums': WHATEVER THE INPUT: true; the input reads as it did. -/
def fnLinkSumsSpec : ChangeSpec := { name := "fnLinkSums", fn := fun _ => fun
  | [d] => { results := [.lit (.bool true)], args := [d] }
  | _ => none }
def fnLinkSumsRow : OpenClaim := { program := "ytknpcpabfihkdaa", sum := "aad20242d3dcf60428eeb4b3da5751fc68800e5c5095408e53970261eafb01d5", func := "loop.example/numberparts/laws.FnLinkSums", spec := "fnLinkSums", apart := false }
def FnLinkSumsSaid : Prop := fnLinkSumsRow.holds Try.pinned (OpenSpec.ofChange fnLinkSumsSpec)

/-- ITS FALSE NEIGHBOUR: 'it returns false'. Refute it at one input. -/
def fnLinkSumsWrong : ChangeSpec := { name := "fnLinkSums", fn := fun _ => fun
  | [d] => { results := [.lit (.bool false)], args := [d] }
  | _ => none }
def FnLinkSumsWrongFalsely : Prop := fnLinkSumsRow.holds Try.pinned (OpenSpec.ofChange fnLinkSumsWrong)

/- THE SECOND FORM. 'bulk': how many values and letters a reading holds, each counted each time it is reached (what is shared counts as often as it is met; a slice's spare places count too). A statement '..UptoSaid' is the law's where the arguments, and the package variables that the reading takes, are together of bulk at most 1048576: NARROWER than '..Said'. Prove '..Said' where nothing that the law and all that it calls make is longer than what came in: it says more and counts as full. Else prove '..UptoSaid'. A law counts once. -/
mutual
def uptoBulk {H : Type} : DataW H → Nat
  | .lit (.string bytes) => bytes.length + 1
  | .lit _ => 1
  | .nil => 1
  | .ptr d => uptoBulk d + 1
  | .slice elems spare => uptoBulkAll elems + uptoBulkAll spare + 1
  | .agg parts => uptoBulkAll parts + 1
  | .iface _ d => uptoBulk d + 1
  | .map entries => uptoBulkEntries entries + 1
  | .held _ => 1
def uptoBulkAll {H : Type} : List (DataW H) → Nat
  | [] => 0
  | d :: r => uptoBulk d + uptoBulkAll r
def uptoBulkEntries {H : Type} : List (Lit × DataW H) → Nat
  | [] => 0
  | x :: r => uptoBulkEntry x + uptoBulkEntries r
def uptoBulkEntry {H : Type} : Lit × DataW H → Nat
  | (.string bytes, d) => bytes.length + uptoBulk d + 1
  | (_, d) => uptoBulk d + 1
 end
def uptoSmall : (H : Type) → List (DataW H) → Bool := fun _ ds => decide (uptoBulkAll ds ≤ 1048576)
def OpenSpec.upto (s : _root_.Go.ChangeSpec) : _root_.Go.OpenSpec := { _root_.Go.OpenSpec.ofChange s with cond := some uptoSmall }

/-- 'laws.FnExactValidSums', WHERE WHAT IT READS IS OF BULK AT MOST 1048576: true; the input reads as it did. -/
def fnExactValidSumsUptoRow : OpenClaim := { program := "ytknpcpabfihkdaa", sum := "aad20242d3dcf60428eeb4b3da5751fc68800e5c5095408e53970261eafb01d5", func := "loop.example/numberparts/laws.FnExactValidSums", spec := "fnExactValidSums", apart := false, narrowed := true }
def FnExactValidSumsUptoSaid : Prop := fnExactValidSumsUptoRow.holds Try.pinned (OpenSpec.upto fnExactValidSumsSpec)

/-- 'laws.FnExactMaskOf', WHERE WHAT IT READS IS OF BULK AT MOST 1048576: true; the input reads as it did. -/
def fnExactMaskOfUptoRow : OpenClaim := { program := "ytknpcpabfihkdaa", sum := "aad20242d3dcf60428eeb4b3da5751fc68800e5c5095408e53970261eafb01d5", func := "loop.example/numberparts/laws.FnExactMaskOf", spec := "fnExactMaskOf", apart := false, narrowed := true }
def FnExactMaskOfUptoSaid : Prop := fnExactMaskOfUptoRow.holds Try.pinned (OpenSpec.upto fnExactMaskOfSpec)

/-- 'laws.FnExactSumsOfMask', WHERE WHAT IT READS IS OF BULK AT MOST 1048576: true; the input reads as it did. -/
def fnExactSumsOfMaskUptoRow : OpenClaim := { program := "ytknpcpabfihkdaa", sum := "aad20242d3dcf60428eeb4b3da5751fc68800e5c5095408e53970261eafb01d5", func := "loop.example/numberparts/laws.FnExactSumsOfMask", spec := "fnExactSumsOfMask", apart := false, narrowed := true }
def FnExactSumsOfMaskUptoSaid : Prop := fnExactSumsOfMaskUptoRow.holds Try.pinned (OpenSpec.upto fnExactSumsOfMaskSpec)

/-- 'laws.FnExactAllSums', WHERE WHAT IT READS IS OF BULK AT MOST 1048576: true; the input reads as it did. -/
def fnExactAllSumsUptoRow : OpenClaim := { program := "ytknpcpabfihkdaa", sum := "aad20242d3dcf60428eeb4b3da5751fc68800e5c5095408e53970261eafb01d5", func := "loop.example/numberparts/laws.FnExactAllSums", spec := "fnExactAllSums", apart := false, narrowed := true }
def FnExactAllSumsUptoSaid : Prop := fnExactAllSumsUptoRow.holds Try.pinned (OpenSpec.upto fnExactAllSumsSpec)

/-- 'laws.FnExactOppositeSums', WHERE WHAT IT READS IS OF BULK AT MOST 1048576: true; the input reads as it did. -/
def fnExactOppositeSumsUptoRow : OpenClaim := { program := "ytknpcpabfihkdaa", sum := "aad20242d3dcf60428eeb4b3da5751fc68800e5c5095408e53970261eafb01d5", func := "loop.example/numberparts/laws.FnExactOppositeSums", spec := "fnExactOppositeSums", apart := false, narrowed := true }
def FnExactOppositeSumsUptoSaid : Prop := fnExactOppositeSumsUptoRow.holds Try.pinned (OpenSpec.upto fnExactOppositeSumsSpec)

/-- 'laws.FnExactTurnSums', WHERE WHAT IT READS IS OF BULK AT MOST 1048576: true; the input reads as it did. -/
def fnExactTurnSumsUptoRow : OpenClaim := { program := "ytknpcpabfihkdaa", sum := "aad20242d3dcf60428eeb4b3da5751fc68800e5c5095408e53970261eafb01d5", func := "loop.example/numberparts/laws.FnExactTurnSums", spec := "fnExactTurnSums", apart := false, narrowed := true }
def FnExactTurnSumsUptoSaid : Prop := fnExactTurnSumsUptoRow.holds Try.pinned (OpenSpec.upto fnExactTurnSumsSpec)

/-- 'laws.FnExactLinkSums', WHERE WHAT IT READS IS OF BULK AT MOST 1048576: true; the input reads as it did. -/
def fnExactLinkSumsUptoRow : OpenClaim := { program := "ytknpcpabfihkdaa", sum := "aad20242d3dcf60428eeb4b3da5751fc68800e5c5095408e53970261eafb01d5", func := "loop.example/numberparts/laws.FnExactLinkSums", spec := "fnExactLinkSums", apart := false, narrowed := true }
def FnExactLinkSumsUptoSaid : Prop := fnExactLinkSumsUptoRow.holds Try.pinned (OpenSpec.upto fnExactLinkSumsSpec)

/-- 'laws.FnExactFinerSums', WHERE WHAT IT READS IS OF BULK AT MOST 1048576: true; the input reads as it did. -/
def fnExactFinerSumsUptoRow : OpenClaim := { program := "ytknpcpabfihkdaa", sum := "aad20242d3dcf60428eeb4b3da5751fc68800e5c5095408e53970261eafb01d5", func := "loop.example/numberparts/laws.FnExactFinerSums", spec := "fnExactFinerSums", apart := false, narrowed := true }
def FnExactFinerSumsUptoSaid : Prop := fnExactFinerSumsUptoRow.holds Try.pinned (OpenSpec.upto fnExactFinerSumsSpec)

/-- 'laws.FnMaskOf', WHERE WHAT IT READS IS OF BULK AT MOST 1048576: true; the input reads as it did. -/
def fnMaskOfUptoRow : OpenClaim := { program := "ytknpcpabfihkdaa", sum := "aad20242d3dcf60428eeb4b3da5751fc68800e5c5095408e53970261eafb01d5", func := "loop.example/numberparts/laws.FnMaskOf", spec := "fnMaskOf", apart := false, narrowed := true }
def FnMaskOfUptoSaid : Prop := fnMaskOfUptoRow.holds Try.pinned (OpenSpec.upto fnMaskOfSpec)

/-- 'laws.FnSumsOfMask', WHERE WHAT IT READS IS OF BULK AT MOST 1048576: true; the input reads as it did. -/
def fnSumsOfMaskUptoRow : OpenClaim := { program := "ytknpcpabfihkdaa", sum := "aad20242d3dcf60428eeb4b3da5751fc68800e5c5095408e53970261eafb01d5", func := "loop.example/numberparts/laws.FnSumsOfMask", spec := "fnSumsOfMask", apart := false, narrowed := true }
def FnSumsOfMaskUptoSaid : Prop := fnSumsOfMaskUptoRow.holds Try.pinned (OpenSpec.upto fnSumsOfMaskSpec)

/-- 'laws.FnAllSums', WHERE WHAT IT READS IS OF BULK AT MOST 1048576: true; the input reads as it did. -/
def fnAllSumsUptoRow : OpenClaim := { program := "ytknpcpabfihkdaa", sum := "aad20242d3dcf60428eeb4b3da5751fc68800e5c5095408e53970261eafb01d5", func := "loop.example/numberparts/laws.FnAllSums", spec := "fnAllSums", apart := false, narrowed := true }
def FnAllSumsUptoSaid : Prop := fnAllSumsUptoRow.holds Try.pinned (OpenSpec.upto fnAllSumsSpec)

/-- 'laws.FnOppositeSums', WHERE WHAT IT READS IS OF BULK AT MOST 1048576: true; the input reads as it did. -/
def fnOppositeSumsUptoRow : OpenClaim := { program := "ytknpcpabfihkdaa", sum := "aad20242d3dcf60428eeb4b3da5751fc68800e5c5095408e53970261eafb01d5", func := "loop.example/numberparts/laws.FnOppositeSums", spec := "fnOppositeSums", apart := false, narrowed := true }
def FnOppositeSumsUptoSaid : Prop := fnOppositeSumsUptoRow.holds Try.pinned (OpenSpec.upto fnOppositeSumsSpec)

/-- 'laws.FnTurnSums', WHERE WHAT IT READS IS OF BULK AT MOST 1048576: true; the input reads as it did. -/
def fnTurnSumsUptoRow : OpenClaim := { program := "ytknpcpabfihkdaa", sum := "aad20242d3dcf60428eeb4b3da5751fc68800e5c5095408e53970261eafb01d5", func := "loop.example/numberparts/laws.FnTurnSums", spec := "fnTurnSums", apart := false, narrowed := true }
def FnTurnSumsUptoSaid : Prop := fnTurnSumsUptoRow.holds Try.pinned (OpenSpec.upto fnTurnSumsSpec)

/-- 'laws.FnLinkSums', WHERE WHAT IT READS IS OF BULK AT MOST 1048576: true; the input reads as it did. -/
def fnLinkSumsUptoRow : OpenClaim := { program := "ytknpcpabfihkdaa", sum := "aad20242d3dcf60428eeb4b3da5751fc68800e5c5095408e53970261eafb01d5", func := "loop.example/numberparts/laws.FnLinkSums", spec := "fnLinkSums", apart := false, narrowed := true }
def FnLinkSumsUptoSaid : Prop := fnLinkSumsUptoRow.holds Try.pinned (OpenSpec.upto fnLinkSumsSpec)

end Rows
end Go.Proofs.Ytknpcpabfihkdaa
