/-
  No cell of these rows narrows 'for every input' (looked for: loops, veiled, ifaces, maps, wideKeys, modest, calm, conditions, laid).
  DERIVED. THE GIVEN ROWS OF THIS SEAT. 10 by the template 'for every input the law returns true; each argument reads behind the call as it read before'; 0 by the template 'total and deterministic' (their statements: YtcjnmconehfbgaaTotals.lean).
  GIVEN WITH THE SEED: the statements are not yours to turn. If you find one false, say at which input.
  Laid BY PROGRAM, IN A SANDBOX (cutbox-rows.mjs): the forced cells as the released guide's own fill.sh prints them over the translation 5536ff743fe0da0f… (all of the seat's roots in one cut). By AI agents, Wed Nov 11 2026. No macro, syntax, notation, axiom, sorry.
-/
import Derived.Test.YtcjnmconehfbgaaChecked
import GoSem.Claim
import GoSem.ClaimJoined
import GoSem.ClaimMapViews
import Derived.JoinedTies
import Derived.KernelRfl
namespace Go.Proofs.Ytcjnmconehfbgaa
/- THE CELL 'sum', in the pinned program and in every row, IS THE sha256 OF THE DUMP (.gsa) THAT YtcjnmconehfbgaaProg.lean LOADS. Nothing in Lean hashes anything: it is a label: what it is worth is what the hold of that sum in a sandbox is worth. -/
noncomputable def Try.pinned : Pinned := { name := "ytcjnmconehfbgaa", sum := "5536ff743fe0da0f4de959be52fdb80c8acdc2376545de58b329668c58d58e81", checked := Try.checked }
namespace Rows
def none {H : Type} : Left H := { results := [], args := [] }

/-- 'laws.FnExactRankSpread': WHATEVER THE INPUT: true; the input reads as it did. -/
def fnExactRankSpreadSpec : ChangeSpec := { name := "fnExactRankSpread", fn := fun _ => fun
  | [d1, d2] => { results := [.lit (.bool true)], args := [d1, d2] }
  | _ => none }
def fnExactRankSpreadRow : OpenClaim := { program := "ytcjnmconehfbgaa", sum := "5536ff743fe0da0f4de959be52fdb80c8acdc2376545de58b329668c58d58e81", func := "loop.example/numberparts/laws.FnExactRankSpread", spec := "fnExactRankSpread", unfollowed := true, recurses := true, apart := false }
def FnExactRankSpreadSaid : Prop := fnExactRankSpreadRow.holds Try.pinned (OpenSpec.ofChange fnExactRankSpreadSpec)

/-- ITS FALSE NEIGHBOUR: 'it returns false'. Refute it at one input. -/
def fnExactRankSpreadWrong : ChangeSpec := { name := "fnExactRankSpread", fn := fun _ => fun
  | [d1, d2] => { results := [.lit (.bool false)], args := [d1, d2] }
  | _ => none }
def FnExactRankSpreadWrongFalsely : Prop := fnExactRankSpreadRow.holds Try.pinned (OpenSpec.ofChange fnExactRankSpreadWrong)

/-- 'laws.FnRankSpread': WHATEVER THE INPUT: true; the input reads as it did. -/
def fnRankSpreadSpec : ChangeSpec := { name := "fnRankSpread", fn := fun _ => fun
  | [d] => { results := [.lit (.bool true)], args := [d] }
  | _ => none }
def fnRankSpreadRow : OpenClaim := { program := "ytcjnmconehfbgaa", sum := "5536ff743fe0da0f4de959be52fdb80c8acdc2376545de58b329668c58d58e81", func := "loop.example/numberparts/laws.FnRankSpread", spec := "fnRankSpread", unfollowed := true, recurses := true, apart := false }
def FnRankSpreadSaid : Prop := fnRankSpreadRow.holds Try.pinned (OpenSpec.ofChange fnRankSpreadSpec)

/-- ITS FALSE NEIGHBOUR: 'it returns false'. Refute it at one input. -/
def fnRankSpreadWrong : ChangeSpec := { name := "fnRankSpread", fn := fun _ => fun
  | [d] => { results := [.lit (.bool false)], args := [d] }
  | _ => none }
def FnRankSpreadWrongFalsely : Prop := fnRankSpreadRow.holds Try.pinned (OpenSpec.ofChange fnRankSpreadWrong)

/-- 'laws.FnExactCrankSpread': WHATEVER THE INPUT: true; the input reads as it did. -/
def fnExactCrankSpreadSpec : ChangeSpec := { name := "fnExactCrankSpread", fn := fun _ => fun
  | [d1, d2] => { results := [.lit (.bool true)], args := [d1, d2] }
  | _ => none }
def fnExactCrankSpreadRow : OpenClaim := { program := "ytcjnmconehfbgaa", sum := "5536ff743fe0da0f4de959be52fdb80c8acdc2376545de58b329668c58d58e81", func := "loop.example/numberparts/laws.FnExactCrankSpread", spec := "fnExactCrankSpread", unfollowed := true, recurses := true, apart := false }
def FnExactCrankSpreadSaid : Prop := fnExactCrankSpreadRow.holds Try.pinned (OpenSpec.ofChange fnExactCrankSpreadSpec)

/-- ITS FALSE NEIGHBOUR: 'it returns false'. Refute it at one input. -/
def fnExactCrankSpreadWrong : ChangeSpec := { name := "fnExactCrankSpread", fn := fun _ => fun
  | [d1, d2] => { results := [.lit (.bool false)], args := [d1, d2] }
  | _ => none }
def FnExactCrankSpreadWrongFalsely : Prop := fnExactCrankSpreadRow.holds Try.pinned (OpenSpec.ofChange fnExactCrankSpreadWrong)

/-- 'laws.FnCrankSpread': WHATEVER THE INPUT: true; the input reads as it did. -/
def fnCrankSpreadSpec : ChangeSpec := { name := "fnCrankSpread", fn := fun _ => fun
  | [d] => { results := [.lit (.bool true)], args := [d] }
  | _ => none }
def fnCrankSpreadRow : OpenClaim := { program := "ytcjnmconehfbgaa", sum := "5536ff743fe0da0f4de959be52fdb80c8acdc2376545de58b329668c58d58e81", func := "loop.example/numberparts/laws.FnCrankSpread", spec := "fnCrankSpread", unfollowed := true, recurses := true, apart := false }
def FnCrankSpreadSaid : Prop := fnCrankSpreadRow.holds Try.pinned (OpenSpec.ofChange fnCrankSpreadSpec)

/-- ITS FALSE NEIGHBOUR: 'it returns false'. Refute it at one input. -/
def fnCrankSpreadWrong : ChangeSpec := { name := "fnCrankSpread", fn := fun _ => fun
  | [d] => { results := [.lit (.bool false)], args := [d] }
  | _ => none }
def FnCrankSpreadWrongFalsely : Prop := fnCrankSpreadRow.holds Try.pinned (OpenSpec.ofChange fnCrankSpreadWrong)

/-- 'laws.FnExactBoxRow': WHATEVER THE INPUT: true; the input reads as it did. -/
def fnExactBoxRowSpec : ChangeSpec := { name := "fnExactBoxRow", fn := fun _ => fun
  | [d1, d2] => { results := [.lit (.bool true)], args := [d1, d2] }
  | _ => none }
def fnExactBoxRowRow : OpenClaim := { program := "ytcjnmconehfbgaa", sum := "5536ff743fe0da0f4de959be52fdb80c8acdc2376545de58b329668c58d58e81", func := "loop.example/numberparts/laws.FnExactBoxRow", spec := "fnExactBoxRow", unfollowed := true, recurses := true, apart := false }
def FnExactBoxRowSaid : Prop := fnExactBoxRowRow.holds Try.pinned (OpenSpec.ofChange fnExactBoxRowSpec)

/-- ITS FALSE NEIGHBOUR: 'it returns false'. Refute it at one input. -/
def fnExactBoxRowWrong : ChangeSpec := { name := "fnExactBoxRow", fn := fun _ => fun
  | [d1, d2] => { results := [.lit (.bool false)], args := [d1, d2] }
  | _ => none }
def FnExactBoxRowWrongFalsely : Prop := fnExactBoxRowRow.holds Try.pinned (OpenSpec.ofChange fnExactBoxRowWrong)

/-- 'laws.FnBoxRow': WHATEVER THE INPUT: true; the input reads as it did. -/
def fnBoxRowSpec : ChangeSpec := { name := "fnBoxRow", fn := fun _ => fun
  | [d] => { results := [.lit (.bool true)], args := [d] }
  | _ => none }
def fnBoxRowRow : OpenClaim := { program := "ytcjnmconehfbgaa", sum := "5536ff743fe0da0f4de959be52fdb80c8acdc2376545de58b329668c58d58e81", func := "loop.example/numberparts/laws.FnBoxRow", spec := "fnBoxRow", unfollowed := true, recurses := true, apart := false }
def FnBoxRowSaid : Prop := fnBoxRowRow.holds Try.pinned (OpenSpec.ofChange fnBoxRowSpec)

/-- ITS FALSE NEIGHBOUR: 'it returns false'. Refute it at one input. -/
def fnBoxRowWrong : ChangeSpec := { name := "fnBoxRow", fn := fun _ => fun
  | [d] => { results := [.lit (.bool false)], args := [d] }
  | _ => none }
def FnBoxRowWrongFalsely : Prop := fnBoxRowRow.holds Try.pinned (OpenSpec.ofChange fnBoxRowWrong)

/-- 'laws.FnExactBoxParts': WHATEVER THE INPUT: true; the input reads as it did. -/
def fnExactBoxPartsSpec : ChangeSpec := { name := "fnExactBoxParts", fn := fun _ => fun
  | [d1, d2] => { results := [.lit (.bool true)], args := [d1, d2] }
  | _ => none }
def fnExactBoxPartsRow : OpenClaim := { program := "ytcjnmconehfbgaa", sum := "5536ff743fe0da0f4de959be52fdb80c8acdc2376545de58b329668c58d58e81", func := "loop.example/numberparts/laws.FnExactBoxParts", spec := "fnExactBoxParts", unfollowed := true, recurses := true, apart := false }
def FnExactBoxPartsSaid : Prop := fnExactBoxPartsRow.holds Try.pinned (OpenSpec.ofChange fnExactBoxPartsSpec)

/-- ITS FALSE NEIGHBOUR: 'it returns false'. Refute it at one input. -/
def fnExactBoxPartsWrong : ChangeSpec := { name := "fnExactBoxParts", fn := fun _ => fun
  | [d1, d2] => { results := [.lit (.bool false)], args := [d1, d2] }
  | _ => none }
def FnExactBoxPartsWrongFalsely : Prop := fnExactBoxPartsRow.holds Try.pinned (OpenSpec.ofChange fnExactBoxPartsWrong)

/-- 'laws.FnBoxParts': WHATEVER THE INPUT: true; the input reads as it did. -/
def fnBoxPartsSpec : ChangeSpec := { name := "fnBoxParts", fn := fun _ => fun
  | [d] => { results := [.lit (.bool true)], args := [d] }
  | _ => none }
def fnBoxPartsRow : OpenClaim := { program := "ytcjnmconehfbgaa", sum := "5536ff743fe0da0f4de959be52fdb80c8acdc2376545de58b329668c58d58e81", func := "loop.example/numberparts/laws.FnBoxParts", spec := "fnBoxParts", unfollowed := true, recurses := true, apart := false }
def FnBoxPartsSaid : Prop := fnBoxPartsRow.holds Try.pinned (OpenSpec.ofChange fnBoxPartsSpec)

/-- ITS FALSE NEIGHBOUR: 'it returns false'. Refute it at one input. -/
def fnBoxPartsWrong : ChangeSpec := { name := "fnBoxParts", fn := fun _ => fun
  | [d] => { results := [.lit (.bool false)], args := [d] }
  | _ => none }
def FnBoxPartsWrongFalsely : Prop := fnBoxPartsRow.holds Try.pinned (OpenSpec.ofChange fnBoxPartsWrong)

/-- 'laws.FnBoxPiles': WHATEVER THE INPUT: true; the input reads as it did. -/
def fnBoxPilesSpec : ChangeSpec := { name := "fnBoxPiles", fn := fun _ => fun
  | [d] => { results := [.lit (.bool true)], args := [d] }
  | _ => none }
def fnBoxPilesRow : OpenClaim := { program := "ytcjnmconehfbgaa", sum := "5536ff743fe0da0f4de959be52fdb80c8acdc2376545de58b329668c58d58e81", func := "loop.example/numberparts/laws.FnBoxPiles", spec := "fnBoxPiles", unfollowed := true, recurses := true, apart := false }
def FnBoxPilesSaid : Prop := fnBoxPilesRow.holds Try.pinned (OpenSpec.ofChange fnBoxPilesSpec)

/-- ITS FALSE NEIGHBOUR: 'it returns false'. Refute it at one input. -/
def fnBoxPilesWrong : ChangeSpec := { name := "fnBoxPiles", fn := fun _ => fun
  | [d] => { results := [.lit (.bool false)], args := [d] }
  | _ => none }
def FnBoxPilesWrongFalsely : Prop := fnBoxPilesRow.holds Try.pinned (OpenSpec.ofChange fnBoxPilesWrong)

/-- 'laws.FnSumsOfMask': WHATEVER THE INPUT: true; the input reads as it did. -/
def fnSumsOfMaskSpec : ChangeSpec := { name := "fnSumsOfMask", fn := fun _ => fun
  | [d] => { results := [.lit (.bool true)], args := [d] }
  | _ => none }
def fnSumsOfMaskRow : OpenClaim := { program := "ytcjnmconehfbgaa", sum := "5536ff743fe0da0f4de959be52fdb80c8acdc2376545de58b329668c58d58e81", func := "loop.example/numberparts/laws.FnSumsOfMask", spec := "fnSumsOfMask", apart := false }
def FnSumsOfMaskSaid : Prop := fnSumsOfMaskRow.holds Try.pinned (OpenSpec.ofChange fnSumsOfMaskSpec)

/-- ITS FALSE NEIGHBOUR: 'it returns false'. Refute it at one input. -/
def fnSumsOfMaskWrong : ChangeSpec := { name := "fnSumsOfMask", fn := fun _ => fun
  | [d] => { results := [.lit (.bool false)], args := [d] }
  | _ => none }
def FnSumsOfMaskWrongFalsely : Prop := fnSumsOfMaskRow.holds Try.pinned (OpenSpec.ofChange fnSumsOfMaskWrong)

/- THE SECOND FORM. 'bulk': how many values and letters a reading holds, each counted each time it is reached (what is shared counts as often as it is met; a slice's spare places count too). A statement '..UptoSaid' is the law's where the arguments, and the package variables that the reading takes, are together of bulk at most 1048576: NARROWER than '..Said'. Prove '..Said' where nothing that the law and all that it calls make is longer than what came in: it says more and counts as full. Else prove '..UptoSaid'. A law counts once. -/
mutual
def uptoBulk {H : Type} : DataW H → Nat
  | .lit (.string bytes) => bytes.length + 1
  | .lit _ => 1
  | .nil => 1
  | .ptr d => uptoBulk d + 1
  | .slice elems spare => uptoBulkAll elems + uptoBulkAll spare + 1
  | .agg parts => uptoBulkAll parts + 1
  | .iface _ d => uptoBulk d + 1
  | .map entries => uptoBulkEntries entries + 1
  | .held _ => 1
def uptoBulkAll {H : Type} : List (DataW H) → Nat
  | [] => 0
  | d :: r => uptoBulk d + uptoBulkAll r
def uptoBulkEntries {H : Type} : List (Lit × DataW H) → Nat
  | [] => 0
  | x :: r => uptoBulkEntry x + uptoBulkEntries r
def uptoBulkEntry {H : Type} : Lit × DataW H → Nat
  | (.string bytes, d) => bytes.length + uptoBulk d + 1
  | (_, d) => uptoBulk d + 1
 end
def uptoSmall : (H : Type) → List (DataW H) → Bool := fun _ ds => decide (uptoBulkAll ds ≤ 1048576)
def OpenSpec.upto (s : _root_.Go.ChangeSpec) : _root_.Go.OpenSpec := { _root_.Go.OpenSpec.ofChange s with cond := some uptoSmall }

/-- 'laws.FnExactRankSpread', WHERE WHAT IT READS IS OF BULK AT MOST 1048576: true; the input reads as it did. -/
def fnExactRankSpreadUptoRow : OpenClaim := { program := "ytcjnmconehfbgaa", sum := "5536ff743fe0da0f4de959be52fdb80c8acdc2376545de58b329668c58d58e81", func := "loop.example/numberparts/laws.FnExactRankSpread", spec := "fnExactRankSpread", unfollowed := true, recurses := true, apart := false, narrowed := true }
def FnExactRankSpreadUptoSaid : Prop := fnExactRankSpreadUptoRow.holds Try.pinned (OpenSpec.upto fnExactRankSpreadSpec)

/-- 'laws.FnRankSpread', WHERE WHAT IT READS IS OF BULK AT MOST 1048576: true; the input reads as it did. -/
def fnRankSpreadUptoRow : OpenClaim := { program := "ytcjnmconehfbgaa", sum := "5536ff743fe0da0f4de959be52fdb80c8acdc2376545de58b329668c58d58e81", func := "loop.example/numberparts/laws.FnRankSpread", spec := "fnRankSpread", unfollowed := true, recurses := true, apart := false, narrowed := true }
def FnRankSpreadUptoSaid : Prop := fnRankSpreadUptoRow.holds Try.pinned (OpenSpec.upto fnRankSpreadSpec)

/-- 'laws.FnExactCrankSpread', WHERE WHAT IT READS IS OF BULK AT MOST 1048576: true; the input reads as it did. -/
def fnExactCrankSpreadUptoRow : OpenClaim := { program := "ytcjnmconehfbgaa", sum := "5536ff743fe0da0f4de959be52fdb80c8acdc2376545de58b329668c58d58e81", func := "loop.example/numberparts/laws.FnExactCrankSpread", spec := "fnExactCrankSpread", unfollowed := true, recurses := true, apart := false, narrowed := true }
def FnExactCrankSpreadUptoSaid : Prop := fnExactCrankSpreadUptoRow.holds Try.pinned (OpenSpec.upto fnExactCrankSpreadSpec)

/-- 'laws.FnCrankSpread', WHERE WHAT IT READS IS OF BULK AT MOST 1048576: true; the input reads as it did. -/
def fnCrankSpreadUptoRow : OpenClaim := { program := "ytcjnmconehfbgaa", sum := "5536ff743fe0da0f4de959be52fdb80c8acdc2376545de58b329668c58d58e81", func := "loop.example/numberparts/laws.FnCrankSpread", spec := "fnCrankSpread", unfollowed := true, recurses := true, apart := false, narrowed := true }
def FnCrankSpreadUptoSaid : Prop := fnCrankSpreadUptoRow.holds Try.pinned (OpenSpec.upto fnCrankSpreadSpec)

/-- 'laws.FnExactBoxRow', WHERE WHAT IT READS IS OF BULK AT MOST 1048576: true; the input reads as it did. -/
def fnExactBoxRowUptoRow : OpenClaim := { program := "ytcjnmconehfbgaa", sum := "5536ff743fe0da0f4de959be52fdb80c8acdc2376545de58b329668c58d58e81", func := "loop.example/numberparts/laws.FnExactBoxRow", spec := "fnExactBoxRow", unfollowed := true, recurses := true, apart := false, narrowed := true }
def FnExactBoxRowUptoSaid : Prop := fnExactBoxRowUptoRow.holds Try.pinned (OpenSpec.upto fnExactBoxRowSpec)

/-- 'laws.FnBoxRow', WHERE WHAT IT READS IS OF BULK AT MOST 1048576: true; the input reads as it did. -/
def fnBoxRowUptoRow : OpenClaim := { program := "ytcjnmconehfbgaa", sum := "5536ff743fe0da0f4de959be52fdb80c8acdc2376545de58b329668c58d58e81", func := "loop.example/numberparts/laws.FnBoxRow", spec := "fnBoxRow", unfollowed := true, recurses := true, apart := false, narrowed := true }
def FnBoxRowUptoSaid : Prop := fnBoxRowUptoRow.holds Try.pinned (OpenSpec.upto fnBoxRowSpec)

/-- 'laws.FnExactBoxParts', WHERE WHAT IT READS IS OF BULK AT MOST 1048576: true; the input reads as it did. -/
def fnExactBoxPartsUptoRow : OpenClaim := { program := "ytcjnmconehfbgaa", sum := "5536ff743fe0da0f4de959be52fdb80c8acdc2376545de58b329668c58d58e81", func := "loop.example/numberparts/laws.FnExactBoxParts", spec := "fnExactBoxParts", unfollowed := true, recurses := true, apart := false, narrowed := true }
def FnExactBoxPartsUptoSaid : Prop := fnExactBoxPartsUptoRow.holds Try.pinned (OpenSpec.upto fnExactBoxPartsSpec)

/-- 'laws.FnBoxParts', WHERE WHAT IT READS IS OF BULK AT MOST 1048576: true; the input reads as it did. -/
def fnBoxPartsUptoRow : OpenClaim := { program := "ytcjnmconehfbgaa", sum := "5536ff743fe0da0f4de959be52fdb80c8acdc2376545de58b329668c58d58e81", func := "loop.example/numberparts/laws.FnBoxParts", spec := "fnBoxParts", unfollowed := true, recurses := true, apart := false, narrowed := true }
def FnBoxPartsUptoSaid : Prop := fnBoxPartsUptoRow.holds Try.pinned (OpenSpec.upto fnBoxPartsSpec)

/-- 'laws.FnBoxPiles', WHERE WHAT IT READS IS OF BULK AT MOST 1048576: true; the input reads as it did. -/
def fnBoxPilesUptoRow : OpenClaim := { program := "ytcjnmconehfbgaa", sum := "5536ff743fe0da0f4de959be52fdb80c8acdc2376545de58b329668c58d58e81", func := "loop.example/numberparts/laws.FnBoxPiles", spec := "fnBoxPiles", unfollowed := true, recurses := true, apart := false, narrowed := true }
def FnBoxPilesUptoSaid : Prop := fnBoxPilesUptoRow.holds Try.pinned (OpenSpec.upto fnBoxPilesSpec)

/-- 'laws.FnSumsOfMask', WHERE WHAT IT READS IS OF BULK AT MOST 1048576: true; the input reads as it did. -/
def fnSumsOfMaskUptoRow : OpenClaim := { program := "ytcjnmconehfbgaa", sum := "5536ff743fe0da0f4de959be52fdb80c8acdc2376545de58b329668c58d58e81", func := "loop.example/numberparts/laws.FnSumsOfMask", spec := "fnSumsOfMask", apart := false, narrowed := true }
def FnSumsOfMaskUptoSaid : Prop := fnSumsOfMaskUptoRow.holds Try.pinned (OpenSpec.upto fnSumsOfMaskSpec)

end Rows
end Go.Proofs.Ytcjnmconehfbgaa
