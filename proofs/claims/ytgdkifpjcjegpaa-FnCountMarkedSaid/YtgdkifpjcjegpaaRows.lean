/-
  No cell of these rows narrows 'for every input' (looked for: loops, veiled, ifaces, maps, wideKeys, modest, calm, conditions, laid).
  DERIVED. THE GIVEN ROWS OF THIS SEAT. 6 by the template 'for every input the law returns true; each argument reads behind the call as it read before'; 0 by the template 'total and deterministic' (their statements: YtgdkifpjcjegpaaTotals.lean).
  GIVEN WITH THE SEED: the statements are not yours to turn. If you find one false, say at which input.
  Laid BY PROGRAM, IN A SANDBOX (cutbox-rows.mjs): the forced cells as the released guide's own fill.sh prints them over the translation edb75fdb772d8b6d… (all of the seat's roots in one cut). By AI agents, Wed Nov 11 2026. No macro, syntax, notation, axiom, sorry.
-/
import Derived.Test.YtgdkifpjcjegpaaChecked
import GoSem.Claim
import GoSem.ClaimJoined
import GoSem.ClaimMapViews
import Derived.JoinedTies
import Derived.KernelRfl
namespace Go.Proofs.Ytgdkifpjcjegpaa
/- THE CELL 'sum', in the pinned program and in every row, IS THE sha256 OF THE DUMP (.gsa) THAT YtgdkifpjcjegpaaProg.lean LOADS. Nothing in Lean hashes anything: it is a label: what it is worth is what the hold of that sum in a sandbox is worth. -/
noncomputable def Try.pinned : Pinned := { name := "ytgdkifpjcjegpaa", sum := "edb75fdb772d8b6d07f1898f1193788457c8024bafcf5761dd68c3cead8df2a6", checked := Try.checked }
namespace Rows
def none {H : Type} : Left H := { results := [], args := [] }

/-- 'laws.FnExactBoxPiles': WHATEVER THE INPUT: true; the input reads as it did. -/
def fnExactBoxPilesSpec : ChangeSpec := { name := "fnExactBoxPiles", fn := fun _ => fun
  | [d1, d2, d3] => { results := [.lit (.bool true)], args := [d1, d2, d3] }
  | _ => none }
def fnExactBoxPilesRow : OpenClaim := { program := "ytgdkifpjcjegpaa", sum := "edb75fdb772d8b6d07f1898f1193788457c8024bafcf5761dd68c3cead8df2a6", func := "loop.example/numberparts/laws.FnExactBoxPiles", spec := "fnExactBoxPiles", unfollowed := true, recurses := true, apart := false }
def FnExactBoxPilesSaid : Prop := fnExactBoxPilesRow.holds Try.pinned (OpenSpec.ofChange fnExactBoxPilesSpec)

/-- ITS FALSE NEIGHBOUR: 'it returns false'. Refute it at one input. -/
def fnExactBoxPilesWrong : ChangeSpec := { name := "fnExactBoxPiles", fn := fun _ => fun
  | [d1, d2, d3] => { results := [.lit (.bool false)], args := [d1, d2, d3] }
  | _ => none }
def FnExactBoxPilesWrongFalsely : Prop := fnExactBoxPilesRow.holds Try.pinned (OpenSpec.ofChange fnExactBoxPilesWrong)

/-- 'laws.FnBoxPiles': WHATEVER THE INPUT: true; the input reads as it did. -/
def fnBoxPilesSpec : ChangeSpec := { name := "fnBoxPiles", fn := fun _ => fun
  | [d] => { results := [.lit (.bool true)], args := [d] }
  | _ => none }
def fnBoxPilesRow : OpenClaim := { program := "ytgdkifpjcjegpaa", sum := "edb75fdb772d8b6d07f1898f1193788457c8024bafcf5761dd68c3cead8df2a6", func := "loop.example/numberparts/laws.FnBoxPiles", spec := "fnBoxPiles", unfollowed := true, recurses := true, apart := false }
def FnBoxPilesSaid : Prop := fnBoxPilesRow.holds Try.pinned (OpenSpec.ofChange fnBoxPilesSpec)

/-- ITS FALSE NEIGHBOUR: 'it returns false'. Refute it at one input. -/
def fnBoxPilesWrong : ChangeSpec := { name := "fnBoxPiles", fn := fun _ => fun
  | [d] => { results := [.lit (.bool false)], args := [d] }
  | _ => none }
def FnBoxPilesWrongFalsely : Prop := fnBoxPilesRow.holds Try.pinned (OpenSpec.ofChange fnBoxPilesWrong)

/-- 'laws.FnExactCountMarked': WHATEVER THE INPUT: true; the input reads as it did. -/
def fnExactCountMarkedSpec : ChangeSpec := { name := "fnExactCountMarked", fn := fun _ => fun
  | [d] => { results := [.lit (.bool true)], args := [d] }
  | _ => none }
def fnExactCountMarkedRow : OpenClaim := { program := "ytgdkifpjcjegpaa", sum := "edb75fdb772d8b6d07f1898f1193788457c8024bafcf5761dd68c3cead8df2a6", func := "loop.example/numberparts/laws.FnExactCountMarked", spec := "fnExactCountMarked", unfollowed := true, recurses := true, apart := false }
def FnExactCountMarkedSaid : Prop := fnExactCountMarkedRow.holds Try.pinned (OpenSpec.ofChange fnExactCountMarkedSpec)

/-- ITS FALSE NEIGHBOUR: 'it returns false'. Refute it at one input. -/
def fnExactCountMarkedWrong : ChangeSpec := { name := "fnExactCountMarked", fn := fun _ => fun
  | [d] => { results := [.lit (.bool false)], args := [d] }
  | _ => none }
def FnExactCountMarkedWrongFalsely : Prop := fnExactCountMarkedRow.holds Try.pinned (OpenSpec.ofChange fnExactCountMarkedWrong)

/-- 'laws.FnCountMarked': WHATEVER THE INPUT: true; the input reads as it did. -/
def fnCountMarkedSpec : ChangeSpec := { name := "fnCountMarked", fn := fun _ => fun
  | [d] => { results := [.lit (.bool true)], args := [d] }
  | _ => none }
def fnCountMarkedRow : OpenClaim := { program := "ytgdkifpjcjegpaa", sum := "edb75fdb772d8b6d07f1898f1193788457c8024bafcf5761dd68c3cead8df2a6", func := "loop.example/numberparts/laws.FnCountMarked", spec := "fnCountMarked", unfollowed := true, recurses := true, apart := false }
def FnCountMarkedSaid : Prop := fnCountMarkedRow.holds Try.pinned (OpenSpec.ofChange fnCountMarkedSpec)

/-- ITS FALSE NEIGHBOUR: 'it returns false'. Refute it at one input. -/
def fnCountMarkedWrong : ChangeSpec := { name := "fnCountMarked", fn := fun _ => fun
  | [d] => { results := [.lit (.bool false)], args := [d] }
  | _ => none }
def FnCountMarkedWrongFalsely : Prop := fnCountMarkedRow.holds Try.pinned (OpenSpec.ofChange fnCountMarkedWrong)

/-- 'laws.FnExactCountPiles': WHATEVER THE INPUT: true; the input reads as it did. -/
def fnExactCountPilesSpec : ChangeSpec := { name := "fnExactCountPiles", fn := fun _ => fun
  | [d] => { results := [.lit (.bool true)], args := [d] }
  | _ => none }
def fnExactCountPilesRow : OpenClaim := { program := "ytgdkifpjcjegpaa", sum := "edb75fdb772d8b6d07f1898f1193788457c8024bafcf5761dd68c3cead8df2a6", func := "loop.example/numberparts/laws.FnExactCountPiles", spec := "fnExactCountPiles", unfollowed := true, recurses := true, apart := false }
def FnExactCountPilesSaid : Prop := fnExactCountPilesRow.holds Try.pinned (OpenSpec.ofChange fnExactCountPilesSpec)

/-- ITS FALSE NEIGHBOUR: 'it returns false'. Refute it at one input. -/
def fnExactCountPilesWrong : ChangeSpec := { name := "fnExactCountPiles", fn := fun _ => fun
  | [d] => { results := [.lit (.bool false)], args := [d] }
  | _ => none }
def FnExactCountPilesWrongFalsely : Prop := fnExactCountPilesRow.holds Try.pinned (OpenSpec.ofChange fnExactCountPilesWrong)

/-- 'laws.FnCountPiles': WHATEVER THE INPUT: true; the input reads as it did. -/
def fnCountPilesSpec : ChangeSpec := { name := "fnCountPiles", fn := fun _ => fun
  | [d] => { results := [.lit (.bool true)], args := [d] }
  | _ => none }
def fnCountPilesRow : OpenClaim := { program := "ytgdkifpjcjegpaa", sum := "edb75fdb772d8b6d07f1898f1193788457c8024bafcf5761dd68c3cead8df2a6", func := "loop.example/numberparts/laws.FnCountPiles", spec := "fnCountPiles", unfollowed := true, recurses := true, apart := false }
def FnCountPilesSaid : Prop := fnCountPilesRow.holds Try.pinned (OpenSpec.ofChange fnCountPilesSpec)

/-- ITS FALSE NEIGHBOUR: 'it returns false'. Refute it at one input. -/
def fnCountPilesWrong : ChangeSpec := { name := "fnCountPiles", fn := fun _ => fun
  | [d] => { results := [.lit (.bool false)], args := [d] }
  | _ => none }
def FnCountPilesWrongFalsely : Prop := fnCountPilesRow.holds Try.pinned (OpenSpec.ofChange fnCountPilesWrong)

/- THE SECOND FORM. 'bulk': how many values and letters a reading holds, each counted each time it is reached (what is shared counts as often as it is met; a slice's spare places count too). A statement '..UptoSaid' is the law's where the arguments, and the package variables that the reading takes, are together of bulk at most 1048576: NARROWER than '..Said'. Prove '..Said' where nothing that the law and all that it calls make is longer than what came in: it says more and counts as full. Else prove '..UptoSaid'. A law counts once. -/
mutual
def uptoBulk {H : Type} : DataW H → Nat
  | .lit (.string bytes) => bytes.length + 1
  | .lit _ => 1
  | .nil => 1
  | .ptr d => uptoBulk d + 1
  | .slice elems spare => uptoBulkAll elems + uptoBulkAll spare + 1
  | .agg parts => uptoBulkAll parts + 1
  | .iface _ d => uptoBulk d + 1
  | .map entries => uptoBulkEntries entries + 1
  | .held _ => 1
def uptoBulkAll {H : Type} : List (DataW H) → Nat
  | [] => 0
  | d :: r => uptoBulk d + uptoBulkAll r
def uptoBulkEntries {H : Type} : List (Lit × DataW H) → Nat
  | [] => 0
  | x :: r => uptoBulkEntry x + uptoBulkEntries r
def uptoBulkEntry {H : Type} : Lit × DataW H → Nat
  | (.string bytes, d) => bytes.length + uptoBulk d + 1
  | (_, d) => uptoBulk d + 1
 end
def uptoSmall : (H : Type) → List (DataW H) → Bool := fun _ ds => decide (uptoBulkAll ds ≤ 1048576)
def OpenSpec.upto (s : _root_.Go.ChangeSpec) : _root_.Go.OpenSpec := { _root_.Go.OpenSpec.ofChange s with cond := some uptoSmall }

/-- 'laws.FnExactBoxPiles', WHERE WHAT IT READS IS OF BULK AT MOST 1048576: true; the input reads as it did. -/
def fnExactBoxPilesUptoRow : OpenClaim := { program := "ytgdkifpjcjegpaa", sum := "edb75fdb772d8b6d07f1898f1193788457c8024bafcf5761dd68c3cead8df2a6", func := "loop.example/numberparts/laws.FnExactBoxPiles", spec := "fnExactBoxPiles", unfollowed := true, recurses := true, apart := false, narrowed := true }
def FnExactBoxPilesUptoSaid : Prop := fnExactBoxPilesUptoRow.holds Try.pinned (OpenSpec.upto fnExactBoxPilesSpec)

/-- 'laws.FnBoxPiles', WHERE WHAT IT READS IS OF BULK AT MOST 1048576: true; the input reads as it did. -/
def fnBoxPilesUptoRow : OpenClaim := { program := "ytgdkifpjcjegpaa", sum := "edb75fdb772d8b6d07f1898f1193788457c8024bafcf5761dd68c3cead8df2a6", func := "loop.example/numberparts/laws.FnBoxPiles", spec := "fnBoxPiles", unfollowed := true, recurses := true, apart := false, narrowed := true }
def FnBoxPilesUptoSaid : Prop := fnBoxPilesUptoRow.holds Try.pinned (OpenSpec.upto fnBoxPilesSpec)

/-- 'laws.FnExactCountMarked', WHERE WHAT IT READS IS OF BULK AT MOST 1048576: true; the input reads as it did. -/
def fnExactCountMarkedUptoRow : OpenClaim := { program := "ytgdkifpjcjegpaa", sum := "edb75fdb772d8b6d07f1898f1193788457c8024bafcf5761dd68c3cead8df2a6", func := "loop.example/numberparts/laws.FnExactCountMarked", spec := "fnExactCountMarked", unfollowed := true, recurses := true, apart := false, narrowed := true }
def FnExactCountMarkedUptoSaid : Prop := fnExactCountMarkedUptoRow.holds Try.pinned (OpenSpec.upto fnExactCountMarkedSpec)

/-- 'laws.FnCountMarked', WHERE WHAT IT READS IS OF BULK AT MOST 1048576: true; the input reads as it did. -/
def fnCountMarkedUptoRow : OpenClaim := { program := "ytgdkifpjcjegpaa", sum := "edb75fdb772d8b6d07f1898f1193788457c8024bafcf5761dd68c3cead8df2a6", func := "loop.example/numberparts/laws.FnCountMarked", spec := "fnCountMarked", unfollowed := true, recurses := true, apart := false, narrowed := true }
def FnCountMarkedUptoSaid : Prop := fnCountMarkedUptoRow.holds Try.pinned (OpenSpec.upto fnCountMarkedSpec)

/-- 'laws.FnExactCountPiles', WHERE WHAT IT READS IS OF BULK AT MOST 1048576: true; the input reads as it did. -/
def fnExactCountPilesUptoRow : OpenClaim := { program := "ytgdkifpjcjegpaa", sum := "edb75fdb772d8b6d07f1898f1193788457c8024bafcf5761dd68c3cead8df2a6", func := "loop.example/numberparts/laws.FnExactCountPiles", spec := "fnExactCountPiles", unfollowed := true, recurses := true, apart := false, narrowed := true }
def FnExactCountPilesUptoSaid : Prop := fnExactCountPilesUptoRow.holds Try.pinned (OpenSpec.upto fnExactCountPilesSpec)

/-- 'laws.FnCountPiles', WHERE WHAT IT READS IS OF BULK AT MOST 1048576: true; the input reads as it did. -/
def fnCountPilesUptoRow : OpenClaim := { program := "ytgdkifpjcjegpaa", sum := "edb75fdb772d8b6d07f1898f1193788457c8024bafcf5761dd68c3cead8df2a6", func := "loop.example/numberparts/laws.FnCountPiles", spec := "fnCountPiles", unfollowed := true, recurses := true, apart := false, narrowed := true }
def FnCountPilesUptoSaid : Prop := fnCountPilesUptoRow.holds Try.pinned (OpenSpec.upto fnCountPilesSpec)

end Rows
end Go.Proofs.Ytgdkifpjcjegpaa
