/-
  No cell of these rows narrows 'for every input' (looked for: loops, veiled, ifaces, maps, wideKeys, modest, calm, conditions, laid).
  DERIVED. THE GIVEN ROWS OF THIS SEAT. 8 by the template 'for every input the law returns true; each argument reads behind the call as it read before'; 0 by the template 'total and deterministic' (their statements: YtbldnjcjdnlhgaaTotals.lean).
  GIVEN WITH THE SEED: the statements are not yours to turn. If you find one false, say at which input.
  Laid BY PROGRAM, IN A SANDBOX (cutbox-rows.mjs): the forced cells as the released guide's own fill.sh prints them over the translation 4a41d16efba6f195… (all of the seat's roots in one cut). By AI agents, Wed Nov 11 2026. No macro, syntax, notation, axiom, sorry.
-/
import Derived.Test.YtbldnjcjdnlhgaaChecked
import GoSem.Claim
import GoSem.ClaimJoined
import GoSem.ClaimMapViews
import Derived.JoinedTies
import Derived.KernelRfl
namespace Go.Proofs.Ytbldnjcjdnlhgaa
/- THE CELL 'sum', in the pinned program and in every row, IS THE sha256 OF THE DUMP (.gsa) THAT YtbldnjcjdnlhgaaProg.lean LOADS. Nothing in Lean hashes anything: it is a label: what it is worth is what the hold of that sum in a sandbox is worth. -/
noncomputable def Try.pinned : Pinned := { name := "ytbldnjcjdnlhgaa", sum := "4a41d16efba6f19581567970de74178bf9e8dcbb2b1a517d788f9ea54511fa2d", checked := Try.checked }
namespace Rows
def none {H : Type} : Left H := { results := [], args := [] }

/-- 'laws.FnTimesOf': WHATEVER THE INPUT: true; the input reads as it did. -/
def fnTimesOfSpec : ChangeSpec := { name := "fnTimesOf", fn := fun _ => fun
  | [d] => { results := [.lit (.bool true)], args := [d] }
  | _ => none }
def fnTimesOfRow : OpenClaim := { program := "ytbldnjcjdnlhgaa", sum := "4a41d16efba6f19581567970de74178bf9e8dcbb2b1a517d788f9ea54511fa2d", func := "loop.example/numberparts/laws.FnTimesOf", spec := "fnTimesOf", apart := false }
def FnTimesOfSaid : Prop := fnTimesOfRow.holds Try.pinned (OpenSpec.ofChange fnTimesOfSpec)

/-- ITS FALSE NEIGHBOUR: 'it returns false'. Refute it at one input. -/
def fnTimesOfWrong : ChangeSpec := { name := "fnTimesOf", fn := fun _ => fun
  | [d] => { results := [.lit (.bool false)], args := [d] }
  | _ => none }
def FnTimesOfWrongFalsely : Prop := fnTimesOfRow.holds Try.pinned (OpenSpec.ofChange fnTimesOfWrong)

/-- 'laws.FnExactTimesOf': WHATEVER THE INPUT: true; the input reads as it did. -/
def fnExactTimesOfSpec : ChangeSpec := { name := "fnExactTimesOf", fn := fun _ => fun
  | [d] => { results := [.lit (.bool true)], args := [d] }
  | _ => none }
def fnExactTimesOfRow : OpenClaim := { program := "ytbldnjcjdnlhgaa", sum := "4a41d16efba6f19581567970de74178bf9e8dcbb2b1a517d788f9ea54511fa2d", func := "loop.example/numberparts/laws.FnExactTimesOf", spec := "fnExactTimesOf", apart := false }
def FnExactTimesOfSaid : Prop := fnExactTimesOfRow.holds Try.pinned (OpenSpec.ofChange fnExactTimesOfSpec)

/-- ITS FALSE NEIGHBOUR: 'it returns false'. Refute it at one input. -/
def fnExactTimesOfWrong : ChangeSpec := { name := "fnExactTimesOf", fn := fun _ => fun
  | [d] => { results := [.lit (.bool false)], args := [d] }
  | _ => none }
def FnExactTimesOfWrongFalsely : Prop := fnExactTimesOfRow.holds Try.pinned (OpenSpec.ofChange fnExactTimesOfWrong)

/-- 'laws.FnCornersOf': WHATEVER THE INPUT: true; the input reads as it did. -/
def fnCornersOfSpec : ChangeSpec := { name := "fnCornersOf", fn := fun _ => fun
  | [d] => { results := [.lit (.bool true)], args := [d] }
  | _ => none }
def fnCornersOfRow : OpenClaim := { program := "ytbldnjcjdnlhgaa", sum := "4a41d16efba6f19581567970de74178bf9e8dcbb2b1a517d788f9ea54511fa2d", func := "loop.example/numberparts/laws.FnCornersOf", spec := "fnCornersOf", apart := false }
def FnCornersOfSaid : Prop := fnCornersOfRow.holds Try.pinned (OpenSpec.ofChange fnCornersOfSpec)

/-- ITS FALSE NEIGHBOUR: 'it returns false'. Refute it at one input. -/
def fnCornersOfWrong : ChangeSpec := { name := "fnCornersOf", fn := fun _ => fun
  | [d] => { results := [.lit (.bool false)], args := [d] }
  | _ => none }
def FnCornersOfWrongFalsely : Prop := fnCornersOfRow.holds Try.pinned (OpenSpec.ofChange fnCornersOfWrong)

/-- 'laws.FnExactCornersOf': WHATEVER THE INPUT: true; the input reads as it did. -/
def fnExactCornersOfSpec : ChangeSpec := { name := "fnExactCornersOf", fn := fun _ => fun
  | [d] => { results := [.lit (.bool true)], args := [d] }
  | _ => none }
def fnExactCornersOfRow : OpenClaim := { program := "ytbldnjcjdnlhgaa", sum := "4a41d16efba6f19581567970de74178bf9e8dcbb2b1a517d788f9ea54511fa2d", func := "loop.example/numberparts/laws.FnExactCornersOf", spec := "fnExactCornersOf", apart := false }
def FnExactCornersOfSaid : Prop := fnExactCornersOfRow.holds Try.pinned (OpenSpec.ofChange fnExactCornersOfSpec)

/-- ITS FALSE NEIGHBOUR: 'it returns false'. Refute it at one input. -/
def fnExactCornersOfWrong : ChangeSpec := { name := "fnExactCornersOf", fn := fun _ => fun
  | [d] => { results := [.lit (.bool false)], args := [d] }
  | _ => none }
def FnExactCornersOfWrongFalsely : Prop := fnExactCornersOfRow.holds Try.pinned (OpenSpec.ofChange fnExactCornersOfWrong)

/-- 'laws.FnDiagonalsOf': WHATEVER THE INPUT: true; the input reads as it did. -/
def fnDiagonalsOfSpec : ChangeSpec := { name := "fnDiagonalsOf", fn := fun _ => fun
  | [d] => { results := [.lit (.bool true)], args := [d] }
  | _ => none }
def fnDiagonalsOfRow : OpenClaim := { program := "ytbldnjcjdnlhgaa", sum := "4a41d16efba6f19581567970de74178bf9e8dcbb2b1a517d788f9ea54511fa2d", func := "loop.example/numberparts/laws.FnDiagonalsOf", spec := "fnDiagonalsOf", apart := false }
def FnDiagonalsOfSaid : Prop := fnDiagonalsOfRow.holds Try.pinned (OpenSpec.ofChange fnDiagonalsOfSpec)

/-- ITS FALSE NEIGHBOUR: 'it returns false'. Refute it at one input. -/
def fnDiagonalsOfWrong : ChangeSpec := { name := "fnDiagonalsOf", fn := fun _ => fun
  | [d] => { results := [.lit (.bool false)], args := [d] }
  | _ => none }
def FnDiagonalsOfWrongFalsely : Prop := fnDiagonalsOfRow.holds Try.pinned (OpenSpec.ofChange fnDiagonalsOfWrong)

/-- 'laws.FnExactDiagonalsOf': WHATEVER THE INPUT: true; the input reads as it did. -/
def fnExactDiagonalsOfSpec : ChangeSpec := { name := "fnExactDiagonalsOf", fn := fun _ => fun
  | [d] => { results := [.lit (.bool true)], args := [d] }
  | _ => none }
def fnExactDiagonalsOfRow : OpenClaim := { program := "ytbldnjcjdnlhgaa", sum := "4a41d16efba6f19581567970de74178bf9e8dcbb2b1a517d788f9ea54511fa2d", func := "loop.example/numberparts/laws.FnExactDiagonalsOf", spec := "fnExactDiagonalsOf", apart := false }
def FnExactDiagonalsOfSaid : Prop := fnExactDiagonalsOfRow.holds Try.pinned (OpenSpec.ofChange fnExactDiagonalsOfSpec)

/-- ITS FALSE NEIGHBOUR: 'it returns false'. Refute it at one input. -/
def fnExactDiagonalsOfWrong : ChangeSpec := { name := "fnExactDiagonalsOf", fn := fun _ => fun
  | [d] => { results := [.lit (.bool false)], args := [d] }
  | _ => none }
def FnExactDiagonalsOfWrongFalsely : Prop := fnExactDiagonalsOfRow.holds Try.pinned (OpenSpec.ofChange fnExactDiagonalsOfWrong)

/-- 'laws.FnRemoveCell': WHATEVER THE INPUT: true; the input reads as it did. -/
def fnRemoveCellSpec : ChangeSpec := { name := "fnRemoveCell", fn := fun _ => fun
  | [d] => { results := [.lit (.bool true)], args := [d] }
  | _ => none }
def fnRemoveCellRow : OpenClaim := { program := "ytbldnjcjdnlhgaa", sum := "4a41d16efba6f19581567970de74178bf9e8dcbb2b1a517d788f9ea54511fa2d", func := "loop.example/numberparts/laws.FnRemoveCell", spec := "fnRemoveCell", apart := false }
def FnRemoveCellSaid : Prop := fnRemoveCellRow.holds Try.pinned (OpenSpec.ofChange fnRemoveCellSpec)

/-- ITS FALSE NEIGHBOUR: 'it returns false'. Refute it at one input. -/
def fnRemoveCellWrong : ChangeSpec := { name := "fnRemoveCell", fn := fun _ => fun
  | [d] => { results := [.lit (.bool false)], args := [d] }
  | _ => none }
def FnRemoveCellWrongFalsely : Prop := fnRemoveCellRow.holds Try.pinned (OpenSpec.ofChange fnRemoveCellWrong)

/-- 'laws.FnExactRemoveCell': WHATEVER THE INPUT: true; the input reads as it did. -/
def fnExactRemoveCellSpec : ChangeSpec := { name := "fnExactRemoveCell", fn := fun _ => fun
  | [d1, d2] => { results := [.lit (.bool true)], args := [d1, d2] }
  | _ => none }
def fnExactRemoveCellRow : OpenClaim := { program := "ytbldnjcjdnlhgaa", sum := "4a41d16efba6f19581567970de74178bf9e8dcbb2b1a517d788f9ea54511fa2d", func := "loop.example/numberparts/laws.FnExactRemoveCell", spec := "fnExactRemoveCell", apart := false }
def FnExactRemoveCellSaid : Prop := fnExactRemoveCellRow.holds Try.pinned (OpenSpec.ofChange fnExactRemoveCellSpec)

/-- ITS FALSE NEIGHBOUR: 'it returns false'. Refute it at one input. -/
def fnExactRemoveCellWrong : ChangeSpec := { name := "fnExactRemoveCell", fn := fun _ => fun
  | [d1, d2] => { results := [.lit (.bool false)], args := [d1, d2] }
  | _ => none }
def FnExactRemoveCellWrongFalsely : Prop := fnExactRemoveCellRow.holds Try.pinned (OpenSpec.ofChange fnExactRemoveCellWrong)

/- THE SECOND FORM. 'bulk': how many values and letters a reading holds, each counted each time it is reached (what is shared counts as often as it is met; a slice's spare places count too). A statement '..UptoSaid' is the law's where the arguments, and the package variables that the reading takes, are together of bulk at most 1048576: NARROWER than '..Said'. Prove '..Said' where nothing that the law and all that it calls make is longer than what came in: it says more and counts as full. Else prove '..UptoSaid'. A law counts once. -/
mutual
def uptoBulk {H : Type} : DataW H → Nat
  | .lit (.string bytes) => bytes.length + 1
  | .lit _ => 1
  | .nil => 1
  | .ptr d => uptoBulk d + 1
  | .slice elems spare => uptoBulkAll elems + uptoBulkAll spare + 1
  | .agg parts => uptoBulkAll parts + 1
  | .iface _ d => uptoBulk d + 1
  | .map entries => uptoBulkEntries entries + 1
  | .held _ => 1
def uptoBulkAll {H : Type} : List (DataW H) → Nat
  | [] => 0
  | d :: r => uptoBulk d + uptoBulkAll r
def uptoBulkEntries {H : Type} : List (Lit × DataW H) → Nat
  | [] => 0
  | x :: r => uptoBulkEntry x + uptoBulkEntries r
def uptoBulkEntry {H : Type} : Lit × DataW H → Nat
  | (.string bytes, d) => bytes.length + uptoBulk d + 1
  | (_, d) => uptoBulk d + 1
 end
def uptoSmall : (H : Type) → List (DataW H) → Bool := fun _ ds => decide (uptoBulkAll ds ≤ 1048576)
def OpenSpec.upto (s : _root_.Go.ChangeSpec) : _root_.Go.OpenSpec := { _root_.Go.OpenSpec.ofChange s with cond := some uptoSmall }

/-- 'laws.FnTimesOf', WHERE WHAT IT READS IS OF BULK AT MOST 1048576: true; the input reads as it did. -/
def fnTimesOfUptoRow : OpenClaim := { program := "ytbldnjcjdnlhgaa", sum := "4a41d16efba6f19581567970de74178bf9e8dcbb2b1a517d788f9ea54511fa2d", func := "loop.example/numberparts/laws.FnTimesOf", spec := "fnTimesOf", apart := false, narrowed := true }
def FnTimesOfUptoSaid : Prop := fnTimesOfUptoRow.holds Try.pinned (OpenSpec.upto fnTimesOfSpec)

/-- 'laws.FnExactTimesOf', WHERE WHAT IT READS IS OF BULK AT MOST 1048576: true; the input reads as it did. -/
def fnExactTimesOfUptoRow : OpenClaim := { program := "ytbldnjcjdnlhgaa", sum := "4a41d16efba6f19581567970de74178bf9e8dcbb2b1a517d788f9ea54511fa2d", func := "loop.example/numberparts/laws.FnExactTimesOf", spec := "fnExactTimesOf", apart := false, narrowed := true }
def FnExactTimesOfUptoSaid : Prop := fnExactTimesOfUptoRow.holds Try.pinned (OpenSpec.upto fnExactTimesOfSpec)

/-- 'laws.FnCornersOf', WHERE WHAT IT READS IS OF BULK AT MOST 1048576: true; the input reads as it did. -/
def fnCornersOfUptoRow : OpenClaim := { program := "ytbldnjcjdnlhgaa", sum := "4a41d16efba6f19581567970de74178bf9e8dcbb2b1a517d788f9ea54511fa2d", func := "loop.example/numberparts/laws.FnCornersOf", spec := "fnCornersOf", apart := false, narrowed := true }
def FnCornersOfUptoSaid : Prop := fnCornersOfUptoRow.holds Try.pinned (OpenSpec.upto fnCornersOfSpec)

/-- 'laws.FnExactCornersOf', WHERE WHAT IT READS IS OF BULK AT MOST 1048576: true; the input reads as it did. -/
def fnExactCornersOfUptoRow : OpenClaim := { program := "ytbldnjcjdnlhgaa", sum := "4a41d16efba6f19581567970de74178bf9e8dcbb2b1a517d788f9ea54511fa2d", func := "loop.example/numberparts/laws.FnExactCornersOf", spec := "fnExactCornersOf", apart := false, narrowed := true }
def FnExactCornersOfUptoSaid : Prop := fnExactCornersOfUptoRow.holds Try.pinned (OpenSpec.upto fnExactCornersOfSpec)

/-- 'laws.FnDiagonalsOf', WHERE WHAT IT READS IS OF BULK AT MOST 1048576: true; the input reads as it did. -/
def fnDiagonalsOfUptoRow : OpenClaim := { program := "ytbldnjcjdnlhgaa", sum := "4a41d16efba6f19581567970de74178bf9e8dcbb2b1a517d788f9ea54511fa2d", func := "loop.example/numberparts/laws.FnDiagonalsOf", spec := "fnDiagonalsOf", apart := false, narrowed := true }
def FnDiagonalsOfUptoSaid : Prop := fnDiagonalsOfUptoRow.holds Try.pinned (OpenSpec.upto fnDiagonalsOfSpec)

/-- 'laws.FnExactDiagonalsOf', WHERE WHAT IT READS IS OF BULK AT MOST 1048576: true; the input reads as it did. -/
def fnExactDiagonalsOfUptoRow : OpenClaim := { program := "ytbldnjcjdnlhgaa", sum := "4a41d16efba6f19581567970de74178bf9e8dcbb2b1a517d788f9ea54511fa2d", func := "loop.example/numberparts/laws.FnExactDiagonalsOf", spec := "fnExactDiagonalsOf", apart := false, narrowed := true }
def FnExactDiagonalsOfUptoSaid : Prop := fnExactDiagonalsOfUptoRow.holds Try.pinned (OpenSpec.upto fnExactDiagonalsOfSpec)

/-- 'laws.FnRemoveCell', WHERE WHAT IT READS IS OF BULK AT MOST 1048576: true; the input reads as it did. -/
def fnRemoveCellUptoRow : OpenClaim := { program := "ytbldnjcjdnlhgaa", sum := "4a41d16efba6f19581567970de74178bf9e8dcbb2b1a517d788f9ea54511fa2d", func := "loop.example/numberparts/laws.FnRemoveCell", spec := "fnRemoveCell", apart := false, narrowed := true }
def FnRemoveCellUptoSaid : Prop := fnRemoveCellUptoRow.holds Try.pinned (OpenSpec.upto fnRemoveCellSpec)

/-- 'laws.FnExactRemoveCell', WHERE WHAT IT READS IS OF BULK AT MOST 1048576: true; the input reads as it did. -/
def fnExactRemoveCellUptoRow : OpenClaim := { program := "ytbldnjcjdnlhgaa", sum := "4a41d16efba6f19581567970de74178bf9e8dcbb2b1a517d788f9ea54511fa2d", func := "loop.example/numberparts/laws.FnExactRemoveCell", spec := "fnExactRemoveCell", apart := false, narrowed := true }
def FnExactRemoveCellUptoSaid : Prop := fnExactRemoveCellUptoRow.holds Try.pinned (OpenSpec.upto fnExactRemoveCellSpec)

end Rows
end Go.Proofs.Ytbldnjcjdnlhgaa
