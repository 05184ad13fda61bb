/-
  No cell of these rows narrows 'for every input' (looked for: loops, veiled, ifaces, maps, wideKeys, modest, calm, conditions, laid).
  DERIVED. THE GIVEN ROWS OF THIS SEAT. 6 by the template 'for every input the law returns true; each argument reads behind the call as it read before'; 0 by the template 'total and deterministic' (their statements: YtmojonpjgaidgaaTotals.lean).
  GIVEN WITH THE SEED: the statements are not yours to turn. If you find one false, say at which input.
  Laid BY PROGRAM, IN A SANDBOX (cutbox-rows.mjs): the forced cells as the released guide's own fill.sh prints them over the translation 01ea4a5f82cd0dd1… (all of the seat's roots in one cut). By AI agents, Wed Nov 11 2026. No macro, syntax, notation, axiom, sorry.
-/
import Derived.Test.YtmojonpjgaidgaaChecked
import GoSem.Claim
import GoSem.ClaimJoined
import GoSem.ClaimMapViews
import Derived.JoinedTies
import Derived.KernelRfl
namespace Go.Proofs.Ytmojonpjgaidgaa
/- THE CELL 'sum', in the pinned program and in every row, IS THE sha256 OF THE DUMP (.gsa) THAT YtmojonpjgaidgaaProg.lean LOADS. Nothing in Lean hashes anything: it is a label: what it is worth is what the hold of that sum in a sandbox is worth. -/
noncomputable def Try.pinned : Pinned := { name := "ytmojonpjgaidgaa", sum := "01ea4a5f82cd0dd1e8b341d4df4a6cc2827b5ed152fbc0be6ae975c4436a5d17", checked := Try.checked }
namespace Rows
def none {H : Type} : Left H := { results := [], args := [] }

/-- 'laws.FnExactChainDown': WHATEVER THE INPUT: true; the input reads as it did. -/
def fnExactChainDownSpec : ChangeSpec := { name := "fnExactChainDown", fn := fun _ => fun
  | [d1, d2] => { results := [.lit (.bool true)], args := [d1, d2] }
  | _ => none }
def fnExactChainDownRow : OpenClaim := { program := "ytmojonpjgaidgaa", sum := "01ea4a5f82cd0dd1e8b341d4df4a6cc2827b5ed152fbc0be6ae975c4436a5d17", func := "loop.example/numberparts/laws.FnExactChainDown", spec := "fnExactChainDown", unfollowed := true, recurses := true, apart := false }
def FnExactChainDownSaid : Prop := fnExactChainDownRow.holds Try.pinned (OpenSpec.ofChange fnExactChainDownSpec)

/-- ITS FALSE NEIGHBOUR: 'it returns false'. Refute it at one input. -/
def fnExactChainDownWrong : ChangeSpec := { name := "fnExactChainDown", fn := fun _ => fun
  | [d1, d2] => { results := [.lit (.bool false)], args := [d1, d2] }
  | _ => none }
def FnExactChainDownWrongFalsely : Prop := fnExactChainDownRow.holds Try.pinned (OpenSpec.ofChange fnExactChainDownWrong)

/-- 'laws.FnChainDown': WHATEVER THE INPUT: true; the input reads as it did. -/
def fnChainDownSpec : ChangeSpec := { name := "fnChainDown", fn := fun _ => fun
  | [d] => { results := [.lit (.bool true)], args := [d] }
  | _ => none }
def fnChainDownRow : OpenClaim := { program := "ytmojonpjgaidgaa", sum := "01ea4a5f82cd0dd1e8b341d4df4a6cc2827b5ed152fbc0be6ae975c4436a5d17", func := "loop.example/numberparts/laws.FnChainDown", spec := "fnChainDown", unfollowed := true, recurses := true, apart := false }
def FnChainDownSaid : Prop := fnChainDownRow.holds Try.pinned (OpenSpec.ofChange fnChainDownSpec)

/-- ITS FALSE NEIGHBOUR: 'it returns false'. Refute it at one input. -/
def fnChainDownWrong : ChangeSpec := { name := "fnChainDown", fn := fun _ => fun
  | [d] => { results := [.lit (.bool false)], args := [d] }
  | _ => none }
def FnChainDownWrongFalsely : Prop := fnChainDownRow.holds Try.pinned (OpenSpec.ofChange fnChainDownWrong)

/-- 'laws.FnExactMergeEqual': WHATEVER THE INPUT: true; the input reads as it did. -/
def fnExactMergeEqualSpec : ChangeSpec := { name := "fnExactMergeEqual", fn := fun _ => fun
  | [d1, d2] => { results := [.lit (.bool true)], args := [d1, d2] }
  | _ => none }
def fnExactMergeEqualRow : OpenClaim := { program := "ytmojonpjgaidgaa", sum := "01ea4a5f82cd0dd1e8b341d4df4a6cc2827b5ed152fbc0be6ae975c4436a5d17", func := "loop.example/numberparts/laws.FnExactMergeEqual", spec := "fnExactMergeEqual", unfollowed := true, recurses := true, apart := false }
def FnExactMergeEqualSaid : Prop := fnExactMergeEqualRow.holds Try.pinned (OpenSpec.ofChange fnExactMergeEqualSpec)

/-- ITS FALSE NEIGHBOUR: 'it returns false'. Refute it at one input. -/
def fnExactMergeEqualWrong : ChangeSpec := { name := "fnExactMergeEqual", fn := fun _ => fun
  | [d1, d2] => { results := [.lit (.bool false)], args := [d1, d2] }
  | _ => none }
def FnExactMergeEqualWrongFalsely : Prop := fnExactMergeEqualRow.holds Try.pinned (OpenSpec.ofChange fnExactMergeEqualWrong)

/-- 'laws.FnMergeEqual': WHATEVER THE INPUT: true; the input reads as it did. -/
def fnMergeEqualSpec : ChangeSpec := { name := "fnMergeEqual", fn := fun _ => fun
  | [d] => { results := [.lit (.bool true)], args := [d] }
  | _ => none }
def fnMergeEqualRow : OpenClaim := { program := "ytmojonpjgaidgaa", sum := "01ea4a5f82cd0dd1e8b341d4df4a6cc2827b5ed152fbc0be6ae975c4436a5d17", func := "loop.example/numberparts/laws.FnMergeEqual", spec := "fnMergeEqual", unfollowed := true, recurses := true, apart := false }
def FnMergeEqualSaid : Prop := fnMergeEqualRow.holds Try.pinned (OpenSpec.ofChange fnMergeEqualSpec)

/-- ITS FALSE NEIGHBOUR: 'it returns false'. Refute it at one input. -/
def fnMergeEqualWrong : ChangeSpec := { name := "fnMergeEqual", fn := fun _ => fun
  | [d] => { results := [.lit (.bool false)], args := [d] }
  | _ => none }
def FnMergeEqualWrongFalsely : Prop := fnMergeEqualRow.holds Try.pinned (OpenSpec.ofChange fnMergeEqualWrong)

/-- 'laws.FnExactSplitEqual': WHATEVER THE INPUT: true; the input reads as it did. -/
def fnExactSplitEqualSpec : ChangeSpec := { name := "fnExactSplitEqual", fn := fun _ => fun
  | [d1, d2] => { results := [.lit (.bool true)], args := [d1, d2] }
  | _ => none }
def fnExactSplitEqualRow : OpenClaim := { program := "ytmojonpjgaidgaa", sum := "01ea4a5f82cd0dd1e8b341d4df4a6cc2827b5ed152fbc0be6ae975c4436a5d17", func := "loop.example/numberparts/laws.FnExactSplitEqual", spec := "fnExactSplitEqual", unfollowed := true, recurses := true, apart := false }
def FnExactSplitEqualSaid : Prop := fnExactSplitEqualRow.holds Try.pinned (OpenSpec.ofChange fnExactSplitEqualSpec)

/-- ITS FALSE NEIGHBOUR: 'it returns false'. Refute it at one input. -/
def fnExactSplitEqualWrong : ChangeSpec := { name := "fnExactSplitEqual", fn := fun _ => fun
  | [d1, d2] => { results := [.lit (.bool false)], args := [d1, d2] }
  | _ => none }
def FnExactSplitEqualWrongFalsely : Prop := fnExactSplitEqualRow.holds Try.pinned (OpenSpec.ofChange fnExactSplitEqualWrong)

/-- 'laws.FnSplitEqual': WHATEVER THE INPUT: true; the input reads as it did. -/
def fnSplitEqualSpec : ChangeSpec := { name := "fnSplitEqual", fn := fun _ => fun
  | [d] => { results := [.lit (.bool true)], args := [d] }
  | _ => none }
def fnSplitEqualRow : OpenClaim := { program := "ytmojonpjgaidgaa", sum := "01ea4a5f82cd0dd1e8b341d4df4a6cc2827b5ed152fbc0be6ae975c4436a5d17", func := "loop.example/numberparts/laws.FnSplitEqual", spec := "fnSplitEqual", unfollowed := true, recurses := true, apart := false }
def FnSplitEqualSaid : Prop := fnSplitEqualRow.holds Try.pinned (OpenSpec.ofChange fnSplitEqualSpec)

/-- ITS FALSE NEIGHBOUR: 'it returns false'. Refute it at one input. -/
def fnSplitEqualWrong : ChangeSpec := { name := "fnSplitEqual", fn := fun _ => fun
  | [d] => { results := [.lit (.bool false)], args := [d] }
  | _ => none }
def FnSplitEqualWrongFalsely : Prop := fnSplitEqualRow.holds Try.pinned (OpenSpec.ofChange fnSplitEqualWrong)

/- THE SECOND FORM. 'bulk': how many values and letters a reading holds, each counted each time it is reached (what is shared counts as often as it is met; a slice's spare places count too). A statement '..UptoSaid' is the law's where the arguments, and the package variables that the reading takes, are together of bulk at most 1048576: NARROWER than '..Said'. Prove '..Said' where nothing that the law and all that it calls make is longer than what came in: it says more and counts as full. Else prove '..UptoSaid'. A law counts once. -/
mutual
def uptoBulk {H : Type} : DataW H → Nat
  | .lit (.string bytes) => bytes.length + 1
  | .lit _ => 1
  | .nil => 1
  | .ptr d => uptoBulk d + 1
  | .slice elems spare => uptoBulkAll elems + uptoBulkAll spare + 1
  | .agg parts => uptoBulkAll parts + 1
  | .iface _ d => uptoBulk d + 1
  | .map entries => uptoBulkEntries entries + 1
  | .held _ => 1
def uptoBulkAll {H : Type} : List (DataW H) → Nat
  | [] => 0
  | d :: r => uptoBulk d + uptoBulkAll r
def uptoBulkEntries {H : Type} : List (Lit × DataW H) → Nat
  | [] => 0
  | x :: r => uptoBulkEntry x + uptoBulkEntries r
def uptoBulkEntry {H : Type} : Lit × DataW H → Nat
  | (.string bytes, d) => bytes.length + uptoBulk d + 1
  | (_, d) => uptoBulk d + 1
 end
def uptoSmall : (H : Type) → List (DataW H) → Bool := fun _ ds => decide (uptoBulkAll ds ≤ 1048576)
def OpenSpec.upto (s : _root_.Go.ChangeSpec) : _root_.Go.OpenSpec := { _root_.Go.OpenSpec.ofChange s with cond := some uptoSmall }

/-- 'laws.FnExactChainDown', WHERE WHAT IT READS IS OF BULK AT MOST 1048576: true; the input reads as it did. -/
def fnExactChainDownUptoRow : OpenClaim := { program := "ytmojonpjgaidgaa", sum := "01ea4a5f82cd0dd1e8b341d4df4a6cc2827b5ed152fbc0be6ae975c4436a5d17", func := "loop.example/numberparts/laws.FnExactChainDown", spec := "fnExactChainDown", unfollowed := true, recurses := true, apart := false, narrowed := true }
def FnExactChainDownUptoSaid : Prop := fnExactChainDownUptoRow.holds Try.pinned (OpenSpec.upto fnExactChainDownSpec)

/-- 'laws.FnChainDown', WHERE WHAT IT READS IS OF BULK AT MOST 1048576: true; the input reads as it did. -/
def fnChainDownUptoRow : OpenClaim := { program := "ytmojonpjgaidgaa", sum := "01ea4a5f82cd0dd1e8b341d4df4a6cc2827b5ed152fbc0be6ae975c4436a5d17", func := "loop.example/numberparts/laws.FnChainDown", spec := "fnChainDown", unfollowed := true, recurses := true, apart := false, narrowed := true }
def FnChainDownUptoSaid : Prop := fnChainDownUptoRow.holds Try.pinned (OpenSpec.upto fnChainDownSpec)

/-- 'laws.FnExactMergeEqual', WHERE WHAT IT READS IS OF BULK AT MOST 1048576: true; the input reads as it did. -/
def fnExactMergeEqualUptoRow : OpenClaim := { program := "ytmojonpjgaidgaa", sum := "01ea4a5f82cd0dd1e8b341d4df4a6cc2827b5ed152fbc0be6ae975c4436a5d17", func := "loop.example/numberparts/laws.FnExactMergeEqual", spec := "fnExactMergeEqual", unfollowed := true, recurses := true, apart := false, narrowed := true }
def FnExactMergeEqualUptoSaid : Prop := fnExactMergeEqualUptoRow.holds Try.pinned (OpenSpec.upto fnExactMergeEqualSpec)

/-- 'laws.FnMergeEqual', WHERE WHAT IT READS IS OF BULK AT MOST 1048576: true; the input reads as it did. -/
def fnMergeEqualUptoRow : OpenClaim := { program := "ytmojonpjgaidgaa", sum := "01ea4a5f82cd0dd1e8b341d4df4a6cc2827b5ed152fbc0be6ae975c4436a5d17", func := "loop.example/numberparts/laws.FnMergeEqual", spec := "fnMergeEqual", unfollowed := true, recurses := true, apart := false, narrowed := true }
def FnMergeEqualUptoSaid : Prop := fnMergeEqualUptoRow.holds Try.pinned (OpenSpec.upto fnMergeEqualSpec)

/-- 'laws.FnExactSplitEqual', WHERE WHAT IT READS IS OF BULK AT MOST 1048576: true; the input reads as it did. -/
def fnExactSplitEqualUptoRow : OpenClaim := { program := "ytmojonpjgaidgaa", sum := "01ea4a5f82cd0dd1e8b341d4df4a6cc2827b5ed152fbc0be6ae975c4436a5d17", func := "loop.example/numberparts/laws.FnExactSplitEqual", spec := "fnExactSplitEqual", unfollowed := true, recurses := true, apart := false, narrowed := true }
def FnExactSplitEqualUptoSaid : Prop := fnExactSplitEqualUptoRow.holds Try.pinned (OpenSpec.upto fnExactSplitEqualSpec)

/-- 'laws.FnSplitEqual', WHERE WHAT IT READS IS OF BULK AT MOST 1048576: true; the input reads as it did. -/
def fnSplitEqualUptoRow : OpenClaim := { program := "ytmojonpjgaidgaa", sum := "01ea4a5f82cd0dd1e8b341d4df4a6cc2827b5ed152fbc0be6ae975c4436a5d17", func := "loop.example/numberparts/laws.FnSplitEqual", spec := "fnSplitEqual", unfollowed := true, recurses := true, apart := false, narrowed := true }
def FnSplitEqualUptoSaid : Prop := fnSplitEqualUptoRow.holds Try.pinned (OpenSpec.upto fnSplitEqualSpec)

end Rows
end Go.Proofs.Ytmojonpjgaidgaa
