/-
  No cell of these rows narrows 'for every input' (looked for: loops, veiled, ifaces, maps, wideKeys, modest, calm, conditions, laid).
  DERIVED. THE GIVEN ROWS OF THIS SEAT. 10 by the template 'for every input the law returns true; each argument reads behind the call as it read before'; 0 by the template 'total and deterministic' (their statements: YthafbdpeignccaaTotals.lean).
  GIVEN WITH THE SEED: the statements are not yours to turn. If you find one false, say at which input.
  Laid BY PROGRAM, IN A SANDBOX (cutbox-rows.mjs): the forced cells as the released guide's own fill.sh prints them over the translation 99a12f0fd7808547… (all of the seat's roots in one cut). By AI agents, Wed Nov 11 2026. No macro, syntax, notation, axiom, sorry.
-/
import Derived.Test.YthafbdpeignccaaChecked
import GoSem.Claim
import GoSem.ClaimJoined
import GoSem.ClaimMapViews
import Derived.JoinedTies
import Derived.KernelRfl
namespace Go.Proofs.Ythafbdpeignccaa
/- THE CELL 'sum', in the pinned program and in every row, IS THE sha256 OF THE DUMP (.gsa) THAT YthafbdpeignccaaProg.lean LOADS. Nothing in Lean hashes anything: it is a label: what it is worth is what the hold of that sum in a sandbox is worth. -/
noncomputable def Try.pinned : Pinned := { name := "ythafbdpeignccaa", sum := "99a12f0fd780854789dd1452df30a052b33567ac870de22b1abdf854b0354b9c", checked := Try.checked }
namespace Rows
def none {H : Type} : Left H := { results := [], args := [] }

/-- 'laws.FnExactMergeEqual': WHATEVER THE INPUT: true; the input reads as it did. -/
def fnExactMergeEqualSpec : ChangeSpec := { name := "fnExactMergeEqual", fn := fun _ => fun
  | [d1, d2] => { results := [.lit (.bool true)], args := [d1, d2] }
  | _ => none }
def fnExactMergeEqualRow : OpenClaim := { program := "ythafbdpeignccaa", sum := "99a12f0fd780854789dd1452df30a052b33567ac870de22b1abdf854b0354b9c", func := "loop.example/numberparts/laws.FnExactMergeEqual", spec := "fnExactMergeEqual", unfollowed := true, recurses := true, apart := false }
def FnExactMergeEqualSaid : Prop := fnExactMergeEqualRow.holds Try.pinned (OpenSpec.ofChange fnExactMergeEqualSpec)

/-- ITS FALSE NEIGHBOUR: 'it returns false'. Refute it at one input. -/
def fnExactMergeEqualWrong : ChangeSpec := { name := "fnExactMergeEqual", fn := fun _ => fun
  | [d1, d2] => { results := [.lit (.bool false)], args := [d1, d2] }
  | _ => none }
def FnExactMergeEqualWrongFalsely : Prop := fnExactMergeEqualRow.holds Try.pinned (OpenSpec.ofChange fnExactMergeEqualWrong)

/-- 'laws.FnMergeEqual': WHATEVER THE INPUT: true; the input reads as it did. -/
def fnMergeEqualSpec : ChangeSpec := { name := "fnMergeEqual", fn := fun _ => fun
  | [d] => { results := [.lit (.bool true)], args := [d] }
  | _ => none }
def fnMergeEqualRow : OpenClaim := { program := "ythafbdpeignccaa", sum := "99a12f0fd780854789dd1452df30a052b33567ac870de22b1abdf854b0354b9c", func := "loop.example/numberparts/laws.FnMergeEqual", spec := "fnMergeEqual", unfollowed := true, recurses := true, apart := false }
def FnMergeEqualSaid : Prop := fnMergeEqualRow.holds Try.pinned (OpenSpec.ofChange fnMergeEqualSpec)

/-- ITS FALSE NEIGHBOUR: 'it returns false'. Refute it at one input. -/
def fnMergeEqualWrong : ChangeSpec := { name := "fnMergeEqual", fn := fun _ => fun
  | [d] => { results := [.lit (.bool false)], args := [d] }
  | _ => none }
def FnMergeEqualWrongFalsely : Prop := fnMergeEqualRow.holds Try.pinned (OpenSpec.ofChange fnMergeEqualWrong)

/-- 'laws.FnExactSplitEqual': WHATEVER THE INPUT: true; the input reads as it did. -/
def fnExactSplitEqualSpec : ChangeSpec := { name := "fnExactSplitEqual", fn := fun _ => fun
  | [d1, d2] => { results := [.lit (.bool true)], args := [d1, d2] }
  | _ => none }
def fnExactSplitEqualRow : OpenClaim := { program := "ythafbdpeignccaa", sum := "99a12f0fd780854789dd1452df30a052b33567ac870de22b1abdf854b0354b9c", func := "loop.example/numberparts/laws.FnExactSplitEqual", spec := "fnExactSplitEqual", unfollowed := true, recurses := true, apart := false }
def FnExactSplitEqualSaid : Prop := fnExactSplitEqualRow.holds Try.pinned (OpenSpec.ofChange fnExactSplitEqualSpec)

/-- ITS FALSE NEIGHBOUR: 'it returns false'. Refute it at one input. -/
def fnExactSplitEqualWrong : ChangeSpec := { name := "fnExactSplitEqual", fn := fun _ => fun
  | [d1, d2] => { results := [.lit (.bool false)], args := [d1, d2] }
  | _ => none }
def FnExactSplitEqualWrongFalsely : Prop := fnExactSplitEqualRow.holds Try.pinned (OpenSpec.ofChange fnExactSplitEqualWrong)

/-- 'laws.FnSplitEqual': WHATEVER THE INPUT: true; the input reads as it did. -/
def fnSplitEqualSpec : ChangeSpec := { name := "fnSplitEqual", fn := fun _ => fun
  | [d] => { results := [.lit (.bool true)], args := [d] }
  | _ => none }
def fnSplitEqualRow : OpenClaim := { program := "ythafbdpeignccaa", sum := "99a12f0fd780854789dd1452df30a052b33567ac870de22b1abdf854b0354b9c", func := "loop.example/numberparts/laws.FnSplitEqual", spec := "fnSplitEqual", unfollowed := true, recurses := true, apart := false }
def FnSplitEqualSaid : Prop := fnSplitEqualRow.holds Try.pinned (OpenSpec.ofChange fnSplitEqualSpec)

/-- ITS FALSE NEIGHBOUR: 'it returns false'. Refute it at one input. -/
def fnSplitEqualWrong : ChangeSpec := { name := "fnSplitEqual", fn := fun _ => fun
  | [d] => { results := [.lit (.bool false)], args := [d] }
  | _ => none }
def FnSplitEqualWrongFalsely : Prop := fnSplitEqualRow.holds Try.pinned (OpenSpec.ofChange fnSplitEqualWrong)

/-- 'laws.FnExactGrowthsOf': WHATEVER THE INPUT: true; the input reads as it did. -/
def fnExactGrowthsOfSpec : ChangeSpec := { name := "fnExactGrowthsOf", fn := fun _ => fun
  | [d] => { results := [.lit (.bool true)], args := [d] }
  | _ => none }
def fnExactGrowthsOfRow : OpenClaim := { program := "ythafbdpeignccaa", sum := "99a12f0fd780854789dd1452df30a052b33567ac870de22b1abdf854b0354b9c", func := "loop.example/numberparts/laws.FnExactGrowthsOf", spec := "fnExactGrowthsOf", recurses := true, apart := false }
def FnExactGrowthsOfSaid : Prop := fnExactGrowthsOfRow.holds Try.pinned (OpenSpec.ofChange fnExactGrowthsOfSpec)

/-- ITS FALSE NEIGHBOUR: 'it returns false'. Refute it at one input. -/
def fnExactGrowthsOfWrong : ChangeSpec := { name := "fnExactGrowthsOf", fn := fun _ => fun
  | [d] => { results := [.lit (.bool false)], args := [d] }
  | _ => none }
def FnExactGrowthsOfWrongFalsely : Prop := fnExactGrowthsOfRow.holds Try.pinned (OpenSpec.ofChange fnExactGrowthsOfWrong)

/-- 'laws.FnGrowthsOf': WHATEVER THE INPUT: true; the input reads as it did. -/
def fnGrowthsOfSpec : ChangeSpec := { name := "fnGrowthsOf", fn := fun _ => fun
  | [d] => { results := [.lit (.bool true)], args := [d] }
  | _ => none }
def fnGrowthsOfRow : OpenClaim := { program := "ythafbdpeignccaa", sum := "99a12f0fd780854789dd1452df30a052b33567ac870de22b1abdf854b0354b9c", func := "loop.example/numberparts/laws.FnGrowthsOf", spec := "fnGrowthsOf", recurses := true, apart := false }
def FnGrowthsOfSaid : Prop := fnGrowthsOfRow.holds Try.pinned (OpenSpec.ofChange fnGrowthsOfSpec)

/-- ITS FALSE NEIGHBOUR: 'it returns false'. Refute it at one input. -/
def fnGrowthsOfWrong : ChangeSpec := { name := "fnGrowthsOf", fn := fun _ => fun
  | [d] => { results := [.lit (.bool false)], args := [d] }
  | _ => none }
def FnGrowthsOfWrongFalsely : Prop := fnGrowthsOfRow.holds Try.pinned (OpenSpec.ofChange fnGrowthsOfWrong)

/-- 'laws.FnHooksOf': WHATEVER THE INPUT: true; the input reads as it did. -/
def fnHooksOfSpec : ChangeSpec := { name := "fnHooksOf", fn := fun _ => fun
  | [d] => { results := [.lit (.bool true)], args := [d] }
  | _ => none }
def fnHooksOfRow : OpenClaim := { program := "ythafbdpeignccaa", sum := "99a12f0fd780854789dd1452df30a052b33567ac870de22b1abdf854b0354b9c", func := "loop.example/numberparts/laws.FnHooksOf", spec := "fnHooksOf", apart := false }
def FnHooksOfSaid : Prop := fnHooksOfRow.holds Try.pinned (OpenSpec.ofChange fnHooksOfSpec)

/-- ITS FALSE NEIGHBOUR: 'it returns false'. Refute it at one input. -/
def fnHooksOfWrong : ChangeSpec := { name := "fnHooksOf", fn := fun _ => fun
  | [d] => { results := [.lit (.bool false)], args := [d] }
  | _ => none }
def FnHooksOfWrongFalsely : Prop := fnHooksOfRow.holds Try.pinned (OpenSpec.ofChange fnHooksOfWrong)

/-- 'laws.FnExactRefines': WHATEVER THE INPUT: true; the input reads as it did. -/
def fnExactRefinesSpec : ChangeSpec := { name := "fnExactRefines", fn := fun _ => fun
  | [d1, d2] => { results := [.lit (.bool true)], args := [d1, d2] }
  | _ => none }
def fnExactRefinesRow : OpenClaim := { program := "ythafbdpeignccaa", sum := "99a12f0fd780854789dd1452df30a052b33567ac870de22b1abdf854b0354b9c", func := "loop.example/numberparts/laws.FnExactRefines", spec := "fnExactRefines", recurses := true, apart := false }
def FnExactRefinesSaid : Prop := fnExactRefinesRow.holds Try.pinned (OpenSpec.ofChange fnExactRefinesSpec)

/-- ITS FALSE NEIGHBOUR: 'it returns false'. Refute it at one input. -/
def fnExactRefinesWrong : ChangeSpec := { name := "fnExactRefines", fn := fun _ => fun
  | [d1, d2] => { results := [.lit (.bool false)], args := [d1, d2] }
  | _ => none }
def FnExactRefinesWrongFalsely : Prop := fnExactRefinesRow.holds Try.pinned (OpenSpec.ofChange fnExactRefinesWrong)

/-- 'laws.FnRefines': WHATEVER THE INPUT: true; the input reads as it did. -/
def fnRefinesSpec : ChangeSpec := { name := "fnRefines", fn := fun _ => fun
  | [d] => { results := [.lit (.bool true)], args := [d] }
  | _ => none }
def fnRefinesRow : OpenClaim := { program := "ythafbdpeignccaa", sum := "99a12f0fd780854789dd1452df30a052b33567ac870de22b1abdf854b0354b9c", func := "loop.example/numberparts/laws.FnRefines", spec := "fnRefines", recurses := true, apart := false }
def FnRefinesSaid : Prop := fnRefinesRow.holds Try.pinned (OpenSpec.ofChange fnRefinesSpec)

/-- ITS FALSE NEIGHBOUR: 'it returns false'. Refute it at one input. -/
def fnRefinesWrong : ChangeSpec := { name := "fnRefines", fn := fun _ => fun
  | [d] => { results := [.lit (.bool false)], args := [d] }
  | _ => none }
def FnRefinesWrongFalsely : Prop := fnRefinesRow.holds Try.pinned (OpenSpec.ofChange fnRefinesWrong)

/-- 'laws.FnFinerSums': WHATEVER THE INPUT: true; the input reads as it did. -/
def fnFinerSumsSpec : ChangeSpec := { name := "fnFinerSums", fn := fun _ => fun
  | [d] => { results := [.lit (.bool true)], args := [d] }
  | _ => none }
def fnFinerSumsRow : OpenClaim := { program := "ythafbdpeignccaa", sum := "99a12f0fd780854789dd1452df30a052b33567ac870de22b1abdf854b0354b9c", func := "loop.example/numberparts/laws.FnFinerSums", spec := "fnFinerSums", apart := false }
def FnFinerSumsSaid : Prop := fnFinerSumsRow.holds Try.pinned (OpenSpec.ofChange fnFinerSumsSpec)

/-- ITS FALSE NEIGHBOUR: 'it returns false'. Refute it at one input. -/
def fnFinerSumsWrong : ChangeSpec := { name := "fnFinerSums", fn := fun _ => fun
  | [d] => { results := [.lit (.bool false)], args := [d] }
  | _ => none }
def FnFinerSumsWrongFalsely : Prop := fnFinerSumsRow.holds Try.pinned (OpenSpec.ofChange fnFinerSumsWrong)

/- THE SECOND FORM. 'bulk': how many values and letters a reading holds, each counted each time it is reached (what is shared counts as often as it is met; a slice's spare places count too). A statement '..UptoSaid' is the law's where the arguments, and the package variables that the reading takes, are together of bulk at most 1048576: NARROWER than '..Said'. Prove '..Said' where nothing that the law and all that it calls make is longer than what came in: it says more and counts as full. Else prove '..UptoSaid'. A law counts once. -/
mutual
def uptoBulk {H : Type} : DataW H → Nat
  | .lit (.string bytes) => bytes.length + 1
  | .lit _ => 1
  | .nil => 1
  | .ptr d => uptoBulk d + 1
  | .slice elems spare => uptoBulkAll elems + uptoBulkAll spare + 1
  | .agg parts => uptoBulkAll parts + 1
  | .iface _ d => uptoBulk d + 1
  | .map entries => uptoBulkEntries entries + 1
  | .held _ => 1
def uptoBulkAll {H : Type} : List (DataW H) → Nat
  | [] => 0
  | d :: r => uptoBulk d + uptoBulkAll r
def uptoBulkEntries {H : Type} : List (Lit × DataW H) → Nat
  | [] => 0
  | x :: r => uptoBulkEntry x + uptoBulkEntries r
def uptoBulkEntry {H : Type} : Lit × DataW H → Nat
  | (.string bytes, d) => bytes.length + uptoBulk d + 1
  | (_, d) => uptoBulk d + 1
 end
def uptoSmall : (H : Type) → List (DataW H) → Bool := fun _ ds => decide (uptoBulkAll ds ≤ 1048576)
def OpenSpec.upto (s : _root_.Go.ChangeSpec) : _root_.Go.OpenSpec := { _root_.Go.OpenSpec.ofChange s with cond := some uptoSmall }

/-- 'laws.FnExactMergeEqual', WHERE WHAT IT READS IS OF BULK AT MOST 1048576: true; the input reads as it did. -/
def fnExactMergeEqualUptoRow : OpenClaim := { program := "ythafbdpeignccaa", sum := "99a12f0fd780854789dd1452df30a052b33567ac870de22b1abdf854b0354b9c", func := "loop.example/numberparts/laws.FnExactMergeEqual", spec := "fnExactMergeEqual", unfollowed := true, recurses := true, apart := false, narrowed := true }
def FnExactMergeEqualUptoSaid : Prop := fnExactMergeEqualUptoRow.holds Try.pinned (OpenSpec.upto fnExactMergeEqualSpec)

/-- 'laws.FnMergeEqual', WHERE WHAT IT READS IS OF BULK AT MOST 1048576: true; the input reads as it did. -/
def fnMergeEqualUptoRow : OpenClaim := { program := "ythafbdpeignccaa", sum := "99a12f0fd780854789dd1452df30a052b33567ac870de22b1abdf854b0354b9c", func := "loop.example/numberparts/laws.FnMergeEqual", spec := "fnMergeEqual", unfollowed := true, recurses := true, apart := false, narrowed := true }
def FnMergeEqualUptoSaid : Prop := fnMergeEqualUptoRow.holds Try.pinned (OpenSpec.upto fnMergeEqualSpec)

/-- 'laws.FnExactSplitEqual', WHERE WHAT IT READS IS OF BULK AT MOST 1048576: true; the input reads as it did. -/
def fnExactSplitEqualUptoRow : OpenClaim := { program := "ythafbdpeignccaa", sum := "99a12f0fd780854789dd1452df30a052b33567ac870de22b1abdf854b0354b9c", func := "loop.example/numberparts/laws.FnExactSplitEqual", spec := "fnExactSplitEqual", unfollowed := true, recurses := true, apart := false, narrowed := true }
def FnExactSplitEqualUptoSaid : Prop := fnExactSplitEqualUptoRow.holds Try.pinned (OpenSpec.upto fnExactSplitEqualSpec)

/-- 'laws.FnSplitEqual', WHERE WHAT IT READS IS OF BULK AT MOST 1048576: true; the input reads as it did. -/
def fnSplitEqualUptoRow : OpenClaim := { program := "ythafbdpeignccaa", sum := "99a12f0fd780854789dd1452df30a052b33567ac870de22b1abdf854b0354b9c", func := "loop.example/numberparts/laws.FnSplitEqual", spec := "fnSplitEqual", unfollowed := true, recurses := true, apart := false, narrowed := true }
def FnSplitEqualUptoSaid : Prop := fnSplitEqualUptoRow.holds Try.pinned (OpenSpec.upto fnSplitEqualSpec)

/-- 'laws.FnExactGrowthsOf', WHERE WHAT IT READS IS OF BULK AT MOST 1048576: true; the input reads as it did. -/
def fnExactGrowthsOfUptoRow : OpenClaim := { program := "ythafbdpeignccaa", sum := "99a12f0fd780854789dd1452df30a052b33567ac870de22b1abdf854b0354b9c", func := "loop.example/numberparts/laws.FnExactGrowthsOf", spec := "fnExactGrowthsOf", recurses := true, apart := false, narrowed := true }
def FnExactGrowthsOfUptoSaid : Prop := fnExactGrowthsOfUptoRow.holds Try.pinned (OpenSpec.upto fnExactGrowthsOfSpec)

/-- 'laws.FnGrowthsOf', WHERE WHAT IT READS IS OF BULK AT MOST 1048576: true; the input reads as it did. -/
def fnGrowthsOfUptoRow : OpenClaim := { program := "ythafbdpeignccaa", sum := "99a12f0fd780854789dd1452df30a052b33567ac870de22b1abdf854b0354b9c", func := "loop.example/numberparts/laws.FnGrowthsOf", spec := "fnGrowthsOf", recurses := true, apart := false, narrowed := true }
def FnGrowthsOfUptoSaid : Prop := fnGrowthsOfUptoRow.holds Try.pinned (OpenSpec.upto fnGrowthsOfSpec)

/-- 'laws.FnHooksOf', WHERE WHAT IT READS IS OF BULK AT MOST 1048576: true; the input reads as it did. -/
def fnHooksOfUptoRow : OpenClaim := { program := "ythafbdpeignccaa", sum := "99a12f0fd780854789dd1452df30a052b33567ac870de22b1abdf854b0354b9c", func := "loop.example/numberparts/laws.FnHooksOf", spec := "fnHooksOf", apart := false, narrowed := true }
def FnHooksOfUptoSaid : Prop := fnHooksOfUptoRow.holds Try.pinned (OpenSpec.upto fnHooksOfSpec)

/-- 'laws.FnExactRefines', WHERE WHAT IT READS IS OF BULK AT MOST 1048576: true; the input reads as it did. -/
def fnExactRefinesUptoRow : OpenClaim := { program := "ythafbdpeignccaa", sum := "99a12f0fd780854789dd1452df30a052b33567ac870de22b1abdf854b0354b9c", func := "loop.example/numberparts/laws.FnExactRefines", spec := "fnExactRefines", recurses := true, apart := false, narrowed := true }
def FnExactRefinesUptoSaid : Prop := fnExactRefinesUptoRow.holds Try.pinned (OpenSpec.upto fnExactRefinesSpec)

/-- 'laws.FnRefines', WHERE WHAT IT READS IS OF BULK AT MOST 1048576: true; the input reads as it did. -/
def fnRefinesUptoRow : OpenClaim := { program := "ythafbdpeignccaa", sum := "99a12f0fd780854789dd1452df30a052b33567ac870de22b1abdf854b0354b9c", func := "loop.example/numberparts/laws.FnRefines", spec := "fnRefines", recurses := true, apart := false, narrowed := true }
def FnRefinesUptoSaid : Prop := fnRefinesUptoRow.holds Try.pinned (OpenSpec.upto fnRefinesSpec)

/-- 'laws.FnFinerSums', WHERE WHAT IT READS IS OF BULK AT MOST 1048576: true; the input reads as it did. -/
def fnFinerSumsUptoRow : OpenClaim := { program := "ythafbdpeignccaa", sum := "99a12f0fd780854789dd1452df30a052b33567ac870de22b1abdf854b0354b9c", func := "loop.example/numberparts/laws.FnFinerSums", spec := "fnFinerSums", apart := false, narrowed := true }
def FnFinerSumsUptoSaid : Prop := fnFinerSumsUptoRow.holds Try.pinned (OpenSpec.upto fnFinerSumsSpec)

end Rows
end Go.Proofs.Ythafbdpeignccaa
