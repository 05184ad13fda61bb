/-
  No cell of these rows narrows 'for every input' (looked for: loops, veiled, ifaces, maps, wideKeys, modest, calm, conditions, laid).
  DERIVED. THE GIVEN ROWS OF THIS SEAT. 8 by the template 'for every input the law returns true; each argument reads behind the call as it read before'; 0 by the template 'total and deterministic' (their statements: YtmnlmahjgmhdiaaTotals.lean).
  GIVEN WITH THE SEED: the statements are not yours to turn. If you find one false, say at which input.
  Laid BY PROGRAM, IN A SANDBOX (cutbox-rows.mjs): the forced cells as the released guide's own fill.sh prints them over the translation 89d8581b50586b81… (all of the seat's roots in one cut). By AI agents, Wed Nov 11 2026. No macro, syntax, notation, axiom, sorry.
-/
import Derived.Test.YtmnlmahjgmhdiaaChecked
import GoSem.Claim
import GoSem.ClaimJoined
import GoSem.ClaimMapViews
import Derived.JoinedTies
import Derived.KernelRfl
namespace Go.Proofs.Ytmnlmahjgmhdiaa
/- THE CELL 'sum', in the pinned program and in every row, IS THE sha256 OF THE DUMP (.gsa) THAT YtmnlmahjgmhdiaaProg.lean LOADS. Nothing in Lean hashes anything: it is a label: what it is worth is what the hold of that sum in a sandbox is worth. -/
noncomputable def Try.pinned : Pinned := { name := "ytmnlmahjgmhdiaa", sum := "89d8581b50586b815a33003ab9422d3a44e4311e4cdd27a71ae4b6f4b884c0e0", checked := Try.checked }
namespace Rows
def none {H : Type} : Left H := { results := [], args := [] }

/-- 'laws.FnExactHooksOf': WHATEVER THE INPUT: true; the input reads as it did. -/
def fnExactHooksOfSpec : ChangeSpec := { name := "fnExactHooksOf", fn := fun _ => fun
  | [d] => { results := [.lit (.bool true)], args := [d] }
  | _ => none }
def fnExactHooksOfRow : OpenClaim := { program := "ytmnlmahjgmhdiaa", sum := "89d8581b50586b815a33003ab9422d3a44e4311e4cdd27a71ae4b6f4b884c0e0", func := "loop.example/numberparts/laws.FnExactHooksOf", spec := "fnExactHooksOf", apart := false }
def FnExactHooksOfSaid : Prop := fnExactHooksOfRow.holds Try.pinned (OpenSpec.ofChange fnExactHooksOfSpec)

/-- ITS FALSE NEIGHBOUR: 'it returns false'. Refute it at one input. -/
def fnExactHooksOfWrong : ChangeSpec := { name := "fnExactHooksOf", fn := fun _ => fun
  | [d] => { results := [.lit (.bool false)], args := [d] }
  | _ => none }
def FnExactHooksOfWrongFalsely : Prop := fnExactHooksOfRow.holds Try.pinned (OpenSpec.ofChange fnExactHooksOfWrong)

/-- 'laws.FnHooksOf': WHATEVER THE INPUT: true; the input reads as it did. -/
def fnHooksOfSpec : ChangeSpec := { name := "fnHooksOf", fn := fun _ => fun
  | [d] => { results := [.lit (.bool true)], args := [d] }
  | _ => none }
def fnHooksOfRow : OpenClaim := { program := "ytmnlmahjgmhdiaa", sum := "89d8581b50586b815a33003ab9422d3a44e4311e4cdd27a71ae4b6f4b884c0e0", func := "loop.example/numberparts/laws.FnHooksOf", spec := "fnHooksOf", apart := false }
def FnHooksOfSaid : Prop := fnHooksOfRow.holds Try.pinned (OpenSpec.ofChange fnHooksOfSpec)

/-- ITS FALSE NEIGHBOUR: 'it returns false'. Refute it at one input. -/
def fnHooksOfWrong : ChangeSpec := { name := "fnHooksOf", fn := fun _ => fun
  | [d] => { results := [.lit (.bool false)], args := [d] }
  | _ => none }
def FnHooksOfWrongFalsely : Prop := fnHooksOfRow.holds Try.pinned (OpenSpec.ofChange fnHooksOfWrong)

/-- 'laws.FnExactGrowthsOf': WHATEVER THE INPUT: true; the input reads as it did. -/
def fnExactGrowthsOfSpec : ChangeSpec := { name := "fnExactGrowthsOf", fn := fun _ => fun
  | [d] => { results := [.lit (.bool true)], args := [d] }
  | _ => none }
def fnExactGrowthsOfRow : OpenClaim := { program := "ytmnlmahjgmhdiaa", sum := "89d8581b50586b815a33003ab9422d3a44e4311e4cdd27a71ae4b6f4b884c0e0", func := "loop.example/numberparts/laws.FnExactGrowthsOf", spec := "fnExactGrowthsOf", recurses := true, apart := false }
def FnExactGrowthsOfSaid : Prop := fnExactGrowthsOfRow.holds Try.pinned (OpenSpec.ofChange fnExactGrowthsOfSpec)

/-- ITS FALSE NEIGHBOUR: 'it returns false'. Refute it at one input. -/
def fnExactGrowthsOfWrong : ChangeSpec := { name := "fnExactGrowthsOf", fn := fun _ => fun
  | [d] => { results := [.lit (.bool false)], args := [d] }
  | _ => none }
def FnExactGrowthsOfWrongFalsely : Prop := fnExactGrowthsOfRow.holds Try.pinned (OpenSpec.ofChange fnExactGrowthsOfWrong)

/-- 'laws.FnGrowthsOf': WHATEVER THE INPUT: true; the input reads as it did. -/
def fnGrowthsOfSpec : ChangeSpec := { name := "fnGrowthsOf", fn := fun _ => fun
  | [d] => { results := [.lit (.bool true)], args := [d] }
  | _ => none }
def fnGrowthsOfRow : OpenClaim := { program := "ytmnlmahjgmhdiaa", sum := "89d8581b50586b815a33003ab9422d3a44e4311e4cdd27a71ae4b6f4b884c0e0", func := "loop.example/numberparts/laws.FnGrowthsOf", spec := "fnGrowthsOf", recurses := true, apart := false }
def FnGrowthsOfSaid : Prop := fnGrowthsOfRow.holds Try.pinned (OpenSpec.ofChange fnGrowthsOfSpec)

/-- ITS FALSE NEIGHBOUR: 'it returns false'. Refute it at one input. -/
def fnGrowthsOfWrong : ChangeSpec := { name := "fnGrowthsOf", fn := fun _ => fun
  | [d] => { results := [.lit (.bool false)], args := [d] }
  | _ => none }
def FnGrowthsOfWrongFalsely : Prop := fnGrowthsOfRow.holds Try.pinned (OpenSpec.ofChange fnGrowthsOfWrong)

/-- 'laws.FnExactCoversOf': WHATEVER THE INPUT: true; the input reads as it did. -/
def fnExactCoversOfSpec : ChangeSpec := { name := "fnExactCoversOf", fn := fun _ => fun
  | [d] => { results := [.lit (.bool true)], args := [d] }
  | _ => none }
def fnExactCoversOfRow : OpenClaim := { program := "ytmnlmahjgmhdiaa", sum := "89d8581b50586b815a33003ab9422d3a44e4311e4cdd27a71ae4b6f4b884c0e0", func := "loop.example/numberparts/laws.FnExactCoversOf", spec := "fnExactCoversOf", unfollowed := true, recurses := true, apart := false }
def FnExactCoversOfSaid : Prop := fnExactCoversOfRow.holds Try.pinned (OpenSpec.ofChange fnExactCoversOfSpec)

/-- ITS FALSE NEIGHBOUR: 'it returns false'. Refute it at one input. -/
def fnExactCoversOfWrong : ChangeSpec := { name := "fnExactCoversOf", fn := fun _ => fun
  | [d] => { results := [.lit (.bool false)], args := [d] }
  | _ => none }
def FnExactCoversOfWrongFalsely : Prop := fnExactCoversOfRow.holds Try.pinned (OpenSpec.ofChange fnExactCoversOfWrong)

/-- 'laws.FnCoversOf': WHATEVER THE INPUT: true; the input reads as it did. -/
def fnCoversOfSpec : ChangeSpec := { name := "fnCoversOf", fn := fun _ => fun
  | [d] => { results := [.lit (.bool true)], args := [d] }
  | _ => none }
def fnCoversOfRow : OpenClaim := { program := "ytmnlmahjgmhdiaa", sum := "89d8581b50586b815a33003ab9422d3a44e4311e4cdd27a71ae4b6f4b884c0e0", func := "loop.example/numberparts/laws.FnCoversOf", spec := "fnCoversOf", unfollowed := true, recurses := true, apart := false }
def FnCoversOfSaid : Prop := fnCoversOfRow.holds Try.pinned (OpenSpec.ofChange fnCoversOfSpec)

/-- ITS FALSE NEIGHBOUR: 'it returns false'. Refute it at one input. -/
def fnCoversOfWrong : ChangeSpec := { name := "fnCoversOf", fn := fun _ => fun
  | [d] => { results := [.lit (.bool false)], args := [d] }
  | _ => none }
def FnCoversOfWrongFalsely : Prop := fnCoversOfRow.holds Try.pinned (OpenSpec.ofChange fnCoversOfWrong)

/-- 'laws.FnExactCoversUp': WHATEVER THE INPUT: true; the input reads as it did. -/
def fnExactCoversUpSpec : ChangeSpec := { name := "fnExactCoversUp", fn := fun _ => fun
  | [d] => { results := [.lit (.bool true)], args := [d] }
  | _ => none }
def fnExactCoversUpRow : OpenClaim := { program := "ytmnlmahjgmhdiaa", sum := "89d8581b50586b815a33003ab9422d3a44e4311e4cdd27a71ae4b6f4b884c0e0", func := "loop.example/numberparts/laws.FnExactCoversUp", spec := "fnExactCoversUp", unfollowed := true, recurses := true, apart := false }
def FnExactCoversUpSaid : Prop := fnExactCoversUpRow.holds Try.pinned (OpenSpec.ofChange fnExactCoversUpSpec)

/-- ITS FALSE NEIGHBOUR: 'it returns false'. Refute it at one input. -/
def fnExactCoversUpWrong : ChangeSpec := { name := "fnExactCoversUp", fn := fun _ => fun
  | [d] => { results := [.lit (.bool false)], args := [d] }
  | _ => none }
def FnExactCoversUpWrongFalsely : Prop := fnExactCoversUpRow.holds Try.pinned (OpenSpec.ofChange fnExactCoversUpWrong)

/-- 'laws.FnCoversUp': WHATEVER THE INPUT: true; the input reads as it did. -/
def fnCoversUpSpec : ChangeSpec := { name := "fnCoversUp", fn := fun _ => fun
  | [d] => { results := [.lit (.bool true)], args := [d] }
  | _ => none }
def fnCoversUpRow : OpenClaim := { program := "ytmnlmahjgmhdiaa", sum := "89d8581b50586b815a33003ab9422d3a44e4311e4cdd27a71ae4b6f4b884c0e0", func := "loop.example/numberparts/laws.FnCoversUp", spec := "fnCoversUp", unfollowed := true, recurses := true, apart := false }
def FnCoversUpSaid : Prop := fnCoversUpRow.holds Try.pinned (OpenSpec.ofChange fnCoversUpSpec)

/-- ITS FALSE NEIGHBOUR: 'it returns false'. Refute it at one input. -/
def fnCoversUpWrong : ChangeSpec := { name := "fnCoversUp", fn := fun _ => fun
  | [d] => { results := [.lit (.bool false)], args := [d] }
  | _ => none }
def FnCoversUpWrongFalsely : Prop := fnCoversUpRow.holds Try.pinned (OpenSpec.ofChange fnCoversUpWrong)

/- THE SECOND FORM. 'bulk': how many values and letters a reading holds, each counted each time it is reached (what is shared counts as often as it is met; a slice's spare places count too). A statement '..UptoSaid' is the law's where the arguments, and the package variables that the reading takes, are together of bulk at most 1048576: NARROWER than '..Said'. Prove '..Said' where nothing that the law and all that it calls make is longer than what came in: it says more and counts as full. Else prove '..UptoSaid'. A law counts once. -/
mutual
def uptoBulk {H : Type} : DataW H → Nat
  | .lit (.string bytes) => bytes.length + 1
  | .lit _ => 1
  | .nil => 1
  | .ptr d => uptoBulk d + 1
  | .slice elems spare => uptoBulkAll elems + uptoBulkAll spare + 1
  | .agg parts => uptoBulkAll parts + 1
  | .iface _ d => uptoBulk d + 1
  | .map entries => uptoBulkEntries entries + 1
  | .held _ => 1
def uptoBulkAll {H : Type} : List (DataW H) → Nat
  | [] => 0
  | d :: r => uptoBulk d + uptoBulkAll r
def uptoBulkEntries {H : Type} : List (Lit × DataW H) → Nat
  | [] => 0
  | x :: r => uptoBulkEntry x + uptoBulkEntries r
def uptoBulkEntry {H : Type} : Lit × DataW H → Nat
  | (.string bytes, d) => bytes.length + uptoBulk d + 1
  | (_, d) => uptoBulk d + 1
 end
def uptoSmall : (H : Type) → List (DataW H) → Bool := fun _ ds => decide (uptoBulkAll ds ≤ 1048576)
def OpenSpec.upto (s : _root_.Go.ChangeSpec) : _root_.Go.OpenSpec := { _root_.Go.OpenSpec.ofChange s with cond := some uptoSmall }

/-- 'laws.FnExactHooksOf', WHERE WHAT IT READS IS OF BULK AT MOST 1048576: true; the input reads as it did. -/
def fnExactHooksOfUptoRow : OpenClaim := { program := "ytmnlmahjgmhdiaa", sum := "89d8581b50586b815a33003ab9422d3a44e4311e4cdd27a71ae4b6f4b884c0e0", func := "loop.example/numberparts/laws.FnExactHooksOf", spec := "fnExactHooksOf", apart := false, narrowed := true }
def FnExactHooksOfUptoSaid : Prop := fnExactHooksOfUptoRow.holds Try.pinned (OpenSpec.upto fnExactHooksOfSpec)

/-- 'laws.FnHooksOf', WHERE WHAT IT READS IS OF BULK AT MOST 1048576: true; the input reads as it did. -/
def fnHooksOfUptoRow : OpenClaim := { program := "ytmnlmahjgmhdiaa", sum := "89d8581b50586b815a33003ab9422d3a44e4311e4cdd27a71ae4b6f4b884c0e0", func := "loop.example/numberparts/laws.FnHooksOf", spec := "fnHooksOf", apart := false, narrowed := true }
def FnHooksOfUptoSaid : Prop := fnHooksOfUptoRow.holds Try.pinned (OpenSpec.upto fnHooksOfSpec)

/-- 'laws.FnExactGrowthsOf', WHERE WHAT IT READS IS OF BULK AT MOST 1048576: true; the input reads as it did. -/
def fnExactGrowthsOfUptoRow : OpenClaim := { program := "ytmnlmahjgmhdiaa", sum := "89d8581b50586b815a33003ab9422d3a44e4311e4cdd27a71ae4b6f4b884c0e0", func := "loop.example/numberparts/laws.FnExactGrowthsOf", spec := "fnExactGrowthsOf", recurses := true, apart := false, narrowed := true }
def FnExactGrowthsOfUptoSaid : Prop := fnExactGrowthsOfUptoRow.holds Try.pinned (OpenSpec.upto fnExactGrowthsOfSpec)

/-- 'laws.FnGrowthsOf', WHERE WHAT IT READS IS OF BULK AT MOST 1048576: true; the input reads as it did. -/
def fnGrowthsOfUptoRow : OpenClaim := { program := "ytmnlmahjgmhdiaa", sum := "89d8581b50586b815a33003ab9422d3a44e4311e4cdd27a71ae4b6f4b884c0e0", func := "loop.example/numberparts/laws.FnGrowthsOf", spec := "fnGrowthsOf", recurses := true, apart := false, narrowed := true }
def FnGrowthsOfUptoSaid : Prop := fnGrowthsOfUptoRow.holds Try.pinned (OpenSpec.upto fnGrowthsOfSpec)

/-- 'laws.FnExactCoversOf', WHERE WHAT IT READS IS OF BULK AT MOST 1048576: true; the input reads as it did. -/
def fnExactCoversOfUptoRow : OpenClaim := { program := "ytmnlmahjgmhdiaa", sum := "89d8581b50586b815a33003ab9422d3a44e4311e4cdd27a71ae4b6f4b884c0e0", func := "loop.example/numberparts/laws.FnExactCoversOf", spec := "fnExactCoversOf", unfollowed := true, recurses := true, apart := false, narrowed := true }
def FnExactCoversOfUptoSaid : Prop := fnExactCoversOfUptoRow.holds Try.pinned (OpenSpec.upto fnExactCoversOfSpec)

/-- 'laws.FnCoversOf', WHERE WHAT IT READS IS OF BULK AT MOST 1048576: true; the input reads as it did. -/
def fnCoversOfUptoRow : OpenClaim := { program := "ytmnlmahjgmhdiaa", sum := "89d8581b50586b815a33003ab9422d3a44e4311e4cdd27a71ae4b6f4b884c0e0", func := "loop.example/numberparts/laws.FnCoversOf", spec := "fnCoversOf", unfollowed := true, recurses := true, apart := false, narrowed := true }
def FnCoversOfUptoSaid : Prop := fnCoversOfUptoRow.holds Try.pinned (OpenSpec.upto fnCoversOfSpec)

/-- 'laws.FnExactCoversUp', WHERE WHAT IT READS IS OF BULK AT MOST 1048576: true; the input reads as it did. -/
def fnExactCoversUpUptoRow : OpenClaim := { program := "ytmnlmahjgmhdiaa", sum := "89d8581b50586b815a33003ab9422d3a44e4311e4cdd27a71ae4b6f4b884c0e0", func := "loop.example/numberparts/laws.FnExactCoversUp", spec := "fnExactCoversUp", unfollowed := true, recurses := true, apart := false, narrowed := true }
def FnExactCoversUpUptoSaid : Prop := fnExactCoversUpUptoRow.holds Try.pinned (OpenSpec.upto fnExactCoversUpSpec)

/-- 'laws.FnCoversUp', WHERE WHAT IT READS IS OF BULK AT MOST 1048576: true; the input reads as it did. -/
def fnCoversUpUptoRow : OpenClaim := { program := "ytmnlmahjgmhdiaa", sum := "89d8581b50586b815a33003ab9422d3a44e4311e4cdd27a71ae4b6f4b884c0e0", func := "loop.example/numberparts/laws.FnCoversUp", spec := "fnCoversUp", unfollowed := true, recurses := true, apart := false, narrowed := true }
def FnCoversUpUptoSaid : Prop := fnCoversUpUptoRow.holds Try.pinned (OpenSpec.upto fnCoversUpSpec)

end Rows
end Go.Proofs.Ytmnlmahjgmhdiaa
