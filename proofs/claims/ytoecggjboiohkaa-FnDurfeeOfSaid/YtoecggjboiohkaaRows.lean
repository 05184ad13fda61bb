/-
  No cell of these rows narrows 'for every input' (looked for: loops, veiled, ifaces, maps, wideKeys, modest, calm, conditions, laid).
  DERIVED. THE GIVEN ROWS OF THIS SEAT. 8 by the template 'for every input the law returns true; each argument reads behind the call as it read before'; 0 by the template 'total and deterministic' (their statements: YtoecggjboiohkaaTotals.lean).
  GIVEN WITH THE SEED: the statements are not yours to turn. If you find one false, say at which input.
  Laid BY PROGRAM, IN A SANDBOX (cutbox-rows.mjs): the forced cells as the released guide's own fill.sh prints them over the translation bee1e8d70532ff1c… (all of the seat's roots in one cut). By AI agents, Wed Nov 11 2026. No macro, syntax, notation, axiom, sorry.
-/
import Derived.Test.YtoecggjboiohkaaChecked
import GoSem.Claim
import GoSem.ClaimJoined
import GoSem.ClaimMapViews
import Derived.JoinedTies
import Derived.KernelRfl
namespace Go.Proofs.Ytoecggjboiohkaa
/- THE CELL 'sum', in the pinned program and in every row, IS THE sha256 OF THE DUMP (.gsa) THAT YtoecggjboiohkaaProg.lean LOADS. Nothing in Lean hashes anything: it is a label: what it is worth is what the hold of that sum in a sandbox is worth. -/
noncomputable def Try.pinned : Pinned := { name := "ytoecggjboiohkaa", sum := "bee1e8d70532ff1c48ff8ca5a2e20f6baaac96acb2296dda492d4f2968cd9808", checked := Try.checked }
namespace Rows
def none {H : Type} : Left H := { results := [], args := [] }

/-- 'laws.FnValidParts': WHATEVER THE INPUT: true; the input reads as it did. -/
def fnValidPartsSpec : ChangeSpec := { name := "fnValidParts", fn := fun _ => fun
  | [d] => { results := [.lit (.bool true)], args := [d] }
  | _ => none }
def fnValidPartsRow : OpenClaim := { program := "ytoecggjboiohkaa", sum := "bee1e8d70532ff1c48ff8ca5a2e20f6baaac96acb2296dda492d4f2968cd9808", func := "loop.example/numberparts/laws.FnValidParts", spec := "fnValidParts", apart := false }
def FnValidPartsSaid : Prop := fnValidPartsRow.holds Try.pinned (OpenSpec.ofChange fnValidPartsSpec)

/-- ITS FALSE NEIGHBOUR: 'it returns false'. Refute it at one input. -/
def fnValidPartsWrong : ChangeSpec := { name := "fnValidParts", fn := fun _ => fun
  | [d] => { results := [.lit (.bool false)], args := [d] }
  | _ => none }
def FnValidPartsWrongFalsely : Prop := fnValidPartsRow.holds Try.pinned (OpenSpec.ofChange fnValidPartsWrong)

/-- 'laws.FnExactValidParts': WHATEVER THE INPUT: true; the input reads as it did. -/
def fnExactValidPartsSpec : ChangeSpec := { name := "fnExactValidParts", fn := fun _ => fun
  | [d] => { results := [.lit (.bool true)], args := [d] }
  | _ => none }
def fnExactValidPartsRow : OpenClaim := { program := "ytoecggjboiohkaa", sum := "bee1e8d70532ff1c48ff8ca5a2e20f6baaac96acb2296dda492d4f2968cd9808", func := "loop.example/numberparts/laws.FnExactValidParts", spec := "fnExactValidParts", apart := false }
def FnExactValidPartsSaid : Prop := fnExactValidPartsRow.holds Try.pinned (OpenSpec.ofChange fnExactValidPartsSpec)

/-- ITS FALSE NEIGHBOUR: 'it returns false'. Refute it at one input. -/
def fnExactValidPartsWrong : ChangeSpec := { name := "fnExactValidParts", fn := fun _ => fun
  | [d] => { results := [.lit (.bool false)], args := [d] }
  | _ => none }
def FnExactValidPartsWrongFalsely : Prop := fnExactValidPartsRow.holds Try.pinned (OpenSpec.ofChange fnExactValidPartsWrong)

/-- 'laws.FnSumOf': WHATEVER THE INPUT: true; the input reads as it did. -/
def fnSumOfSpec : ChangeSpec := { name := "fnSumOf", fn := fun _ => fun
  | [d] => { results := [.lit (.bool true)], args := [d] }
  | _ => none }
def fnSumOfRow : OpenClaim := { program := "ytoecggjboiohkaa", sum := "bee1e8d70532ff1c48ff8ca5a2e20f6baaac96acb2296dda492d4f2968cd9808", func := "loop.example/numberparts/laws.FnSumOf", spec := "fnSumOf", apart := false }
def FnSumOfSaid : Prop := fnSumOfRow.holds Try.pinned (OpenSpec.ofChange fnSumOfSpec)

/-- ITS FALSE NEIGHBOUR: 'it returns false'. Refute it at one input. -/
def fnSumOfWrong : ChangeSpec := { name := "fnSumOf", fn := fun _ => fun
  | [d] => { results := [.lit (.bool false)], args := [d] }
  | _ => none }
def FnSumOfWrongFalsely : Prop := fnSumOfRow.holds Try.pinned (OpenSpec.ofChange fnSumOfWrong)

/-- 'laws.FnExactSumOf': WHATEVER THE INPUT: true; the input reads as it did. -/
def fnExactSumOfSpec : ChangeSpec := { name := "fnExactSumOf", fn := fun _ => fun
  | [d] => { results := [.lit (.bool true)], args := [d] }
  | _ => none }
def fnExactSumOfRow : OpenClaim := { program := "ytoecggjboiohkaa", sum := "bee1e8d70532ff1c48ff8ca5a2e20f6baaac96acb2296dda492d4f2968cd9808", func := "loop.example/numberparts/laws.FnExactSumOf", spec := "fnExactSumOf", apart := false }
def FnExactSumOfSaid : Prop := fnExactSumOfRow.holds Try.pinned (OpenSpec.ofChange fnExactSumOfSpec)

/-- ITS FALSE NEIGHBOUR: 'it returns false'. Refute it at one input. -/
def fnExactSumOfWrong : ChangeSpec := { name := "fnExactSumOf", fn := fun _ => fun
  | [d] => { results := [.lit (.bool false)], args := [d] }
  | _ => none }
def FnExactSumOfWrongFalsely : Prop := fnExactSumOfRow.holds Try.pinned (OpenSpec.ofChange fnExactSumOfWrong)

/-- 'laws.FnConjugateOf': WHATEVER THE INPUT: true; the input reads as it did. -/
def fnConjugateOfSpec : ChangeSpec := { name := "fnConjugateOf", fn := fun _ => fun
  | [d] => { results := [.lit (.bool true)], args := [d] }
  | _ => none }
def fnConjugateOfRow : OpenClaim := { program := "ytoecggjboiohkaa", sum := "bee1e8d70532ff1c48ff8ca5a2e20f6baaac96acb2296dda492d4f2968cd9808", func := "loop.example/numberparts/laws.FnConjugateOf", spec := "fnConjugateOf", apart := false }
def FnConjugateOfSaid : Prop := fnConjugateOfRow.holds Try.pinned (OpenSpec.ofChange fnConjugateOfSpec)

/-- ITS FALSE NEIGHBOUR: 'it returns false'. Refute it at one input. -/
def fnConjugateOfWrong : ChangeSpec := { name := "fnConjugateOf", fn := fun _ => fun
  | [d] => { results := [.lit (.bool false)], args := [d] }
  | _ => none }
def FnConjugateOfWrongFalsely : Prop := fnConjugateOfRow.holds Try.pinned (OpenSpec.ofChange fnConjugateOfWrong)

/-- 'laws.FnExactConjugateOf': WHATEVER THE INPUT: true; the input reads as it did. -/
def fnExactConjugateOfSpec : ChangeSpec := { name := "fnExactConjugateOf", fn := fun _ => fun
  | [d] => { results := [.lit (.bool true)], args := [d] }
  | _ => none }
def fnExactConjugateOfRow : OpenClaim := { program := "ytoecggjboiohkaa", sum := "bee1e8d70532ff1c48ff8ca5a2e20f6baaac96acb2296dda492d4f2968cd9808", func := "loop.example/numberparts/laws.FnExactConjugateOf", spec := "fnExactConjugateOf", apart := false }
def FnExactConjugateOfSaid : Prop := fnExactConjugateOfRow.holds Try.pinned (OpenSpec.ofChange fnExactConjugateOfSpec)

/-- ITS FALSE NEIGHBOUR: 'it returns false'. Refute it at one input. -/
def fnExactConjugateOfWrong : ChangeSpec := { name := "fnExactConjugateOf", fn := fun _ => fun
  | [d] => { results := [.lit (.bool false)], args := [d] }
  | _ => none }
def FnExactConjugateOfWrongFalsely : Prop := fnExactConjugateOfRow.holds Try.pinned (OpenSpec.ofChange fnExactConjugateOfWrong)

/-- 'laws.FnDurfeeOf': WHATEVER THE INPUT: true; the input reads as it did. -/
def fnDurfeeOfSpec : ChangeSpec := { name := "fnDurfeeOf", fn := fun _ => fun
  | [d] => { results := [.lit (.bool true)], args := [d] }
  | _ => none }
def fnDurfeeOfRow : OpenClaim := { program := "ytoecggjboiohkaa", sum := "bee1e8d70532ff1c48ff8ca5a2e20f6baaac96acb2296dda492d4f2968cd9808", func := "loop.example/numberparts/laws.FnDurfeeOf", spec := "fnDurfeeOf", apart := false }
def FnDurfeeOfSaid : Prop := fnDurfeeOfRow.holds Try.pinned (OpenSpec.ofChange fnDurfeeOfSpec)

/-- ITS FALSE NEIGHBOUR: 'it returns false'. Refute it at one input. -/
def fnDurfeeOfWrong : ChangeSpec := { name := "fnDurfeeOf", fn := fun _ => fun
  | [d] => { results := [.lit (.bool false)], args := [d] }
  | _ => none }
def FnDurfeeOfWrongFalsely : Prop := fnDurfeeOfRow.holds Try.pinned (OpenSpec.ofChange fnDurfeeOfWrong)

/-- 'laws.FnExactDurfeeOf': WHATEVER THE INPUT: true; the input reads as it did. -/
def fnExactDurfeeOfSpec : ChangeSpec := { name := "fnExactDurfeeOf", fn := fun _ => fun
  | [d] => { results := [.lit (.bool true)], args := [d] }
  | _ => none }
def fnExactDurfeeOfRow : OpenClaim := { program := "ytoecggjboiohkaa", sum := "bee1e8d70532ff1c48ff8ca5a2e20f6baaac96acb2296dda492d4f2968cd9808", func := "loop.example/numberparts/laws.FnExactDurfeeOf", spec := "fnExactDurfeeOf", apart := false }
def FnExactDurfeeOfSaid : Prop := fnExactDurfeeOfRow.holds Try.pinned (OpenSpec.ofChange fnExactDurfeeOfSpec)

/-- ITS FALSE NEIGHBOUR: 'it returns false'. Refute it at one input. -/
def fnExactDurfeeOfWrong : ChangeSpec := { name := "fnExactDurfeeOf", fn := fun _ => fun
  | [d] => { results := [.lit (.bool false)], args := [d] }
  | _ => none }
def FnExactDurfeeOfWrongFalsely : Prop := fnExactDurfeeOfRow.holds Try.pinned (OpenSpec.ofChange fnExactDurfeeOfWrong)

/- THE SECOND FORM. 'bulk': how many values and letters a reading holds, each counted each time it is reached (what is shared counts as often as it is met; a slice's spare places count too). A statement '..UptoSaid' is the law's where the arguments, and the package variables that the reading takes, are together of bulk at most 1048576: NARROWER than '..Said'. Prove '..Said' where nothing that the law and all that it calls make is longer than what came in: it says more and counts as full. Else prove '..UptoSaid'. A law counts once. -/
mutual
def uptoBulk {H : Type} : DataW H → Nat
  | .lit (.string bytes) => bytes.length + 1
  | .lit _ => 1
  | .nil => 1
  | .ptr d => uptoBulk d + 1
  | .slice elems spare => uptoBulkAll elems + uptoBulkAll spare + 1
  | .agg parts => uptoBulkAll parts + 1
  | .iface _ d => uptoBulk d + 1
  | .map entries => uptoBulkEntries entries + 1
  | .held _ => 1
def uptoBulkAll {H : Type} : List (DataW H) → Nat
  | [] => 0
  | d :: r => uptoBulk d + uptoBulkAll r
def uptoBulkEntries {H : Type} : List (Lit × DataW H) → Nat
  | [] => 0
  | x :: r => uptoBulkEntry x + uptoBulkEntries r
def uptoBulkEntry {H : Type} : Lit × DataW H → Nat
  | (.string bytes, d) => bytes.length + uptoBulk d + 1
  | (_, d) => uptoBulk d + 1
 end
def uptoSmall : (H : Type) → List (DataW H) → Bool := fun _ ds => decide (uptoBulkAll ds ≤ 1048576)
def OpenSpec.upto (s : _root_.Go.ChangeSpec) : _root_.Go.OpenSpec := { _root_.Go.OpenSpec.ofChange s with cond := some uptoSmall }

/-- 'laws.FnValidParts', WHERE WHAT IT READS IS OF BULK AT MOST 1048576: true; the input reads as it did. -/
def fnValidPartsUptoRow : OpenClaim := { program := "ytoecggjboiohkaa", sum := "bee1e8d70532ff1c48ff8ca5a2e20f6baaac96acb2296dda492d4f2968cd9808", func := "loop.example/numberparts/laws.FnValidParts", spec := "fnValidParts", apart := false, narrowed := true }
def FnValidPartsUptoSaid : Prop := fnValidPartsUptoRow.holds Try.pinned (OpenSpec.upto fnValidPartsSpec)

/-- 'laws.FnExactValidParts', WHERE WHAT IT READS IS OF BULK AT MOST 1048576: true; the input reads as it did. -/
def fnExactValidPartsUptoRow : OpenClaim := { program := "ytoecggjboiohkaa", sum := "bee1e8d70532ff1c48ff8ca5a2e20f6baaac96acb2296dda492d4f2968cd9808", func := "loop.example/numberparts/laws.FnExactValidParts", spec := "fnExactValidParts", apart := false, narrowed := true }
def FnExactValidPartsUptoSaid : Prop := fnExactValidPartsUptoRow.holds Try.pinned (OpenSpec.upto fnExactValidPartsSpec)

/-- 'laws.FnSumOf', WHERE WHAT IT READS IS OF BULK AT MOST 1048576: true; the input reads as it did. -/
def fnSumOfUptoRow : OpenClaim := { program := "ytoecggjboiohkaa", sum := "bee1e8d70532ff1c48ff8ca5a2e20f6baaac96acb2296dda492d4f2968cd9808", func := "loop.example/numberparts/laws.FnSumOf", spec := "fnSumOf", apart := false, narrowed := true }
def FnSumOfUptoSaid : Prop := fnSumOfUptoRow.holds Try.pinned (OpenSpec.upto fnSumOfSpec)

/-- 'laws.FnExactSumOf', WHERE WHAT IT READS IS OF BULK AT MOST 1048576: true; the input reads as it did. -/
def fnExactSumOfUptoRow : OpenClaim := { program := "ytoecggjboiohkaa", sum := "bee1e8d70532ff1c48ff8ca5a2e20f6baaac96acb2296dda492d4f2968cd9808", func := "loop.example/numberparts/laws.FnExactSumOf", spec := "fnExactSumOf", apart := false, narrowed := true }
def FnExactSumOfUptoSaid : Prop := fnExactSumOfUptoRow.holds Try.pinned (OpenSpec.upto fnExactSumOfSpec)

/-- 'laws.FnConjugateOf', WHERE WHAT IT READS IS OF BULK AT MOST 1048576: true; the input reads as it did. -/
def fnConjugateOfUptoRow : OpenClaim := { program := "ytoecggjboiohkaa", sum := "bee1e8d70532ff1c48ff8ca5a2e20f6baaac96acb2296dda492d4f2968cd9808", func := "loop.example/numberparts/laws.FnConjugateOf", spec := "fnConjugateOf", apart := false, narrowed := true }
def FnConjugateOfUptoSaid : Prop := fnConjugateOfUptoRow.holds Try.pinned (OpenSpec.upto fnConjugateOfSpec)

/-- 'laws.FnExactConjugateOf', WHERE WHAT IT READS IS OF BULK AT MOST 1048576: true; the input reads as it did. -/
def fnExactConjugateOfUptoRow : OpenClaim := { program := "ytoecggjboiohkaa", sum := "bee1e8d70532ff1c48ff8ca5a2e20f6baaac96acb2296dda492d4f2968cd9808", func := "loop.example/numberparts/laws.FnExactConjugateOf", spec := "fnExactConjugateOf", apart := false, narrowed := true }
def FnExactConjugateOfUptoSaid : Prop := fnExactConjugateOfUptoRow.holds Try.pinned (OpenSpec.upto fnExactConjugateOfSpec)

/-- 'laws.FnDurfeeOf', WHERE WHAT IT READS IS OF BULK AT MOST 1048576: true; the input reads as it did. -/
def fnDurfeeOfUptoRow : OpenClaim := { program := "ytoecggjboiohkaa", sum := "bee1e8d70532ff1c48ff8ca5a2e20f6baaac96acb2296dda492d4f2968cd9808", func := "loop.example/numberparts/laws.FnDurfeeOf", spec := "fnDurfeeOf", apart := false, narrowed := true }
def FnDurfeeOfUptoSaid : Prop := fnDurfeeOfUptoRow.holds Try.pinned (OpenSpec.upto fnDurfeeOfSpec)

/-- 'laws.FnExactDurfeeOf', WHERE WHAT IT READS IS OF BULK AT MOST 1048576: true; the input reads as it did. -/
def fnExactDurfeeOfUptoRow : OpenClaim := { program := "ytoecggjboiohkaa", sum := "bee1e8d70532ff1c48ff8ca5a2e20f6baaac96acb2296dda492d4f2968cd9808", func := "loop.example/numberparts/laws.FnExactDurfeeOf", spec := "fnExactDurfeeOf", apart := false, narrowed := true }
def FnExactDurfeeOfUptoSaid : Prop := fnExactDurfeeOfUptoRow.holds Try.pinned (OpenSpec.upto fnExactDurfeeOfSpec)

end Rows
end Go.Proofs.Ytoecggjboiohkaa
