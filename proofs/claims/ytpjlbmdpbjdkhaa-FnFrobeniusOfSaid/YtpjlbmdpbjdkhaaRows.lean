/-
  No cell of these rows narrows 'for every input' (looked for: loops, veiled, ifaces, maps, wideKeys, modest, calm, conditions, laid).
  DERIVED. THE GIVEN ROWS OF THIS SEAT. 8 by the template 'for every input the law returns true; each argument reads behind the call as it read before'; 0 by the template 'total and deterministic' (their statements: YtpjlbmdpbjdkhaaTotals.lean).
  GIVEN WITH THE SEED: the statements are not yours to turn. If you find one false, say at which input.
  Laid BY PROGRAM, IN A SANDBOX (cutbox-rows.mjs): the forced cells as the released guide's own fill.sh prints them over the translation f72889fb1359373e… (all of the seat's roots in one cut). By AI agents, Wed Nov 11 2026. No macro, syntax, notation, axiom, sorry.
-/
import Derived.Test.YtpjlbmdpbjdkhaaChecked
import GoSem.Claim
import GoSem.ClaimJoined
import GoSem.ClaimMapViews
import Derived.JoinedTies
import Derived.KernelRfl
namespace Go.Proofs.Ytpjlbmdpbjdkhaa
/- THE CELL 'sum', in the pinned program and in every row, IS THE sha256 OF THE DUMP (.gsa) THAT YtpjlbmdpbjdkhaaProg.lean LOADS. Nothing in Lean hashes anything: it is a label: what it is worth is what the hold of that sum in a sandbox is worth. -/
noncomputable def Try.pinned : Pinned := { name := "ytpjlbmdpbjdkhaa", sum := "f72889fb1359373ef447589560a9dcb858f46b5917a3f3a76e2f514a8c9cce50", checked := Try.checked }
namespace Rows
def none {H : Type} : Left H := { results := [], args := [] }

/-- 'laws.FnAddCell': WHATEVER THE INPUT: true; the input reads as it did. -/
def fnAddCellSpec : ChangeSpec := { name := "fnAddCell", fn := fun _ => fun
  | [d] => { results := [.lit (.bool true)], args := [d] }
  | _ => none }
def fnAddCellRow : OpenClaim := { program := "ytpjlbmdpbjdkhaa", sum := "f72889fb1359373ef447589560a9dcb858f46b5917a3f3a76e2f514a8c9cce50", func := "loop.example/numberparts/laws.FnAddCell", spec := "fnAddCell", apart := false }
def FnAddCellSaid : Prop := fnAddCellRow.holds Try.pinned (OpenSpec.ofChange fnAddCellSpec)

/-- ITS FALSE NEIGHBOUR: 'it returns false'. Refute it at one input. -/
def fnAddCellWrong : ChangeSpec := { name := "fnAddCell", fn := fun _ => fun
  | [d] => { results := [.lit (.bool false)], args := [d] }
  | _ => none }
def FnAddCellWrongFalsely : Prop := fnAddCellRow.holds Try.pinned (OpenSpec.ofChange fnAddCellWrong)

/-- 'laws.FnExactAddCell': WHATEVER THE INPUT: true; the input reads as it did. -/
def fnExactAddCellSpec : ChangeSpec := { name := "fnExactAddCell", fn := fun _ => fun
  | [d1, d2] => { results := [.lit (.bool true)], args := [d1, d2] }
  | _ => none }
def fnExactAddCellRow : OpenClaim := { program := "ytpjlbmdpbjdkhaa", sum := "f72889fb1359373ef447589560a9dcb858f46b5917a3f3a76e2f514a8c9cce50", func := "loop.example/numberparts/laws.FnExactAddCell", spec := "fnExactAddCell", apart := false }
def FnExactAddCellSaid : Prop := fnExactAddCellRow.holds Try.pinned (OpenSpec.ofChange fnExactAddCellSpec)

/-- ITS FALSE NEIGHBOUR: 'it returns false'. Refute it at one input. -/
def fnExactAddCellWrong : ChangeSpec := { name := "fnExactAddCell", fn := fun _ => fun
  | [d1, d2] => { results := [.lit (.bool false)], args := [d1, d2] }
  | _ => none }
def FnExactAddCellWrongFalsely : Prop := fnExactAddCellRow.holds Try.pinned (OpenSpec.ofChange fnExactAddCellWrong)

/-- 'laws.FnAddParts': WHATEVER THE INPUT: true; the input reads as it did. -/
def fnAddPartsSpec : ChangeSpec := { name := "fnAddParts", fn := fun _ => fun
  | [d] => { results := [.lit (.bool true)], args := [d] }
  | _ => none }
def fnAddPartsRow : OpenClaim := { program := "ytpjlbmdpbjdkhaa", sum := "f72889fb1359373ef447589560a9dcb858f46b5917a3f3a76e2f514a8c9cce50", func := "loop.example/numberparts/laws.FnAddParts", spec := "fnAddParts", apart := false }
def FnAddPartsSaid : Prop := fnAddPartsRow.holds Try.pinned (OpenSpec.ofChange fnAddPartsSpec)

/-- ITS FALSE NEIGHBOUR: 'it returns false'. Refute it at one input. -/
def fnAddPartsWrong : ChangeSpec := { name := "fnAddParts", fn := fun _ => fun
  | [d] => { results := [.lit (.bool false)], args := [d] }
  | _ => none }
def FnAddPartsWrongFalsely : Prop := fnAddPartsRow.holds Try.pinned (OpenSpec.ofChange fnAddPartsWrong)

/-- 'laws.FnExactAddParts': WHATEVER THE INPUT: true; the input reads as it did. -/
def fnExactAddPartsSpec : ChangeSpec := { name := "fnExactAddParts", fn := fun _ => fun
  | [d1, d2] => { results := [.lit (.bool true)], args := [d1, d2] }
  | _ => none }
def fnExactAddPartsRow : OpenClaim := { program := "ytpjlbmdpbjdkhaa", sum := "f72889fb1359373ef447589560a9dcb858f46b5917a3f3a76e2f514a8c9cce50", func := "loop.example/numberparts/laws.FnExactAddParts", spec := "fnExactAddParts", apart := false }
def FnExactAddPartsSaid : Prop := fnExactAddPartsRow.holds Try.pinned (OpenSpec.ofChange fnExactAddPartsSpec)

/-- ITS FALSE NEIGHBOUR: 'it returns false'. Refute it at one input. -/
def fnExactAddPartsWrong : ChangeSpec := { name := "fnExactAddParts", fn := fun _ => fun
  | [d1, d2] => { results := [.lit (.bool false)], args := [d1, d2] }
  | _ => none }
def FnExactAddPartsWrongFalsely : Prop := fnExactAddPartsRow.holds Try.pinned (OpenSpec.ofChange fnExactAddPartsWrong)

/-- 'laws.FnFrobeniusOf': WHATEVER THE INPUT: true; the input reads as it did. -/
def fnFrobeniusOfSpec : ChangeSpec := { name := "fnFrobeniusOf", fn := fun _ => fun
  | [d] => { results := [.lit (.bool true)], args := [d] }
  | _ => none }
def fnFrobeniusOfRow : OpenClaim := { program := "ytpjlbmdpbjdkhaa", sum := "f72889fb1359373ef447589560a9dcb858f46b5917a3f3a76e2f514a8c9cce50", func := "loop.example/numberparts/laws.FnFrobeniusOf", spec := "fnFrobeniusOf", apart := false }
def FnFrobeniusOfSaid : Prop := fnFrobeniusOfRow.holds Try.pinned (OpenSpec.ofChange fnFrobeniusOfSpec)

/-- ITS FALSE NEIGHBOUR: 'it returns false'. Refute it at one input. -/
def fnFrobeniusOfWrong : ChangeSpec := { name := "fnFrobeniusOf", fn := fun _ => fun
  | [d] => { results := [.lit (.bool false)], args := [d] }
  | _ => none }
def FnFrobeniusOfWrongFalsely : Prop := fnFrobeniusOfRow.holds Try.pinned (OpenSpec.ofChange fnFrobeniusOfWrong)

/-- 'laws.FnExactFrobeniusOf': WHATEVER THE INPUT: true; the input reads as it did. -/
def fnExactFrobeniusOfSpec : ChangeSpec := { name := "fnExactFrobeniusOf", fn := fun _ => fun
  | [d] => { results := [.lit (.bool true)], args := [d] }
  | _ => none }
def fnExactFrobeniusOfRow : OpenClaim := { program := "ytpjlbmdpbjdkhaa", sum := "f72889fb1359373ef447589560a9dcb858f46b5917a3f3a76e2f514a8c9cce50", func := "loop.example/numberparts/laws.FnExactFrobeniusOf", spec := "fnExactFrobeniusOf", apart := false }
def FnExactFrobeniusOfSaid : Prop := fnExactFrobeniusOfRow.holds Try.pinned (OpenSpec.ofChange fnExactFrobeniusOfSpec)

/-- ITS FALSE NEIGHBOUR: 'it returns false'. Refute it at one input. -/
def fnExactFrobeniusOfWrong : ChangeSpec := { name := "fnExactFrobeniusOf", fn := fun _ => fun
  | [d] => { results := [.lit (.bool false)], args := [d] }
  | _ => none }
def FnExactFrobeniusOfWrongFalsely : Prop := fnExactFrobeniusOfRow.holds Try.pinned (OpenSpec.ofChange fnExactFrobeniusOfWrong)

/-- 'laws.FnUniteParts': WHATEVER THE INPUT: true; the input reads as it did. -/
def fnUnitePartsSpec : ChangeSpec := { name := "fnUniteParts", fn := fun _ => fun
  | [d] => { results := [.lit (.bool true)], args := [d] }
  | _ => none }
def fnUnitePartsRow : OpenClaim := { program := "ytpjlbmdpbjdkhaa", sum := "f72889fb1359373ef447589560a9dcb858f46b5917a3f3a76e2f514a8c9cce50", func := "loop.example/numberparts/laws.FnUniteParts", spec := "fnUniteParts", apart := false }
def FnUnitePartsSaid : Prop := fnUnitePartsRow.holds Try.pinned (OpenSpec.ofChange fnUnitePartsSpec)

/-- ITS FALSE NEIGHBOUR: 'it returns false'. Refute it at one input. -/
def fnUnitePartsWrong : ChangeSpec := { name := "fnUniteParts", fn := fun _ => fun
  | [d] => { results := [.lit (.bool false)], args := [d] }
  | _ => none }
def FnUnitePartsWrongFalsely : Prop := fnUnitePartsRow.holds Try.pinned (OpenSpec.ofChange fnUnitePartsWrong)

/-- 'laws.FnExactUniteParts': WHATEVER THE INPUT: true; the input reads as it did. -/
def fnExactUnitePartsSpec : ChangeSpec := { name := "fnExactUniteParts", fn := fun _ => fun
  | [d1, d2] => { results := [.lit (.bool true)], args := [d1, d2] }
  | _ => none }
def fnExactUnitePartsRow : OpenClaim := { program := "ytpjlbmdpbjdkhaa", sum := "f72889fb1359373ef447589560a9dcb858f46b5917a3f3a76e2f514a8c9cce50", func := "loop.example/numberparts/laws.FnExactUniteParts", spec := "fnExactUniteParts", apart := false }
def FnExactUnitePartsSaid : Prop := fnExactUnitePartsRow.holds Try.pinned (OpenSpec.ofChange fnExactUnitePartsSpec)

/-- ITS FALSE NEIGHBOUR: 'it returns false'. Refute it at one input. -/
def fnExactUnitePartsWrong : ChangeSpec := { name := "fnExactUniteParts", fn := fun _ => fun
  | [d1, d2] => { results := [.lit (.bool false)], args := [d1, d2] }
  | _ => none }
def FnExactUnitePartsWrongFalsely : Prop := fnExactUnitePartsRow.holds Try.pinned (OpenSpec.ofChange fnExactUnitePartsWrong)

/- THE SECOND FORM. 'bulk': how many values and letters a reading holds, each counted each time it is reached (what is shared counts as often as it is met; a slice's spare places count too). A statement '..UptoSaid' is the law's where the arguments, and the package variables that the reading takes, are together of bulk at most 1048576: NARROWER than '..Said'. Prove '..Said' where nothing that the law and all that it calls make is longer than what came in: it says more and counts as full. Else prove '..UptoSaid'. A law counts once. -/
mutual
def uptoBulk {H : Type} : DataW H → Nat
  | .lit (.string bytes) => bytes.length + 1
  | .lit _ => 1
  | .nil => 1
  | .ptr d => uptoBulk d + 1
  | .slice elems spare => uptoBulkAll elems + uptoBulkAll spare + 1
  | .agg parts => uptoBulkAll parts + 1
  | .iface _ d => uptoBulk d + 1
  | .map entries => uptoBulkEntries entries + 1
  | .held _ => 1
def uptoBulkAll {H : Type} : List (DataW H) → Nat
  | [] => 0
  | d :: r => uptoBulk d + uptoBulkAll r
def uptoBulkEntries {H : Type} : List (Lit × DataW H) → Nat
  | [] => 0
  | x :: r => uptoBulkEntry x + uptoBulkEntries r
def uptoBulkEntry {H : Type} : Lit × DataW H → Nat
  | (.string bytes, d) => bytes.length + uptoBulk d + 1
  | (_, d) => uptoBulk d + 1
 end
def uptoSmall : (H : Type) → List (DataW H) → Bool := fun _ ds => decide (uptoBulkAll ds ≤ 1048576)
def OpenSpec.upto (s : _root_.Go.ChangeSpec) : _root_.Go.OpenSpec := { _root_.Go.OpenSpec.ofChange s with cond := some uptoSmall }

/-- 'laws.FnAddCell', WHERE WHAT IT READS IS OF BULK AT MOST 1048576: true; the input reads as it did. -/
def fnAddCellUptoRow : OpenClaim := { program := "ytpjlbmdpbjdkhaa", sum := "f72889fb1359373ef447589560a9dcb858f46b5917a3f3a76e2f514a8c9cce50", func := "loop.example/numberparts/laws.FnAddCell", spec := "fnAddCell", apart := false, narrowed := true }
def FnAddCellUptoSaid : Prop := fnAddCellUptoRow.holds Try.pinned (OpenSpec.upto fnAddCellSpec)

/-- 'laws.FnExactAddCell', WHERE WHAT IT READS IS OF BULK AT MOST 1048576: true; the input reads as it did. -/
def fnExactAddCellUptoRow : OpenClaim := { program := "ytpjlbmdpbjdkhaa", sum := "f72889fb1359373ef447589560a9dcb858f46b5917a3f3a76e2f514a8c9cce50", func := "loop.example/numberparts/laws.FnExactAddCell", spec := "fnExactAddCell", apart := false, narrowed := true }
def FnExactAddCellUptoSaid : Prop := fnExactAddCellUptoRow.holds Try.pinned (OpenSpec.upto fnExactAddCellSpec)

/-- 'laws.FnAddParts', WHERE WHAT IT READS IS OF BULK AT MOST 1048576: true; the input reads as it did. -/
def fnAddPartsUptoRow : OpenClaim := { program := "ytpjlbmdpbjdkhaa", sum := "f72889fb1359373ef447589560a9dcb858f46b5917a3f3a76e2f514a8c9cce50", func := "loop.example/numberparts/laws.FnAddParts", spec := "fnAddParts", apart := false, narrowed := true }
def FnAddPartsUptoSaid : Prop := fnAddPartsUptoRow.holds Try.pinned (OpenSpec.upto fnAddPartsSpec)

/-- 'laws.FnExactAddParts', WHERE WHAT IT READS IS OF BULK AT MOST 1048576: true; the input reads as it did. -/
def fnExactAddPartsUptoRow : OpenClaim := { program := "ytpjlbmdpbjdkhaa", sum := "f72889fb1359373ef447589560a9dcb858f46b5917a3f3a76e2f514a8c9cce50", func := "loop.example/numberparts/laws.FnExactAddParts", spec := "fnExactAddParts", apart := false, narrowed := true }
def FnExactAddPartsUptoSaid : Prop := fnExactAddPartsUptoRow.holds Try.pinned (OpenSpec.upto fnExactAddPartsSpec)

/-- 'laws.FnFrobeniusOf', WHERE WHAT IT READS IS OF BULK AT MOST 1048576: true; the input reads as it did. -/
def fnFrobeniusOfUptoRow : OpenClaim := { program := "ytpjlbmdpbjdkhaa", sum := "f72889fb1359373ef447589560a9dcb858f46b5917a3f3a76e2f514a8c9cce50", func := "loop.example/numberparts/laws.FnFrobeniusOf", spec := "fnFrobeniusOf", apart := false, narrowed := true }
def FnFrobeniusOfUptoSaid : Prop := fnFrobeniusOfUptoRow.holds Try.pinned (OpenSpec.upto fnFrobeniusOfSpec)

/-- 'laws.FnExactFrobeniusOf', WHERE WHAT IT READS IS OF BULK AT MOST 1048576: true; the input reads as it did. -/
def fnExactFrobeniusOfUptoRow : OpenClaim := { program := "ytpjlbmdpbjdkhaa", sum := "f72889fb1359373ef447589560a9dcb858f46b5917a3f3a76e2f514a8c9cce50", func := "loop.example/numberparts/laws.FnExactFrobeniusOf", spec := "fnExactFrobeniusOf", apart := false, narrowed := true }
def FnExactFrobeniusOfUptoSaid : Prop := fnExactFrobeniusOfUptoRow.holds Try.pinned (OpenSpec.upto fnExactFrobeniusOfSpec)

/-- 'laws.FnUniteParts', WHERE WHAT IT READS IS OF BULK AT MOST 1048576: true; the input reads as it did. -/
def fnUnitePartsUptoRow : OpenClaim := { program := "ytpjlbmdpbjdkhaa", sum := "f72889fb1359373ef447589560a9dcb858f46b5917a3f3a76e2f514a8c9cce50", func := "loop.example/numberparts/laws.FnUniteParts", spec := "fnUniteParts", apart := false, narrowed := true }
def FnUnitePartsUptoSaid : Prop := fnUnitePartsUptoRow.holds Try.pinned (OpenSpec.upto fnUnitePartsSpec)

/-- 'laws.FnExactUniteParts', WHERE WHAT IT READS IS OF BULK AT MOST 1048576: true; the input reads as it did. -/
def fnExactUnitePartsUptoRow : OpenClaim := { program := "ytpjlbmdpbjdkhaa", sum := "f72889fb1359373ef447589560a9dcb858f46b5917a3f3a76e2f514a8c9cce50", func := "loop.example/numberparts/laws.FnExactUniteParts", spec := "fnExactUniteParts", apart := false, narrowed := true }
def FnExactUnitePartsUptoSaid : Prop := fnExactUnitePartsUptoRow.holds Try.pinned (OpenSpec.upto fnExactUnitePartsSpec)

end Rows
end Go.Proofs.Ytpjlbmdpbjdkhaa
