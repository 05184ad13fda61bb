/-
  No cell of these rows narrows 'for every input' (looked for: loops, veiled, ifaces, maps, wideKeys, modest, calm, conditions, laid).
  DERIVED. THE GIVEN ROWS OF THIS SEAT. 10 by the template 'for every input the law returns true; each argument reads behind the call as it read before'; 0 by the template 'total and deterministic' (their statements: YtgbkaahmmpgjfaaTotals.lean).
  GIVEN WITH THE SEED: the statements are not yours to turn. If you find one false, say at which input.
  Laid BY PROGRAM, IN A SANDBOX (cutbox-rows.mjs): the forced cells as the released guide's own fill.sh prints them over the translation 3481e8849aa5f3cc… (all of the seat's roots in one cut). By AI agents, Wed Nov 11 2026. No macro, syntax, notation, axiom, sorry.
-/
import Derived.Test.YtgbkaahmmpgjfaaChecked
import GoSem.Claim
import GoSem.ClaimJoined
import GoSem.ClaimMapViews
import Derived.JoinedTies
import Derived.KernelRfl
namespace Go.Proofs.Ytgbkaahmmpgjfaa
/- THE CELL 'sum', in the pinned program and in every row, IS THE sha256 OF THE DUMP (.gsa) THAT YtgbkaahmmpgjfaaProg.lean LOADS. Nothing in Lean hashes anything: it is a label: what it is worth is what the hold of that sum in a sandbox is worth. -/
noncomputable def Try.pinned : Pinned := { name := "ytgbkaahmmpgjfaa", sum := "3481e8849aa5f3cc85a23a7c8882f8fd2c509f761b44f4d2b873da22f66f2874", checked := Try.checked }
namespace Rows
def none {H : Type} : Left H := { results := [], args := [] }

/-- 'laws.FnExactInBox': WHATEVER THE INPUT: true; the input reads as it did. -/
def fnExactInBoxSpec : ChangeSpec := { name := "fnExactInBox", fn := fun _ => fun
  | [d1, d2, d3] => { results := [.lit (.bool true)], args := [d1, d2, d3] }
  | _ => none }
def fnExactInBoxRow : OpenClaim := { program := "ytgbkaahmmpgjfaa", sum := "3481e8849aa5f3cc85a23a7c8882f8fd2c509f761b44f4d2b873da22f66f2874", func := "loop.example/numberparts/laws.FnExactInBox", spec := "fnExactInBox", apart := false }
def FnExactInBoxSaid : Prop := fnExactInBoxRow.holds Try.pinned (OpenSpec.ofChange fnExactInBoxSpec)

/-- ITS FALSE NEIGHBOUR: 'it returns false'. Refute it at one input. -/
def fnExactInBoxWrong : ChangeSpec := { name := "fnExactInBox", fn := fun _ => fun
  | [d1, d2, d3] => { results := [.lit (.bool false)], args := [d1, d2, d3] }
  | _ => none }
def FnExactInBoxWrongFalsely : Prop := fnExactInBoxRow.holds Try.pinned (OpenSpec.ofChange fnExactInBoxWrong)

/-- 'laws.FnInBox': WHATEVER THE INPUT: true; the input reads as it did. -/
def fnInBoxSpec : ChangeSpec := { name := "fnInBox", fn := fun _ => fun
  | [d] => { results := [.lit (.bool true)], args := [d] }
  | _ => none }
def fnInBoxRow : OpenClaim := { program := "ytgbkaahmmpgjfaa", sum := "3481e8849aa5f3cc85a23a7c8882f8fd2c509f761b44f4d2b873da22f66f2874", func := "loop.example/numberparts/laws.FnInBox", spec := "fnInBox", apart := false }
def FnInBoxSaid : Prop := fnInBoxRow.holds Try.pinned (OpenSpec.ofChange fnInBoxSpec)

/-- ITS FALSE NEIGHBOUR: 'it returns false'. Refute it at one input. -/
def fnInBoxWrong : ChangeSpec := { name := "fnInBox", fn := fun _ => fun
  | [d] => { results := [.lit (.bool false)], args := [d] }
  | _ => none }
def FnInBoxWrongFalsely : Prop := fnInBoxRow.holds Try.pinned (OpenSpec.ofChange fnInBoxWrong)

/-- 'laws.FnExactOppositeIn': WHATEVER THE INPUT: true; the input reads as it did. -/
def fnExactOppositeInSpec : ChangeSpec := { name := "fnExactOppositeIn", fn := fun _ => fun
  | [d1, d2, d3] => { results := [.lit (.bool true)], args := [d1, d2, d3] }
  | _ => none }
def fnExactOppositeInRow : OpenClaim := { program := "ytgbkaahmmpgjfaa", sum := "3481e8849aa5f3cc85a23a7c8882f8fd2c509f761b44f4d2b873da22f66f2874", func := "loop.example/numberparts/laws.FnExactOppositeIn", spec := "fnExactOppositeIn", apart := false }
def FnExactOppositeInSaid : Prop := fnExactOppositeInRow.holds Try.pinned (OpenSpec.ofChange fnExactOppositeInSpec)

/-- ITS FALSE NEIGHBOUR: 'it returns false'. Refute it at one input. -/
def fnExactOppositeInWrong : ChangeSpec := { name := "fnExactOppositeIn", fn := fun _ => fun
  | [d1, d2, d3] => { results := [.lit (.bool false)], args := [d1, d2, d3] }
  | _ => none }
def FnExactOppositeInWrongFalsely : Prop := fnExactOppositeInRow.holds Try.pinned (OpenSpec.ofChange fnExactOppositeInWrong)

/-- 'laws.FnOppositeIn': WHATEVER THE INPUT: true; the input reads as it did. -/
def fnOppositeInSpec : ChangeSpec := { name := "fnOppositeIn", fn := fun _ => fun
  | [d] => { results := [.lit (.bool true)], args := [d] }
  | _ => none }
def fnOppositeInRow : OpenClaim := { program := "ytgbkaahmmpgjfaa", sum := "3481e8849aa5f3cc85a23a7c8882f8fd2c509f761b44f4d2b873da22f66f2874", func := "loop.example/numberparts/laws.FnOppositeIn", spec := "fnOppositeIn", apart := false }
def FnOppositeInSaid : Prop := fnOppositeInRow.holds Try.pinned (OpenSpec.ofChange fnOppositeInSpec)

/-- ITS FALSE NEIGHBOUR: 'it returns false'. Refute it at one input. -/
def fnOppositeInWrong : ChangeSpec := { name := "fnOppositeIn", fn := fun _ => fun
  | [d] => { results := [.lit (.bool false)], args := [d] }
  | _ => none }
def FnOppositeInWrongFalsely : Prop := fnOppositeInRow.holds Try.pinned (OpenSpec.ofChange fnOppositeInWrong)

/-- 'laws.FnExactPathOf': WHATEVER THE INPUT: true; the input reads as it did. -/
def fnExactPathOfSpec : ChangeSpec := { name := "fnExactPathOf", fn := fun _ => fun
  | [d1, d2, d3] => { results := [.lit (.bool true)], args := [d1, d2, d3] }
  | _ => none }
def fnExactPathOfRow : OpenClaim := { program := "ytgbkaahmmpgjfaa", sum := "3481e8849aa5f3cc85a23a7c8882f8fd2c509f761b44f4d2b873da22f66f2874", func := "loop.example/numberparts/laws.FnExactPathOf", spec := "fnExactPathOf", inPlace := ["internal/abi.NoEscape", "internal/bytealg.MakeNoZero"], apart := false }
def FnExactPathOfSaid : Prop := fnExactPathOfRow.holds Try.pinned (OpenSpec.ofChange fnExactPathOfSpec)

/-- ITS FALSE NEIGHBOUR: 'it returns false'. Refute it at one input. -/
def fnExactPathOfWrong : ChangeSpec := { name := "fnExactPathOf", fn := fun _ => fun
  | [d1, d2, d3] => { results := [.lit (.bool false)], args := [d1, d2, d3] }
  | _ => none }
def FnExactPathOfWrongFalsely : Prop := fnExactPathOfRow.holds Try.pinned (OpenSpec.ofChange fnExactPathOfWrong)

/-- 'laws.FnExactPartsOfSums': WHATEVER THE INPUT: true; the input reads as it did. -/
def fnExactPartsOfSumsSpec : ChangeSpec := { name := "fnExactPartsOfSums", fn := fun _ => fun
  | [d] => { results := [.lit (.bool true)], args := [d] }
  | _ => none }
def fnExactPartsOfSumsRow : OpenClaim := { program := "ytgbkaahmmpgjfaa", sum := "3481e8849aa5f3cc85a23a7c8882f8fd2c509f761b44f4d2b873da22f66f2874", func := "loop.example/numberparts/laws.FnExactPartsOfSums", spec := "fnExactPartsOfSums", apart := false }
def FnExactPartsOfSumsSaid : Prop := fnExactPartsOfSumsRow.holds Try.pinned (OpenSpec.ofChange fnExactPartsOfSumsSpec)

/-- ITS FALSE NEIGHBOUR: 'it returns false'. Refute it at one input. -/
def fnExactPartsOfSumsWrong : ChangeSpec := { name := "fnExactPartsOfSums", fn := fun _ => fun
  | [d] => { results := [.lit (.bool false)], args := [d] }
  | _ => none }
def FnExactPartsOfSumsWrongFalsely : Prop := fnExactPartsOfSumsRow.holds Try.pinned (OpenSpec.ofChange fnExactPartsOfSumsWrong)

/-- 'laws.FnPartsOfSums': WHATEVER THE INPUT: true; the input reads as it did. -/
def fnPartsOfSumsSpec : ChangeSpec := { name := "fnPartsOfSums", fn := fun _ => fun
  | [d] => { results := [.lit (.bool true)], args := [d] }
  | _ => none }
def fnPartsOfSumsRow : OpenClaim := { program := "ytgbkaahmmpgjfaa", sum := "3481e8849aa5f3cc85a23a7c8882f8fd2c509f761b44f4d2b873da22f66f2874", func := "loop.example/numberparts/laws.FnPartsOfSums", spec := "fnPartsOfSums", apart := false }
def FnPartsOfSumsSaid : Prop := fnPartsOfSumsRow.holds Try.pinned (OpenSpec.ofChange fnPartsOfSumsSpec)

/-- ITS FALSE NEIGHBOUR: 'it returns false'. Refute it at one input. -/
def fnPartsOfSumsWrong : ChangeSpec := { name := "fnPartsOfSums", fn := fun _ => fun
  | [d] => { results := [.lit (.bool false)], args := [d] }
  | _ => none }
def FnPartsOfSumsWrongFalsely : Prop := fnPartsOfSumsRow.holds Try.pinned (OpenSpec.ofChange fnPartsOfSumsWrong)

/-- 'laws.FnExactOrdersOf': WHATEVER THE INPUT: true; the input reads as it did. -/
def fnExactOrdersOfSpec : ChangeSpec := { name := "fnExactOrdersOf", fn := fun _ => fun
  | [d] => { results := [.lit (.bool true)], args := [d] }
  | _ => none }
def fnExactOrdersOfRow : OpenClaim := { program := "ytgbkaahmmpgjfaa", sum := "3481e8849aa5f3cc85a23a7c8882f8fd2c509f761b44f4d2b873da22f66f2874", func := "loop.example/numberparts/laws.FnExactOrdersOf", spec := "fnExactOrdersOf", apart := false }
def FnExactOrdersOfSaid : Prop := fnExactOrdersOfRow.holds Try.pinned (OpenSpec.ofChange fnExactOrdersOfSpec)

/-- ITS FALSE NEIGHBOUR: 'it returns false'. Refute it at one input. -/
def fnExactOrdersOfWrong : ChangeSpec := { name := "fnExactOrdersOf", fn := fun _ => fun
  | [d] => { results := [.lit (.bool false)], args := [d] }
  | _ => none }
def FnExactOrdersOfWrongFalsely : Prop := fnExactOrdersOfRow.holds Try.pinned (OpenSpec.ofChange fnExactOrdersOfWrong)

/-- 'laws.FnOrdersOf': WHATEVER THE INPUT: true; the input reads as it did. -/
def fnOrdersOfSpec : ChangeSpec := { name := "fnOrdersOf", fn := fun _ => fun
  | [d] => { results := [.lit (.bool true)], args := [d] }
  | _ => none }
def fnOrdersOfRow : OpenClaim := { program := "ytgbkaahmmpgjfaa", sum := "3481e8849aa5f3cc85a23a7c8882f8fd2c509f761b44f4d2b873da22f66f2874", func := "loop.example/numberparts/laws.FnOrdersOf", spec := "fnOrdersOf", apart := false }
def FnOrdersOfSaid : Prop := fnOrdersOfRow.holds Try.pinned (OpenSpec.ofChange fnOrdersOfSpec)

/-- ITS FALSE NEIGHBOUR: 'it returns false'. Refute it at one input. -/
def fnOrdersOfWrong : ChangeSpec := { name := "fnOrdersOf", fn := fun _ => fun
  | [d] => { results := [.lit (.bool false)], args := [d] }
  | _ => none }
def FnOrdersOfWrongFalsely : Prop := fnOrdersOfRow.holds Try.pinned (OpenSpec.ofChange fnOrdersOfWrong)

/-- 'laws.FnValidSums': WHATEVER THE INPUT: true; the input reads as it did. -/
def fnValidSumsSpec : ChangeSpec := { name := "fnValidSums", fn := fun _ => fun
  | [d] => { results := [.lit (.bool true)], args := [d] }
  | _ => none }
def fnValidSumsRow : OpenClaim := { program := "ytgbkaahmmpgjfaa", sum := "3481e8849aa5f3cc85a23a7c8882f8fd2c509f761b44f4d2b873da22f66f2874", func := "loop.example/numberparts/laws.FnValidSums", spec := "fnValidSums", apart := false }
def FnValidSumsSaid : Prop := fnValidSumsRow.holds Try.pinned (OpenSpec.ofChange fnValidSumsSpec)

/-- ITS FALSE NEIGHBOUR: 'it returns false'. Refute it at one input. -/
def fnValidSumsWrong : ChangeSpec := { name := "fnValidSums", fn := fun _ => fun
  | [d] => { results := [.lit (.bool false)], args := [d] }
  | _ => none }
def FnValidSumsWrongFalsely : Prop := fnValidSumsRow.holds Try.pinned (OpenSpec.ofChange fnValidSumsWrong)

/- THE SECOND FORM. 'bulk': how many values and letters a reading holds, each counted each time it is reached (what is shared counts as often as it is met; a slice's spare places count too). A statement '..UptoSaid' is the law's where the arguments, and the package variables that the reading takes, are together of bulk at most 1048576: NARROWER than '..Said'. Prove '..Said' where nothing that the law and all that it calls make is longer than what came in: it says more and counts as full. Else prove '..UptoSaid'. A law counts once. -/
mutual
def uptoBulk {H : Type} : DataW H → Nat
  | .lit (.string bytes) => bytes.length + 1
  | .lit _ => 1
  | .nil => 1
  | .ptr d => uptoBulk d + 1
  | .slice elems spare => uptoBulkAll elems + uptoBulkAll spare + 1
  | .agg parts => uptoBulkAll parts + 1
  | .iface _ d => uptoBulk d + 1
  | .map entries => uptoBulkEntries entries + 1
  | .held _ => 1
def uptoBulkAll {H : Type} : List (DataW H) → Nat
  | [] => 0
  | d :: r => uptoBulk d + uptoBulkAll r
def uptoBulkEntries {H : Type} : List (Lit × DataW H) → Nat
  | [] => 0
  | x :: r => uptoBulkEntry x + uptoBulkEntries r
def uptoBulkEntry {H : Type} : Lit × DataW H → Nat
  | (.string bytes, d) => bytes.length + uptoBulk d + 1
  | (_, d) => uptoBulk d + 1
 end
def uptoSmall : (H : Type) → List (DataW H) → Bool := fun _ ds => decide (uptoBulkAll ds ≤ 1048576)
def OpenSpec.upto (s : _root_.Go.ChangeSpec) : _root_.Go.OpenSpec := { _root_.Go.OpenSpec.ofChange s with cond := some uptoSmall }

/-- 'laws.FnExactInBox', WHERE WHAT IT READS IS OF BULK AT MOST 1048576: true; the input reads as it did. -/
def fnExactInBoxUptoRow : OpenClaim := { program := "ytgbkaahmmpgjfaa", sum := "3481e8849aa5f3cc85a23a7c8882f8fd2c509f761b44f4d2b873da22f66f2874", func := "loop.example/numberparts/laws.FnExactInBox", spec := "fnExactInBox", apart := false, narrowed := true }
def FnExactInBoxUptoSaid : Prop := fnExactInBoxUptoRow.holds Try.pinned (OpenSpec.upto fnExactInBoxSpec)

/-- 'laws.FnInBox', WHERE WHAT IT READS IS OF BULK AT MOST 1048576: true; the input reads as it did. -/
def fnInBoxUptoRow : OpenClaim := { program := "ytgbkaahmmpgjfaa", sum := "3481e8849aa5f3cc85a23a7c8882f8fd2c509f761b44f4d2b873da22f66f2874", func := "loop.example/numberparts/laws.FnInBox", spec := "fnInBox", apart := false, narrowed := true }
def FnInBoxUptoSaid : Prop := fnInBoxUptoRow.holds Try.pinned (OpenSpec.upto fnInBoxSpec)

/-- 'laws.FnExactOppositeIn', WHERE WHAT IT READS IS OF BULK AT MOST 1048576: true; the input reads as it did. -/
def fnExactOppositeInUptoRow : OpenClaim := { program := "ytgbkaahmmpgjfaa", sum := "3481e8849aa5f3cc85a23a7c8882f8fd2c509f761b44f4d2b873da22f66f2874", func := "loop.example/numberparts/laws.FnExactOppositeIn", spec := "fnExactOppositeIn", apart := false, narrowed := true }
def FnExactOppositeInUptoSaid : Prop := fnExactOppositeInUptoRow.holds Try.pinned (OpenSpec.upto fnExactOppositeInSpec)

/-- 'laws.FnOppositeIn', WHERE WHAT IT READS IS OF BULK AT MOST 1048576: true; the input reads as it did. -/
def fnOppositeInUptoRow : OpenClaim := { program := "ytgbkaahmmpgjfaa", sum := "3481e8849aa5f3cc85a23a7c8882f8fd2c509f761b44f4d2b873da22f66f2874", func := "loop.example/numberparts/laws.FnOppositeIn", spec := "fnOppositeIn", apart := false, narrowed := true }
def FnOppositeInUptoSaid : Prop := fnOppositeInUptoRow.holds Try.pinned (OpenSpec.upto fnOppositeInSpec)

/-- 'laws.FnExactPathOf', WHERE WHAT IT READS IS OF BULK AT MOST 1048576: true; the input reads as it did. -/
def fnExactPathOfUptoRow : OpenClaim := { program := "ytgbkaahmmpgjfaa", sum := "3481e8849aa5f3cc85a23a7c8882f8fd2c509f761b44f4d2b873da22f66f2874", func := "loop.example/numberparts/laws.FnExactPathOf", spec := "fnExactPathOf", inPlace := ["internal/abi.NoEscape", "internal/bytealg.MakeNoZero"], apart := false, narrowed := true }
def FnExactPathOfUptoSaid : Prop := fnExactPathOfUptoRow.holds Try.pinned (OpenSpec.upto fnExactPathOfSpec)

/-- 'laws.FnExactPartsOfSums', WHERE WHAT IT READS IS OF BULK AT MOST 1048576: true; the input reads as it did. -/
def fnExactPartsOfSumsUptoRow : OpenClaim := { program := "ytgbkaahmmpgjfaa", sum := "3481e8849aa5f3cc85a23a7c8882f8fd2c509f761b44f4d2b873da22f66f2874", func := "loop.example/numberparts/laws.FnExactPartsOfSums", spec := "fnExactPartsOfSums", apart := false, narrowed := true }
def FnExactPartsOfSumsUptoSaid : Prop := fnExactPartsOfSumsUptoRow.holds Try.pinned (OpenSpec.upto fnExactPartsOfSumsSpec)

/-- 'laws.FnPartsOfSums', WHERE WHAT IT READS IS OF BULK AT MOST 1048576: true; the input reads as it did. -/
def fnPartsOfSumsUptoRow : OpenClaim := { program := "ytgbkaahmmpgjfaa", sum := "3481e8849aa5f3cc85a23a7c8882f8fd2c509f761b44f4d2b873da22f66f2874", func := "loop.example/numberparts/laws.FnPartsOfSums", spec := "fnPartsOfSums", apart := false, narrowed := true }
def FnPartsOfSumsUptoSaid : Prop := fnPartsOfSumsUptoRow.holds Try.pinned (OpenSpec.upto fnPartsOfSumsSpec)

/-- 'laws.FnExactOrdersOf', WHERE WHAT IT READS IS OF BULK AT MOST 1048576: true; the input reads as it did. -/
def fnExactOrdersOfUptoRow : OpenClaim := { program := "ytgbkaahmmpgjfaa", sum := "3481e8849aa5f3cc85a23a7c8882f8fd2c509f761b44f4d2b873da22f66f2874", func := "loop.example/numberparts/laws.FnExactOrdersOf", spec := "fnExactOrdersOf", apart := false, narrowed := true }
def FnExactOrdersOfUptoSaid : Prop := fnExactOrdersOfUptoRow.holds Try.pinned (OpenSpec.upto fnExactOrdersOfSpec)

/-- 'laws.FnOrdersOf', WHERE WHAT IT READS IS OF BULK AT MOST 1048576: true; the input reads as it did. -/
def fnOrdersOfUptoRow : OpenClaim := { program := "ytgbkaahmmpgjfaa", sum := "3481e8849aa5f3cc85a23a7c8882f8fd2c509f761b44f4d2b873da22f66f2874", func := "loop.example/numberparts/laws.FnOrdersOf", spec := "fnOrdersOf", apart := false, narrowed := true }
def FnOrdersOfUptoSaid : Prop := fnOrdersOfUptoRow.holds Try.pinned (OpenSpec.upto fnOrdersOfSpec)

/-- 'laws.FnValidSums', WHERE WHAT IT READS IS OF BULK AT MOST 1048576: true; the input reads as it did. -/
def fnValidSumsUptoRow : OpenClaim := { program := "ytgbkaahmmpgjfaa", sum := "3481e8849aa5f3cc85a23a7c8882f8fd2c509f761b44f4d2b873da22f66f2874", func := "loop.example/numberparts/laws.FnValidSums", spec := "fnValidSums", apart := false, narrowed := true }
def FnValidSumsUptoSaid : Prop := fnValidSumsUptoRow.holds Try.pinned (OpenSpec.upto fnValidSumsSpec)

end Rows
end Go.Proofs.Ytgbkaahmmpgjfaa
