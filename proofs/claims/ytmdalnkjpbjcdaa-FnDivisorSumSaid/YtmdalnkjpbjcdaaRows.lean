/-
  No cell of these rows narrows 'for every input' (looked for: loops, veiled, ifaces, maps, wideKeys, modest, calm, conditions, laid).
  DERIVED. THE GIVEN ROWS OF THIS SEAT. 12 by the template 'for every input the law returns true; each argument reads behind the call as it read before'; 0 by the template 'total and deterministic' (their statements: YtmdalnkjpbjcdaaTotals.lean).
  GIVEN WITH THE SEED: the statements are not yours to turn. If you find one false, say at which input.
  Laid BY PROGRAM, IN A SANDBOX (cutbox-rows.mjs): the forced cells as the released guide's own fill.sh prints them over the translation d38776edd971da46… (all of the seat's roots in one cut). By AI agents, Wed Nov 11 2026. No macro, syntax, notation, axiom, sorry.
-/
import Derived.Test.YtmdalnkjpbjcdaaChecked
import GoSem.Claim
import GoSem.ClaimJoined
import GoSem.ClaimMapViews
import Derived.JoinedTies
import Derived.KernelRfl
namespace Go.Proofs.Ytmdalnkjpbjcdaa
/- THE CELL 'sum', in the pinned program and in every row, IS THE sha256 OF THE DUMP (.gsa) THAT YtmdalnkjpbjcdaaProg.lean LOADS. Nothing in Lean hashes anything: it is a label: what it is worth is what the hold of that sum in a sandbox is worth. -/
noncomputable def Try.pinned : Pinned := { name := "ytmdalnkjpbjcdaa", sum := "d38776edd971da46693ca11e0d72a223f2e9103f1e9ec1ea5514cd18d9609112", checked := Try.checked }
namespace Rows
def none {H : Type} : Left H := { results := [], args := [] }

/-- 'laws.FnExactCountParts': WHATEVER THE INPUT: true; the input reads as it did. -/
def fnExactCountPartsSpec : ChangeSpec := { name := "fnExactCountParts", fn := fun _ => fun
  | [d] => { results := [.lit (.bool true)], args := [d] }
  | _ => none }
def fnExactCountPartsRow : OpenClaim := { program := "ytmdalnkjpbjcdaa", sum := "d38776edd971da46693ca11e0d72a223f2e9103f1e9ec1ea5514cd18d9609112", func := "loop.example/numberparts/laws.FnExactCountParts", spec := "fnExactCountParts", unfollowed := true, recurses := true, apart := false }
def FnExactCountPartsSaid : Prop := fnExactCountPartsRow.holds Try.pinned (OpenSpec.ofChange fnExactCountPartsSpec)

/-- ITS FALSE NEIGHBOUR: 'it returns false'. Refute it at one input. -/
def fnExactCountPartsWrong : ChangeSpec := { name := "fnExactCountParts", fn := fun _ => fun
  | [d] => { results := [.lit (.bool false)], args := [d] }
  | _ => none }
def FnExactCountPartsWrongFalsely : Prop := fnExactCountPartsRow.holds Try.pinned (OpenSpec.ofChange fnExactCountPartsWrong)

/-- 'laws.FnCountParts': WHATEVER THE INPUT: true; the input reads as it did. -/
def fnCountPartsSpec : ChangeSpec := { name := "fnCountParts", fn := fun _ => fun
  | [d] => { results := [.lit (.bool true)], args := [d] }
  | _ => none }
def fnCountPartsRow : OpenClaim := { program := "ytmdalnkjpbjcdaa", sum := "d38776edd971da46693ca11e0d72a223f2e9103f1e9ec1ea5514cd18d9609112", func := "loop.example/numberparts/laws.FnCountParts", spec := "fnCountParts", unfollowed := true, recurses := true, apart := false }
def FnCountPartsSaid : Prop := fnCountPartsRow.holds Try.pinned (OpenSpec.ofChange fnCountPartsSpec)

/-- ITS FALSE NEIGHBOUR: 'it returns false'. Refute it at one input. -/
def fnCountPartsWrong : ChangeSpec := { name := "fnCountParts", fn := fun _ => fun
  | [d] => { results := [.lit (.bool false)], args := [d] }
  | _ => none }
def FnCountPartsWrongFalsely : Prop := fnCountPartsRow.holds Try.pinned (OpenSpec.ofChange fnCountPartsWrong)

/-- 'laws.FnExactAtMostParts': WHATEVER THE INPUT: true; the input reads as it did. -/
def fnExactAtMostPartsSpec : ChangeSpec := { name := "fnExactAtMostParts", fn := fun _ => fun
  | [d1, d2] => { results := [.lit (.bool true)], args := [d1, d2] }
  | _ => none }
def fnExactAtMostPartsRow : OpenClaim := { program := "ytmdalnkjpbjcdaa", sum := "d38776edd971da46693ca11e0d72a223f2e9103f1e9ec1ea5514cd18d9609112", func := "loop.example/numberparts/laws.FnExactAtMostParts", spec := "fnExactAtMostParts", unfollowed := true, recurses := true, apart := false }
def FnExactAtMostPartsSaid : Prop := fnExactAtMostPartsRow.holds Try.pinned (OpenSpec.ofChange fnExactAtMostPartsSpec)

/-- ITS FALSE NEIGHBOUR: 'it returns false'. Refute it at one input. -/
def fnExactAtMostPartsWrong : ChangeSpec := { name := "fnExactAtMostParts", fn := fun _ => fun
  | [d1, d2] => { results := [.lit (.bool false)], args := [d1, d2] }
  | _ => none }
def FnExactAtMostPartsWrongFalsely : Prop := fnExactAtMostPartsRow.holds Try.pinned (OpenSpec.ofChange fnExactAtMostPartsWrong)

/-- 'laws.FnAtMostParts': WHATEVER THE INPUT: true; the input reads as it did. -/
def fnAtMostPartsSpec : ChangeSpec := { name := "fnAtMostParts", fn := fun _ => fun
  | [d] => { results := [.lit (.bool true)], args := [d] }
  | _ => none }
def fnAtMostPartsRow : OpenClaim := { program := "ytmdalnkjpbjcdaa", sum := "d38776edd971da46693ca11e0d72a223f2e9103f1e9ec1ea5514cd18d9609112", func := "loop.example/numberparts/laws.FnAtMostParts", spec := "fnAtMostParts", unfollowed := true, recurses := true, apart := false }
def FnAtMostPartsSaid : Prop := fnAtMostPartsRow.holds Try.pinned (OpenSpec.ofChange fnAtMostPartsSpec)

/-- ITS FALSE NEIGHBOUR: 'it returns false'. Refute it at one input. -/
def fnAtMostPartsWrong : ChangeSpec := { name := "fnAtMostParts", fn := fun _ => fun
  | [d] => { results := [.lit (.bool false)], args := [d] }
  | _ => none }
def FnAtMostPartsWrongFalsely : Prop := fnAtMostPartsRow.holds Try.pinned (OpenSpec.ofChange fnAtMostPartsWrong)

/-- 'laws.FnExactJustParts': WHATEVER THE INPUT: true; the input reads as it did. -/
def fnExactJustPartsSpec : ChangeSpec := { name := "fnExactJustParts", fn := fun _ => fun
  | [d1, d2] => { results := [.lit (.bool true)], args := [d1, d2] }
  | _ => none }
def fnExactJustPartsRow : OpenClaim := { program := "ytmdalnkjpbjcdaa", sum := "d38776edd971da46693ca11e0d72a223f2e9103f1e9ec1ea5514cd18d9609112", func := "loop.example/numberparts/laws.FnExactJustParts", spec := "fnExactJustParts", unfollowed := true, recurses := true, apart := false }
def FnExactJustPartsSaid : Prop := fnExactJustPartsRow.holds Try.pinned (OpenSpec.ofChange fnExactJustPartsSpec)

/-- ITS FALSE NEIGHBOUR: 'it returns false'. Refute it at one input. -/
def fnExactJustPartsWrong : ChangeSpec := { name := "fnExactJustParts", fn := fun _ => fun
  | [d1, d2] => { results := [.lit (.bool false)], args := [d1, d2] }
  | _ => none }
def FnExactJustPartsWrongFalsely : Prop := fnExactJustPartsRow.holds Try.pinned (OpenSpec.ofChange fnExactJustPartsWrong)

/-- 'laws.FnJustParts': WHATEVER THE INPUT: true; the input reads as it did. -/
def fnJustPartsSpec : ChangeSpec := { name := "fnJustParts", fn := fun _ => fun
  | [d] => { results := [.lit (.bool true)], args := [d] }
  | _ => none }
def fnJustPartsRow : OpenClaim := { program := "ytmdalnkjpbjcdaa", sum := "d38776edd971da46693ca11e0d72a223f2e9103f1e9ec1ea5514cd18d9609112", func := "loop.example/numberparts/laws.FnJustParts", spec := "fnJustParts", unfollowed := true, recurses := true, apart := false }
def FnJustPartsSaid : Prop := fnJustPartsRow.holds Try.pinned (OpenSpec.ofChange fnJustPartsSpec)

/-- ITS FALSE NEIGHBOUR: 'it returns false'. Refute it at one input. -/
def fnJustPartsWrong : ChangeSpec := { name := "fnJustParts", fn := fun _ => fun
  | [d] => { results := [.lit (.bool false)], args := [d] }
  | _ => none }
def FnJustPartsWrongFalsely : Prop := fnJustPartsRow.holds Try.pinned (OpenSpec.ofChange fnJustPartsWrong)

/-- 'laws.FnExactSignedDistinct': WHATEVER THE INPUT: true; the input reads as it did. -/
def fnExactSignedDistinctSpec : ChangeSpec := { name := "fnExactSignedDistinct", fn := fun _ => fun
  | [d] => { results := [.lit (.bool true)], args := [d] }
  | _ => none }
def fnExactSignedDistinctRow : OpenClaim := { program := "ytmdalnkjpbjcdaa", sum := "d38776edd971da46693ca11e0d72a223f2e9103f1e9ec1ea5514cd18d9609112", func := "loop.example/numberparts/laws.FnExactSignedDistinct", spec := "fnExactSignedDistinct", unfollowed := true, recurses := true, apart := false }
def FnExactSignedDistinctSaid : Prop := fnExactSignedDistinctRow.holds Try.pinned (OpenSpec.ofChange fnExactSignedDistinctSpec)

/-- ITS FALSE NEIGHBOUR: 'it returns false'. Refute it at one input. -/
def fnExactSignedDistinctWrong : ChangeSpec := { name := "fnExactSignedDistinct", fn := fun _ => fun
  | [d] => { results := [.lit (.bool false)], args := [d] }
  | _ => none }
def FnExactSignedDistinctWrongFalsely : Prop := fnExactSignedDistinctRow.holds Try.pinned (OpenSpec.ofChange fnExactSignedDistinctWrong)

/-- 'laws.FnSignedDistinct': WHATEVER THE INPUT: true; the input reads as it did. -/
def fnSignedDistinctSpec : ChangeSpec := { name := "fnSignedDistinct", fn := fun _ => fun
  | [d] => { results := [.lit (.bool true)], args := [d] }
  | _ => none }
def fnSignedDistinctRow : OpenClaim := { program := "ytmdalnkjpbjcdaa", sum := "d38776edd971da46693ca11e0d72a223f2e9103f1e9ec1ea5514cd18d9609112", func := "loop.example/numberparts/laws.FnSignedDistinct", spec := "fnSignedDistinct", unfollowed := true, recurses := true, apart := false }
def FnSignedDistinctSaid : Prop := fnSignedDistinctRow.holds Try.pinned (OpenSpec.ofChange fnSignedDistinctSpec)

/-- ITS FALSE NEIGHBOUR: 'it returns false'. Refute it at one input. -/
def fnSignedDistinctWrong : ChangeSpec := { name := "fnSignedDistinct", fn := fun _ => fun
  | [d] => { results := [.lit (.bool false)], args := [d] }
  | _ => none }
def FnSignedDistinctWrongFalsely : Prop := fnSignedDistinctRow.holds Try.pinned (OpenSpec.ofChange fnSignedDistinctWrong)

/-- 'laws.FnPentagonal': WHATEVER THE INPUT: true; the input reads as it did. -/
def fnPentagonalSpec : ChangeSpec := { name := "fnPentagonal", fn := fun _ => fun
  | [d] => { results := [.lit (.bool true)], args := [d] }
  | _ => none }
def fnPentagonalRow : OpenClaim := { program := "ytmdalnkjpbjcdaa", sum := "d38776edd971da46693ca11e0d72a223f2e9103f1e9ec1ea5514cd18d9609112", func := "loop.example/numberparts/laws.FnPentagonal", spec := "fnPentagonal", unfollowed := true, recurses := true, apart := false }
def FnPentagonalSaid : Prop := fnPentagonalRow.holds Try.pinned (OpenSpec.ofChange fnPentagonalSpec)

/-- ITS FALSE NEIGHBOUR: 'it returns false'. Refute it at one input. -/
def fnPentagonalWrong : ChangeSpec := { name := "fnPentagonal", fn := fun _ => fun
  | [d] => { results := [.lit (.bool false)], args := [d] }
  | _ => none }
def FnPentagonalWrongFalsely : Prop := fnPentagonalRow.holds Try.pinned (OpenSpec.ofChange fnPentagonalWrong)

/-- 'laws.FnDivisorSum': WHATEVER THE INPUT: true; the input reads as it did. -/
def fnDivisorSumSpec : ChangeSpec := { name := "fnDivisorSum", fn := fun _ => fun
  | [d] => { results := [.lit (.bool true)], args := [d] }
  | _ => none }
def fnDivisorSumRow : OpenClaim := { program := "ytmdalnkjpbjcdaa", sum := "d38776edd971da46693ca11e0d72a223f2e9103f1e9ec1ea5514cd18d9609112", func := "loop.example/numberparts/laws.FnDivisorSum", spec := "fnDivisorSum", unfollowed := true, recurses := true, apart := false }
def FnDivisorSumSaid : Prop := fnDivisorSumRow.holds Try.pinned (OpenSpec.ofChange fnDivisorSumSpec)

/-- ITS FALSE NEIGHBOUR: 'it returns false'. Refute it at one input. -/
def fnDivisorSumWrong : ChangeSpec := { name := "fnDivisorSum", fn := fun _ => fun
  | [d] => { results := [.lit (.bool false)], args := [d] }
  | _ => none }
def FnDivisorSumWrongFalsely : Prop := fnDivisorSumRow.holds Try.pinned (OpenSpec.ofChange fnDivisorSumWrong)

/-- 'laws.FnExactSquareSum': WHATEVER THE INPUT: true; the input reads as it did. -/
def fnExactSquareSumSpec : ChangeSpec := { name := "fnExactSquareSum", fn := fun _ => fun
  | [d] => { results := [.lit (.bool true)], args := [d] }
  | _ => none }
def fnExactSquareSumRow : OpenClaim := { program := "ytmdalnkjpbjcdaa", sum := "d38776edd971da46693ca11e0d72a223f2e9103f1e9ec1ea5514cd18d9609112", func := "loop.example/numberparts/laws.FnExactSquareSum", spec := "fnExactSquareSum", unfollowed := true, recurses := true, apart := false }
def FnExactSquareSumSaid : Prop := fnExactSquareSumRow.holds Try.pinned (OpenSpec.ofChange fnExactSquareSumSpec)

/-- ITS FALSE NEIGHBOUR: 'it returns false'. Refute it at one input. -/
def fnExactSquareSumWrong : ChangeSpec := { name := "fnExactSquareSum", fn := fun _ => fun
  | [d] => { results := [.lit (.bool false)], args := [d] }
  | _ => none }
def FnExactSquareSumWrongFalsely : Prop := fnExactSquareSumRow.holds Try.pinned (OpenSpec.ofChange fnExactSquareSumWrong)

/-- 'laws.FnExactSelfCount': WHATEVER THE INPUT: true; the input reads as it did. -/
def fnExactSelfCountSpec : ChangeSpec := { name := "fnExactSelfCount", fn := fun _ => fun
  | [d] => { results := [.lit (.bool true)], args := [d] }
  | _ => none }
def fnExactSelfCountRow : OpenClaim := { program := "ytmdalnkjpbjcdaa", sum := "d38776edd971da46693ca11e0d72a223f2e9103f1e9ec1ea5514cd18d9609112", func := "loop.example/numberparts/laws.FnExactSelfCount", spec := "fnExactSelfCount", unfollowed := true, recurses := true, apart := false }
def FnExactSelfCountSaid : Prop := fnExactSelfCountRow.holds Try.pinned (OpenSpec.ofChange fnExactSelfCountSpec)

/-- ITS FALSE NEIGHBOUR: 'it returns false'. Refute it at one input. -/
def fnExactSelfCountWrong : ChangeSpec := { name := "fnExactSelfCount", fn := fun _ => fun
  | [d] => { results := [.lit (.bool false)], args := [d] }
  | _ => none }
def FnExactSelfCountWrongFalsely : Prop := fnExactSelfCountRow.holds Try.pinned (OpenSpec.ofChange fnExactSelfCountWrong)

/- THE SECOND FORM. 'bulk': how many values and letters a reading holds, each counted each time it is reached (what is shared counts as often as it is met; a slice's spare places count too). A statement '..UptoSaid' is the law's where the arguments, and the package variables that the reading takes, are together of bulk at most 1048576: NARROWER than '..Said'. Prove '..Said' where nothing that the law and all that it calls make is longer than what came in: it says more and counts as full. Else prove '..UptoSaid'. A law counts once. -/
mutual
def uptoBulk {H : Type} : DataW H → Nat
  | .lit (.string bytes) => bytes.length + 1
  | .lit _ => 1
  | .nil => 1
  | .ptr d => uptoBulk d + 1
  | .slice elems spare => uptoBulkAll elems + uptoBulkAll spare + 1
  | .agg parts => uptoBulkAll parts + 1
  | .iface _ d => uptoBulk d + 1
  | .map entries => uptoBulkEntries entries + 1
  | .held _ => 1
def uptoBulkAll {H : Type} : List (DataW H) → Nat
  | [] => 0
  | d :: r => uptoBulk d + uptoBulkAll r
def uptoBulkEntries {H : Type} : List (Lit × DataW H) → Nat
  | [] => 0
  | x :: r => uptoBulkEntry x + uptoBulkEntries r
def uptoBulkEntry {H : Type} : Lit × DataW H → Nat
  | (.string bytes, d) => bytes.length + uptoBulk d + 1
  | (_, d) => uptoBulk d + 1
 end
def uptoSmall : (H : Type) → List (DataW H) → Bool := fun _ ds => decide (uptoBulkAll ds ≤ 1048576)
def OpenSpec.upto (s : _root_.Go.ChangeSpec) : _root_.Go.OpenSpec := { _root_.Go.OpenSpec.ofChange s with cond := some uptoSmall }

/-- 'laws.FnExactCountParts', WHERE WHAT IT READS IS OF BULK AT MOST 1048576: true; the input reads as it did. -/
def fnExactCountPartsUptoRow : OpenClaim := { program := "ytmdalnkjpbjcdaa", sum := "d38776edd971da46693ca11e0d72a223f2e9103f1e9ec1ea5514cd18d9609112", func := "loop.example/numberparts/laws.FnExactCountParts", spec := "fnExactCountParts", unfollowed := true, recurses := true, apart := false, narrowed := true }
def FnExactCountPartsUptoSaid : Prop := fnExactCountPartsUptoRow.holds Try.pinned (OpenSpec.upto fnExactCountPartsSpec)

/-- 'laws.FnCountParts', WHERE WHAT IT READS IS OF BULK AT MOST 1048576: true; the input reads as it did. -/
def fnCountPartsUptoRow : OpenClaim := { program := "ytmdalnkjpbjcdaa", sum := "d38776edd971da46693ca11e0d72a223f2e9103f1e9ec1ea5514cd18d9609112", func := "loop.example/numberparts/laws.FnCountParts", spec := "fnCountParts", unfollowed := true, recurses := true, apart := false, narrowed := true }
def FnCountPartsUptoSaid : Prop := fnCountPartsUptoRow.holds Try.pinned (OpenSpec.upto fnCountPartsSpec)

/-- 'laws.FnExactAtMostParts', WHERE WHAT IT READS IS OF BULK AT MOST 1048576: true; the input reads as it did. -/
def fnExactAtMostPartsUptoRow : OpenClaim := { program := "ytmdalnkjpbjcdaa", sum := "d38776edd971da46693ca11e0d72a223f2e9103f1e9ec1ea5514cd18d9609112", func := "loop.example/numberparts/laws.FnExactAtMostParts", spec := "fnExactAtMostParts", unfollowed := true, recurses := true, apart := false, narrowed := true }
def FnExactAtMostPartsUptoSaid : Prop := fnExactAtMostPartsUptoRow.holds Try.pinned (OpenSpec.upto fnExactAtMostPartsSpec)

/-- 'laws.FnAtMostParts', WHERE WHAT IT READS IS OF BULK AT MOST 1048576: true; the input reads as it did. -/
def fnAtMostPartsUptoRow : OpenClaim := { program := "ytmdalnkjpbjcdaa", sum := "d38776edd971da46693ca11e0d72a223f2e9103f1e9ec1ea5514cd18d9609112", func := "loop.example/numberparts/laws.FnAtMostParts", spec := "fnAtMostParts", unfollowed := true, recurses := true, apart := false, narrowed := true }
def FnAtMostPartsUptoSaid : Prop := fnAtMostPartsUptoRow.holds Try.pinned (OpenSpec.upto fnAtMostPartsSpec)

/-- 'laws.FnExactJustParts', WHERE WHAT IT READS IS OF BULK AT MOST 1048576: true; the input reads as it did. -/
def fnExactJustPartsUptoRow : OpenClaim := { program := "ytmdalnkjpbjcdaa", sum := "d38776edd971da46693ca11e0d72a223f2e9103f1e9ec1ea5514cd18d9609112", func := "loop.example/numberparts/laws.FnExactJustParts", spec := "fnExactJustParts", unfollowed := true, recurses := true, apart := false, narrowed := true }
def FnExactJustPartsUptoSaid : Prop := fnExactJustPartsUptoRow.holds Try.pinned (OpenSpec.upto fnExactJustPartsSpec)

/-- 'laws.FnJustParts', WHERE WHAT IT READS IS OF BULK AT MOST 1048576: true; the input reads as it did. -/
def fnJustPartsUptoRow : OpenClaim := { program := "ytmdalnkjpbjcdaa", sum := "d38776edd971da46693ca11e0d72a223f2e9103f1e9ec1ea5514cd18d9609112", func := "loop.example/numberparts/laws.FnJustParts", spec := "fnJustParts", unfollowed := true, recurses := true, apart := false, narrowed := true }
def FnJustPartsUptoSaid : Prop := fnJustPartsUptoRow.holds Try.pinned (OpenSpec.upto fnJustPartsSpec)

/-- 'laws.FnExactSignedDistinct', WHERE WHAT IT READS IS OF BULK AT MOST 1048576: true; the input reads as it did. -/
def fnExactSignedDistinctUptoRow : OpenClaim := { program := "ytmdalnkjpbjcdaa", sum := "d38776edd971da46693ca11e0d72a223f2e9103f1e9ec1ea5514cd18d9609112", func := "loop.example/numberparts/laws.FnExactSignedDistinct", spec := "fnExactSignedDistinct", unfollowed := true, recurses := true, apart := false, narrowed := true }
def FnExactSignedDistinctUptoSaid : Prop := fnExactSignedDistinctUptoRow.holds Try.pinned (OpenSpec.upto fnExactSignedDistinctSpec)

/-- 'laws.FnSignedDistinct', WHERE WHAT IT READS IS OF BULK AT MOST 1048576: true; the input reads as it did. -/
def fnSignedDistinctUptoRow : OpenClaim := { program := "ytmdalnkjpbjcdaa", sum := "d38776edd971da46693ca11e0d72a223f2e9103f1e9ec1ea5514cd18d9609112", func := "loop.example/numberparts/laws.FnSignedDistinct", spec := "fnSignedDistinct", unfollowed := true, recurses := true, apart := false, narrowed := true }
def FnSignedDistinctUptoSaid : Prop := fnSignedDistinctUptoRow.holds Try.pinned (OpenSpec.upto fnSignedDistinctSpec)

/-- 'laws.FnPentagonal', WHERE WHAT IT READS IS OF BULK AT MOST 1048576: true; the input reads as it did. -/
def fnPentagonalUptoRow : OpenClaim := { program := "ytmdalnkjpbjcdaa", sum := "d38776edd971da46693ca11e0d72a223f2e9103f1e9ec1ea5514cd18d9609112", func := "loop.example/numberparts/laws.FnPentagonal", spec := "fnPentagonal", unfollowed := true, recurses := true, apart := false, narrowed := true }
def FnPentagonalUptoSaid : Prop := fnPentagonalUptoRow.holds Try.pinned (OpenSpec.upto fnPentagonalSpec)

/-- 'laws.FnDivisorSum', WHERE WHAT IT READS IS OF BULK AT MOST 1048576: true; the input reads as it did. -/
def fnDivisorSumUptoRow : OpenClaim := { program := "ytmdalnkjpbjcdaa", sum := "d38776edd971da46693ca11e0d72a223f2e9103f1e9ec1ea5514cd18d9609112", func := "loop.example/numberparts/laws.FnDivisorSum", spec := "fnDivisorSum", unfollowed := true, recurses := true, apart := false, narrowed := true }
def FnDivisorSumUptoSaid : Prop := fnDivisorSumUptoRow.holds Try.pinned (OpenSpec.upto fnDivisorSumSpec)

/-- 'laws.FnExactSquareSum', WHERE WHAT IT READS IS OF BULK AT MOST 1048576: true; the input reads as it did. -/
def fnExactSquareSumUptoRow : OpenClaim := { program := "ytmdalnkjpbjcdaa", sum := "d38776edd971da46693ca11e0d72a223f2e9103f1e9ec1ea5514cd18d9609112", func := "loop.example/numberparts/laws.FnExactSquareSum", spec := "fnExactSquareSum", unfollowed := true, recurses := true, apart := false, narrowed := true }
def FnExactSquareSumUptoSaid : Prop := fnExactSquareSumUptoRow.holds Try.pinned (OpenSpec.upto fnExactSquareSumSpec)

/-- 'laws.FnExactSelfCount', WHERE WHAT IT READS IS OF BULK AT MOST 1048576: true; the input reads as it did. -/
def fnExactSelfCountUptoRow : OpenClaim := { program := "ytmdalnkjpbjcdaa", sum := "d38776edd971da46693ca11e0d72a223f2e9103f1e9ec1ea5514cd18d9609112", func := "loop.example/numberparts/laws.FnExactSelfCount", spec := "fnExactSelfCount", unfollowed := true, recurses := true, apart := false, narrowed := true }
def FnExactSelfCountUptoSaid : Prop := fnExactSelfCountUptoRow.holds Try.pinned (OpenSpec.upto fnExactSelfCountSpec)

end Rows
end Go.Proofs.Ytmdalnkjpbjcdaa
