/-
  No cell of these rows narrows 'for every input' (looked for: loops, veiled, ifaces, maps, wideKeys, modest, calm, conditions, laid).
  DERIVED. THE GIVEN ROWS OF THIS SEAT. 4 by the template 'for every input the law returns true; each argument reads behind the call as it read before'; 0 by the template 'total and deterministic' (their statements: YtifhnjnpbpgjfaaTotals.lean).
  GIVEN WITH THE SEED: the statements are not yours to turn. If you find one false, say at which input.
  Laid BY PROGRAM, IN A SANDBOX (cutbox-rows.mjs): the forced cells as the released guide's own fill.sh prints them over the translation c98254529ce55066… (all of the seat's roots in one cut). By AI agents, Wed Nov 11 2026. No macro, syntax, notation, axiom, sorry.
-/
import Derived.Test.YtifhnjnpbpgjfaaChecked
import GoSem.Claim
import GoSem.ClaimJoined
import GoSem.ClaimMapViews
import Derived.JoinedTies
import Derived.KernelRfl
namespace Go.Proofs.Ytifhnjnpbpgjfaa
/- THE CELL 'sum', in the pinned program and in every row, IS THE sha256 OF THE DUMP (.gsa) THAT YtifhnjnpbpgjfaaProg.lean LOADS. Nothing in Lean hashes anything: it is a label: what it is worth is what the hold of that sum in a sandbox is worth. -/
noncomputable def Try.pinned : Pinned := { name := "ytifhnjnpbpgjfaa", sum := "c98254529ce550665e0b4173b836cc34f6ca6b379efa024b150b66339234f618", checked := Try.checked }
namespace Rows
def none {H : Type} : Left H := { results := [], args := [] }

/-- 'laws.FnSquareSum': WHATEVER THE INPUT: true; the input reads as it did. -/
def fnSquareSumSpec : ChangeSpec := { name := "fnSquareSum", fn := fun _ => fun
  | [d] => { results := [.lit (.bool true)], args := [d] }
  | _ => none }
def fnSquareSumRow : OpenClaim := { program := "ytifhnjnpbpgjfaa", sum := "c98254529ce550665e0b4173b836cc34f6ca6b379efa024b150b66339234f618", func := "loop.example/numberparts/laws.FnSquareSum", spec := "fnSquareSum", unfollowed := true, recurses := true, apart := false }
def FnSquareSumSaid : Prop := fnSquareSumRow.holds Try.pinned (OpenSpec.ofChange fnSquareSumSpec)

/-- ITS FALSE NEIGHBOUR: 'it returns false'. Refute it at one input. -/
def fnSquareSumWrong : ChangeSpec := { name := "fnSquareSum", fn := fun _ => fun
  | [d] => { results := [.lit (.bool false)], args := [d] }
  | _ => none }
def FnSquareSumWrongFalsely : Prop := fnSquareSumRow.holds Try.pinned (OpenSpec.ofChange fnSquareSumWrong)

/-- 'laws.FnSelfCount': WHATEVER THE INPUT: true; the input reads as it did. -/
def fnSelfCountSpec : ChangeSpec := { name := "fnSelfCount", fn := fun _ => fun
  | [d] => { results := [.lit (.bool true)], args := [d] }
  | _ => none }
def fnSelfCountRow : OpenClaim := { program := "ytifhnjnpbpgjfaa", sum := "c98254529ce550665e0b4173b836cc34f6ca6b379efa024b150b66339234f618", func := "loop.example/numberparts/laws.FnSelfCount", spec := "fnSelfCount", unfollowed := true, recurses := true, apart := false }
def FnSelfCountSaid : Prop := fnSelfCountRow.holds Try.pinned (OpenSpec.ofChange fnSelfCountSpec)

/-- ITS FALSE NEIGHBOUR: 'it returns false'. Refute it at one input. -/
def fnSelfCountWrong : ChangeSpec := { name := "fnSelfCount", fn := fun _ => fun
  | [d] => { results := [.lit (.bool false)], args := [d] }
  | _ => none }
def FnSelfCountWrongFalsely : Prop := fnSelfCountRow.holds Try.pinned (OpenSpec.ofChange fnSelfCountWrong)

/-- 'laws.FnKindParts': WHATEVER THE INPUT: true; the input reads as it did. -/
def fnKindPartsSpec : ChangeSpec := { name := "fnKindParts", fn := fun _ => fun
  | [d] => { results := [.lit (.bool true)], args := [d] }
  | _ => none }
def fnKindPartsRow : OpenClaim := { program := "ytifhnjnpbpgjfaa", sum := "c98254529ce550665e0b4173b836cc34f6ca6b379efa024b150b66339234f618", func := "loop.example/numberparts/laws.FnKindParts", spec := "fnKindParts", unfollowed := true, recurses := true, apart := false }
def FnKindPartsSaid : Prop := fnKindPartsRow.holds Try.pinned (OpenSpec.ofChange fnKindPartsSpec)

/-- ITS FALSE NEIGHBOUR: 'it returns false'. Refute it at one input. -/
def fnKindPartsWrong : ChangeSpec := { name := "fnKindParts", fn := fun _ => fun
  | [d] => { results := [.lit (.bool false)], args := [d] }
  | _ => none }
def FnKindPartsWrongFalsely : Prop := fnKindPartsRow.holds Try.pinned (OpenSpec.ofChange fnKindPartsWrong)

/-- 'laws.FnIsKind': WHATEVER THE INPUT: true; the input reads as it did. -/
def fnIsKindSpec : ChangeSpec := { name := "fnIsKind", fn := fun _ => fun
  | [d] => { results := [.lit (.bool true)], args := [d] }
  | _ => none }
def fnIsKindRow : OpenClaim := { program := "ytifhnjnpbpgjfaa", sum := "c98254529ce550665e0b4173b836cc34f6ca6b379efa024b150b66339234f618", func := "loop.example/numberparts/laws.FnIsKind", spec := "fnIsKind", unfollowed := true, recurses := true, apart := false }
def FnIsKindSaid : Prop := fnIsKindRow.holds Try.pinned (OpenSpec.ofChange fnIsKindSpec)

/-- ITS FALSE NEIGHBOUR: 'it returns false'. Refute it at one input. -/
def fnIsKindWrong : ChangeSpec := { name := "fnIsKind", fn := fun _ => fun
  | [d] => { results := [.lit (.bool false)], args := [d] }
  | _ => none }
def FnIsKindWrongFalsely : Prop := fnIsKindRow.holds Try.pinned (OpenSpec.ofChange fnIsKindWrong)

/- THE SECOND FORM. 'bulk': how many values and letters a reading holds, each counted each time it is reached (what is shared counts as often as it is met; a slice's spare places count too). A statement '..UptoSaid' is the law's where the arguments, and the package variables that the reading takes, are together of bulk at most 1048576: NARROWER than '..Said'. Prove '..Said' where nothing that the law and all that it calls make is longer than what came in: it says more and counts as full. Else prove '..UptoSaid'. A law counts once. -/
mutual
def uptoBulk {H : Type} : DataW H → Nat
  | .lit (.string bytes) => bytes.length + 1
  | .lit _ => 1
  | .nil => 1
  | .ptr d => uptoBulk d + 1
  | .slice elems spare => uptoBulkAll elems + uptoBulkAll spare + 1
  | .agg parts => uptoBulkAll parts + 1
  | .iface _ d => uptoBulk d + 1
  | .map entries => uptoBulkEntries entries + 1
  | .held _ => 1
def uptoBulkAll {H : Type} : List (DataW H) → Nat
  | [] => 0
  | d :: r => uptoBulk d + uptoBulkAll r
def uptoBulkEntries {H : Type} : List (Lit × DataW H) → Nat
  | [] => 0
  | x :: r => uptoBulkEntry x + uptoBulkEntries r
def uptoBulkEntry {H : Type} : Lit × DataW H → Nat
  | (.string bytes, d) => bytes.length + uptoBulk d + 1
  | (_, d) => uptoBulk d + 1
 end
def uptoSmall : (H : Type) → List (DataW H) → Bool := fun _ ds => decide (uptoBulkAll ds ≤ 1048576)
def OpenSpec.upto (s : _root_.Go.ChangeSpec) : _root_.Go.OpenSpec := { _root_.Go.OpenSpec.ofChange s with cond := some uptoSmall }

/-- 'laws.FnSquareSum', WHERE WHAT IT READS IS OF BULK AT MOST 1048576: true; the input reads as it did. -/
def fnSquareSumUptoRow : OpenClaim := { program := "ytifhnjnpbpgjfaa", sum := "c98254529ce550665e0b4173b836cc34f6ca6b379efa024b150b66339234f618", func := "loop.example/numberparts/laws.FnSquareSum", spec := "fnSquareSum", unfollowed := true, recurses := true, apart := false, narrowed := true }
def FnSquareSumUptoSaid : Prop := fnSquareSumUptoRow.holds Try.pinned (OpenSpec.upto fnSquareSumSpec)

/-- 'laws.FnSelfCount', WHERE WHAT IT READS IS OF BULK AT MOST 1048576: true; the input reads as it did. -/
def fnSelfCountUptoRow : OpenClaim := { program := "ytifhnjnpbpgjfaa", sum := "c98254529ce550665e0b4173b836cc34f6ca6b379efa024b150b66339234f618", func := "loop.example/numberparts/laws.FnSelfCount", spec := "fnSelfCount", unfollowed := true, recurses := true, apart := false, narrowed := true }
def FnSelfCountUptoSaid : Prop := fnSelfCountUptoRow.holds Try.pinned (OpenSpec.upto fnSelfCountSpec)

/-- 'laws.FnKindParts', WHERE WHAT IT READS IS OF BULK AT MOST 1048576: true; the input reads as it did. -/
def fnKindPartsUptoRow : OpenClaim := { program := "ytifhnjnpbpgjfaa", sum := "c98254529ce550665e0b4173b836cc34f6ca6b379efa024b150b66339234f618", func := "loop.example/numberparts/laws.FnKindParts", spec := "fnKindParts", unfollowed := true, recurses := true, apart := false, narrowed := true }
def FnKindPartsUptoSaid : Prop := fnKindPartsUptoRow.holds Try.pinned (OpenSpec.upto fnKindPartsSpec)

/-- 'laws.FnIsKind', WHERE WHAT IT READS IS OF BULK AT MOST 1048576: true; the input reads as it did. -/
def fnIsKindUptoRow : OpenClaim := { program := "ytifhnjnpbpgjfaa", sum := "c98254529ce550665e0b4173b836cc34f6ca6b379efa024b150b66339234f618", func := "loop.example/numberparts/laws.FnIsKind", spec := "fnIsKind", unfollowed := true, recurses := true, apart := false, narrowed := true }
def FnIsKindUptoSaid : Prop := fnIsKindUptoRow.holds Try.pinned (OpenSpec.upto fnIsKindSpec)

end Rows
end Go.Proofs.Ytifhnjnpbpgjfaa
