/-
  No cell of these rows narrows 'for every input' (looked for: loops, veiled, ifaces, maps, wideKeys, modest, calm, conditions, laid).
  DERIVED. THE GIVEN ROWS OF THIS SEAT. 6 by the template 'for every input the law returns true; each argument reads behind the call as it read before'; 0 by the template 'total and deterministic' (their statements: YtfcmfjhlmjnjiaaTotals.lean).
  GIVEN WITH THE SEED: the statements are not yours to turn. If you find one false, say at which input.
  Laid BY PROGRAM, IN A SANDBOX (cutbox-rows.mjs): the forced cells as the released guide's own fill.sh prints them over the translation 0d363ce418e56426… (all of the seat's roots in one cut). By AI agents, Wed Nov 11 2026. No macro, syntax, notation, axiom, sorry.
-/
import Derived.Test.YtfcmfjhlmjnjiaaChecked
import GoSem.Claim
import GoSem.ClaimJoined
import GoSem.ClaimMapViews
import Derived.JoinedTies
import Derived.KernelRfl
namespace Go.Proofs.Ytfcmfjhlmjnjiaa
/- THE CELL 'sum', in the pinned program and in every row, IS THE sha256 OF THE DUMP (.gsa) THAT YtfcmfjhlmjnjiaaProg.lean LOADS. Nothing in Lean hashes anything: it is a label: what it is worth is what the hold of that sum in a sandbox is worth. -/
noncomputable def Try.pinned : Pinned := { name := "ytfcmfjhlmjnjiaa", sum := "0d363ce418e564269e0abba2c9425b34151d653d444b685b54390bfca4bf416a", checked := Try.checked }
namespace Rows
def none {H : Type} : Left H := { results := [], args := [] }

/-- 'laws.FnExactKindParts': WHATEVER THE INPUT: true; the input reads as it did. -/
def fnExactKindPartsSpec : ChangeSpec := { name := "fnExactKindParts", fn := fun _ => fun
  | [d1, d2] => { results := [.lit (.bool true)], args := [d1, d2] }
  | _ => none }
def fnExactKindPartsRow : OpenClaim := { program := "ytfcmfjhlmjnjiaa", sum := "0d363ce418e564269e0abba2c9425b34151d653d444b685b54390bfca4bf416a", func := "loop.example/numberparts/laws.FnExactKindParts", spec := "fnExactKindParts", unfollowed := true, recurses := true, apart := false }
def FnExactKindPartsSaid : Prop := fnExactKindPartsRow.holds Try.pinned (OpenSpec.ofChange fnExactKindPartsSpec)

/-- ITS FALSE NEIGHBOUR: 'it returns false'. Refute it at one input. -/
def fnExactKindPartsWrong : ChangeSpec := { name := "fnExactKindParts", fn := fun _ => fun
  | [d1, d2] => { results := [.lit (.bool false)], args := [d1, d2] }
  | _ => none }
def FnExactKindPartsWrongFalsely : Prop := fnExactKindPartsRow.holds Try.pinned (OpenSpec.ofChange fnExactKindPartsWrong)

/-- 'laws.FnKindParts': WHATEVER THE INPUT: true; the input reads as it did. -/
def fnKindPartsSpec : ChangeSpec := { name := "fnKindParts", fn := fun _ => fun
  | [d] => { results := [.lit (.bool true)], args := [d] }
  | _ => none }
def fnKindPartsRow : OpenClaim := { program := "ytfcmfjhlmjnjiaa", sum := "0d363ce418e564269e0abba2c9425b34151d653d444b685b54390bfca4bf416a", func := "loop.example/numberparts/laws.FnKindParts", spec := "fnKindParts", unfollowed := true, recurses := true, apart := false }
def FnKindPartsSaid : Prop := fnKindPartsRow.holds Try.pinned (OpenSpec.ofChange fnKindPartsSpec)

/-- ITS FALSE NEIGHBOUR: 'it returns false'. Refute it at one input. -/
def fnKindPartsWrong : ChangeSpec := { name := "fnKindParts", fn := fun _ => fun
  | [d] => { results := [.lit (.bool false)], args := [d] }
  | _ => none }
def FnKindPartsWrongFalsely : Prop := fnKindPartsRow.holds Try.pinned (OpenSpec.ofChange fnKindPartsWrong)

/-- 'laws.FnExactKindCount': WHATEVER THE INPUT: true; the input reads as it did. -/
def fnExactKindCountSpec : ChangeSpec := { name := "fnExactKindCount", fn := fun _ => fun
  | [d1, d2] => { results := [.lit (.bool true)], args := [d1, d2] }
  | _ => none }
def fnExactKindCountRow : OpenClaim := { program := "ytfcmfjhlmjnjiaa", sum := "0d363ce418e564269e0abba2c9425b34151d653d444b685b54390bfca4bf416a", func := "loop.example/numberparts/laws.FnExactKindCount", spec := "fnExactKindCount", unfollowed := true, recurses := true, apart := false }
def FnExactKindCountSaid : Prop := fnExactKindCountRow.holds Try.pinned (OpenSpec.ofChange fnExactKindCountSpec)

/-- ITS FALSE NEIGHBOUR: 'it returns false'. Refute it at one input. -/
def fnExactKindCountWrong : ChangeSpec := { name := "fnExactKindCount", fn := fun _ => fun
  | [d1, d2] => { results := [.lit (.bool false)], args := [d1, d2] }
  | _ => none }
def FnExactKindCountWrongFalsely : Prop := fnExactKindCountRow.holds Try.pinned (OpenSpec.ofChange fnExactKindCountWrong)

/-- 'laws.FnIsKind': WHATEVER THE INPUT: true; the input reads as it did. -/
def fnIsKindSpec : ChangeSpec := { name := "fnIsKind", fn := fun _ => fun
  | [d] => { results := [.lit (.bool true)], args := [d] }
  | _ => none }
def fnIsKindRow : OpenClaim := { program := "ytfcmfjhlmjnjiaa", sum := "0d363ce418e564269e0abba2c9425b34151d653d444b685b54390bfca4bf416a", func := "loop.example/numberparts/laws.FnIsKind", spec := "fnIsKind", unfollowed := true, recurses := true, apart := false }
def FnIsKindSaid : Prop := fnIsKindRow.holds Try.pinned (OpenSpec.ofChange fnIsKindSpec)

/-- ITS FALSE NEIGHBOUR: 'it returns false'. Refute it at one input. -/
def fnIsKindWrong : ChangeSpec := { name := "fnIsKind", fn := fun _ => fun
  | [d] => { results := [.lit (.bool false)], args := [d] }
  | _ => none }
def FnIsKindWrongFalsely : Prop := fnIsKindRow.holds Try.pinned (OpenSpec.ofChange fnIsKindWrong)

/-- 'laws.FnExactAllParts': WHATEVER THE INPUT: true; the input reads as it did. -/
def fnExactAllPartsSpec : ChangeSpec := { name := "fnExactAllParts", fn := fun _ => fun
  | [d] => { results := [.lit (.bool true)], args := [d] }
  | _ => none }
def fnExactAllPartsRow : OpenClaim := { program := "ytfcmfjhlmjnjiaa", sum := "0d363ce418e564269e0abba2c9425b34151d653d444b685b54390bfca4bf416a", func := "loop.example/numberparts/laws.FnExactAllParts", spec := "fnExactAllParts", unfollowed := true, recurses := true, apart := false }
def FnExactAllPartsSaid : Prop := fnExactAllPartsRow.holds Try.pinned (OpenSpec.ofChange fnExactAllPartsSpec)

/-- ITS FALSE NEIGHBOUR: 'it returns false'. Refute it at one input. -/
def fnExactAllPartsWrong : ChangeSpec := { name := "fnExactAllParts", fn := fun _ => fun
  | [d] => { results := [.lit (.bool false)], args := [d] }
  | _ => none }
def FnExactAllPartsWrongFalsely : Prop := fnExactAllPartsRow.holds Try.pinned (OpenSpec.ofChange fnExactAllPartsWrong)

/-- 'laws.FnAllParts': WHATEVER THE INPUT: true; the input reads as it did. -/
def fnAllPartsSpec : ChangeSpec := { name := "fnAllParts", fn := fun _ => fun
  | [d] => { results := [.lit (.bool true)], args := [d] }
  | _ => none }
def fnAllPartsRow : OpenClaim := { program := "ytfcmfjhlmjnjiaa", sum := "0d363ce418e564269e0abba2c9425b34151d653d444b685b54390bfca4bf416a", func := "loop.example/numberparts/laws.FnAllParts", spec := "fnAllParts", unfollowed := true, recurses := true, apart := false }
def FnAllPartsSaid : Prop := fnAllPartsRow.holds Try.pinned (OpenSpec.ofChange fnAllPartsSpec)

/-- ITS FALSE NEIGHBOUR: 'it returns false'. Refute it at one input. -/
def fnAllPartsWrong : ChangeSpec := { name := "fnAllParts", fn := fun _ => fun
  | [d] => { results := [.lit (.bool false)], args := [d] }
  | _ => none }
def FnAllPartsWrongFalsely : Prop := fnAllPartsRow.holds Try.pinned (OpenSpec.ofChange fnAllPartsWrong)

/- THE SECOND FORM. 'bulk': how many values and letters a reading holds, each counted each time it is reached (what is shared counts as often as it is met; a slice's spare places count too). A statement '..UptoSaid' is the law's where the arguments, and the package variables that the reading takes, are together of bulk at most 1048576: NARROWER than '..Said'. Prove '..Said' where nothing that the law and all that it calls make is longer than what came in: it says more and counts as full. Else prove '..UptoSaid'. A law counts once. -/
mutual
def uptoBulk {H : Type} : DataW H → Nat
  | .lit (.string bytes) => bytes.length + 1
  | .lit _ => 1
  | .nil => 1
  | .ptr d => uptoBulk d + 1
  | .slice elems spare => uptoBulkAll elems + uptoBulkAll spare + 1
  | .agg parts => uptoBulkAll parts + 1
  | .iface _ d => uptoBulk d + 1
  | .map entries => uptoBulkEntries entries + 1
  | .held _ => 1
def uptoBulkAll {H : Type} : List (DataW H) → Nat
  | [] => 0
  | d :: r => uptoBulk d + uptoBulkAll r
def uptoBulkEntries {H : Type} : List (Lit × DataW H) → Nat
  | [] => 0
  | x :: r => uptoBulkEntry x + uptoBulkEntries r
def uptoBulkEntry {H : Type} : Lit × DataW H → Nat
  | (.string bytes, d) => bytes.length + uptoBulk d + 1
  | (_, d) => uptoBulk d + 1
 end
def uptoSmall : (H : Type) → List (DataW H) → Bool := fun _ ds => decide (uptoBulkAll ds ≤ 1048576)
def OpenSpec.upto (s : _root_.Go.ChangeSpec) : _root_.Go.OpenSpec := { _root_.Go.OpenSpec.ofChange s with cond := some uptoSmall }

/-- 'laws.FnExactKindParts', WHERE WHAT IT READS IS OF BULK AT MOST 1048576: true; the input reads as it did. -/
def fnExactKindPartsUptoRow : OpenClaim := { program := "ytfcmfjhlmjnjiaa", sum := "0d363ce418e564269e0abba2c9425b34151d653d444b685b54390bfca4bf416a", func := "loop.example/numberparts/laws.FnExactKindParts", spec := "fnExactKindParts", unfollowed := true, recurses := true, apart := false, narrowed := true }
def FnExactKindPartsUptoSaid : Prop := fnExactKindPartsUptoRow.holds Try.pinned (OpenSpec.upto fnExactKindPartsSpec)

/-- 'laws.FnKindParts', WHERE WHAT IT READS IS OF BULK AT MOST 1048576: true; the input reads as it did. -/
def fnKindPartsUptoRow : OpenClaim := { program := "ytfcmfjhlmjnjiaa", sum := "0d363ce418e564269e0abba2c9425b34151d653d444b685b54390bfca4bf416a", func := "loop.example/numberparts/laws.FnKindParts", spec := "fnKindParts", unfollowed := true, recurses := true, apart := false, narrowed := true }
def FnKindPartsUptoSaid : Prop := fnKindPartsUptoRow.holds Try.pinned (OpenSpec.upto fnKindPartsSpec)

/-- 'laws.FnExactKindCount', WHERE WHAT IT READS IS OF BULK AT MOST 1048576: true; the input reads as it did. -/
def fnExactKindCountUptoRow : OpenClaim := { program := "ytfcmfjhlmjnjiaa", sum := "0d363ce418e564269e0abba2c9425b34151d653d444b685b54390bfca4bf416a", func := "loop.example/numberparts/laws.FnExactKindCount", spec := "fnExactKindCount", unfollowed := true, recurses := true, apart := false, narrowed := true }
def FnExactKindCountUptoSaid : Prop := fnExactKindCountUptoRow.holds Try.pinned (OpenSpec.upto fnExactKindCountSpec)

/-- 'laws.FnIsKind', WHERE WHAT IT READS IS OF BULK AT MOST 1048576: true; the input reads as it did. -/
def fnIsKindUptoRow : OpenClaim := { program := "ytfcmfjhlmjnjiaa", sum := "0d363ce418e564269e0abba2c9425b34151d653d444b685b54390bfca4bf416a", func := "loop.example/numberparts/laws.FnIsKind", spec := "fnIsKind", unfollowed := true, recurses := true, apart := false, narrowed := true }
def FnIsKindUptoSaid : Prop := fnIsKindUptoRow.holds Try.pinned (OpenSpec.upto fnIsKindSpec)

/-- 'laws.FnExactAllParts', WHERE WHAT IT READS IS OF BULK AT MOST 1048576: true; the input reads as it did. -/
def fnExactAllPartsUptoRow : OpenClaim := { program := "ytfcmfjhlmjnjiaa", sum := "0d363ce418e564269e0abba2c9425b34151d653d444b685b54390bfca4bf416a", func := "loop.example/numberparts/laws.FnExactAllParts", spec := "fnExactAllParts", unfollowed := true, recurses := true, apart := false, narrowed := true }
def FnExactAllPartsUptoSaid : Prop := fnExactAllPartsUptoRow.holds Try.pinned (OpenSpec.upto fnExactAllPartsSpec)

/-- 'laws.FnAllParts', WHERE WHAT IT READS IS OF BULK AT MOST 1048576: true; the input reads as it did. -/
def fnAllPartsUptoRow : OpenClaim := { program := "ytfcmfjhlmjnjiaa", sum := "0d363ce418e564269e0abba2c9425b34151d653d444b685b54390bfca4bf416a", func := "loop.example/numberparts/laws.FnAllParts", spec := "fnAllParts", unfollowed := true, recurses := true, apart := false, narrowed := true }
def FnAllPartsUptoSaid : Prop := fnAllPartsUptoRow.holds Try.pinned (OpenSpec.upto fnAllPartsSpec)

end Rows
end Go.Proofs.Ytfcmfjhlmjnjiaa
