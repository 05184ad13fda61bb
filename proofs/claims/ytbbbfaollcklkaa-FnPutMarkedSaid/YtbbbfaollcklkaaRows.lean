/-
  No cell of these rows narrows 'for every input' (looked for: loops, veiled, ifaces, maps, wideKeys, modest, calm, conditions, laid).
  DERIVED. THE GIVEN ROWS OF THIS SEAT. 8 by the template 'for every input the law returns true; each argument reads behind the call as it read before'; 0 by the template 'total and deterministic' (their statements: YtbbbfaollcklkaaTotals.lean).
  GIVEN WITH THE SEED: the statements are not yours to turn. If you find one false, say at which input.
  Laid BY PROGRAM, IN A SANDBOX (cutbox-rows.mjs): the forced cells as the released guide's own fill.sh prints them over the translation 3d07a1745754336e… (all of the seat's roots in one cut). By AI agents, Wed Nov 11 2026. No macro, syntax, notation, axiom, sorry.
-/
import Derived.Test.YtbbbfaollcklkaaChecked
import GoSem.Claim
import GoSem.ClaimJoined
import GoSem.ClaimMapViews
import Derived.JoinedTies
import Derived.KernelRfl
namespace Go.Proofs.Ytbbbfaollcklkaa
/- THE CELL 'sum', in the pinned program and in every row, IS THE sha256 OF THE DUMP (.gsa) THAT YtbbbfaollcklkaaProg.lean LOADS. Nothing in Lean hashes anything: it is a label: what it is worth is what the hold of that sum in a sandbox is worth. -/
noncomputable def Try.pinned : Pinned := { name := "ytbbbfaollcklkaa", sum := "3d07a1745754336ecc6d5e3255fd09b0c18e5d1a4f0630e791176ac2325359b4", checked := Try.checked }
namespace Rows
def none {H : Type} : Left H := { results := [], args := [] }

/-- 'laws.FnExactValidMarked': WHATEVER THE INPUT: true; the input reads as it did. -/
def fnExactValidMarkedSpec : ChangeSpec := { name := "fnExactValidMarked", fn := fun _ => fun
  | [d] => { results := [.lit (.bool true)], args := [d] }
  | _ => none }
def fnExactValidMarkedRow : OpenClaim := { program := "ytbbbfaollcklkaa", sum := "3d07a1745754336ecc6d5e3255fd09b0c18e5d1a4f0630e791176ac2325359b4", func := "loop.example/numberparts/laws.FnExactValidMarked", spec := "fnExactValidMarked", apart := false }
def FnExactValidMarkedSaid : Prop := fnExactValidMarkedRow.holds Try.pinned (OpenSpec.ofChange fnExactValidMarkedSpec)

/-- ITS FALSE NEIGHBOUR: 'it returns false'. Refute it at one input. -/
def fnExactValidMarkedWrong : ChangeSpec := { name := "fnExactValidMarked", fn := fun _ => fun
  | [d] => { results := [.lit (.bool false)], args := [d] }
  | _ => none }
def FnExactValidMarkedWrongFalsely : Prop := fnExactValidMarkedRow.holds Try.pinned (OpenSpec.ofChange fnExactValidMarkedWrong)

/-- 'laws.FnValidMarked': WHATEVER THE INPUT: true; the input reads as it did. -/
def fnValidMarkedSpec : ChangeSpec := { name := "fnValidMarked", fn := fun _ => fun
  | [d] => { results := [.lit (.bool true)], args := [d] }
  | _ => none }
def fnValidMarkedRow : OpenClaim := { program := "ytbbbfaollcklkaa", sum := "3d07a1745754336ecc6d5e3255fd09b0c18e5d1a4f0630e791176ac2325359b4", func := "loop.example/numberparts/laws.FnValidMarked", spec := "fnValidMarked", unfollowed := true, recurses := true, apart := false }
def FnValidMarkedSaid : Prop := fnValidMarkedRow.holds Try.pinned (OpenSpec.ofChange fnValidMarkedSpec)

/-- ITS FALSE NEIGHBOUR: 'it returns false'. Refute it at one input. -/
def fnValidMarkedWrong : ChangeSpec := { name := "fnValidMarked", fn := fun _ => fun
  | [d] => { results := [.lit (.bool false)], args := [d] }
  | _ => none }
def FnValidMarkedWrongFalsely : Prop := fnValidMarkedRow.holds Try.pinned (OpenSpec.ofChange fnValidMarkedWrong)

/-- 'laws.FnExactSplitMarked': WHATEVER THE INPUT: true; the input reads as it did. -/
def fnExactSplitMarkedSpec : ChangeSpec := { name := "fnExactSplitMarked", fn := fun _ => fun
  | [d] => { results := [.lit (.bool true)], args := [d] }
  | _ => none }
def fnExactSplitMarkedRow : OpenClaim := { program := "ytbbbfaollcklkaa", sum := "3d07a1745754336ecc6d5e3255fd09b0c18e5d1a4f0630e791176ac2325359b4", func := "loop.example/numberparts/laws.FnExactSplitMarked", spec := "fnExactSplitMarked", apart := false }
def FnExactSplitMarkedSaid : Prop := fnExactSplitMarkedRow.holds Try.pinned (OpenSpec.ofChange fnExactSplitMarkedSpec)

/-- ITS FALSE NEIGHBOUR: 'it returns false'. Refute it at one input. -/
def fnExactSplitMarkedWrong : ChangeSpec := { name := "fnExactSplitMarked", fn := fun _ => fun
  | [d] => { results := [.lit (.bool false)], args := [d] }
  | _ => none }
def FnExactSplitMarkedWrongFalsely : Prop := fnExactSplitMarkedRow.holds Try.pinned (OpenSpec.ofChange fnExactSplitMarkedWrong)

/-- 'laws.FnSplitMarked': WHATEVER THE INPUT: true; the input reads as it did. -/
def fnSplitMarkedSpec : ChangeSpec := { name := "fnSplitMarked", fn := fun _ => fun
  | [d] => { results := [.lit (.bool true)], args := [d] }
  | _ => none }
def fnSplitMarkedRow : OpenClaim := { program := "ytbbbfaollcklkaa", sum := "3d07a1745754336ecc6d5e3255fd09b0c18e5d1a4f0630e791176ac2325359b4", func := "loop.example/numberparts/laws.FnSplitMarked", spec := "fnSplitMarked", unfollowed := true, recurses := true, apart := false }
def FnSplitMarkedSaid : Prop := fnSplitMarkedRow.holds Try.pinned (OpenSpec.ofChange fnSplitMarkedSpec)

/-- ITS FALSE NEIGHBOUR: 'it returns false'. Refute it at one input. -/
def fnSplitMarkedWrong : ChangeSpec := { name := "fnSplitMarked", fn := fun _ => fun
  | [d] => { results := [.lit (.bool false)], args := [d] }
  | _ => none }
def FnSplitMarkedWrongFalsely : Prop := fnSplitMarkedRow.holds Try.pinned (OpenSpec.ofChange fnSplitMarkedWrong)

/-- 'laws.FnExactPutMarked': WHATEVER THE INPUT: true; the input reads as it did. -/
def fnExactPutMarkedSpec : ChangeSpec := { name := "fnExactPutMarked", fn := fun _ => fun
  | [d1, d2] => { results := [.lit (.bool true)], args := [d1, d2] }
  | _ => none }
def fnExactPutMarkedRow : OpenClaim := { program := "ytbbbfaollcklkaa", sum := "3d07a1745754336ecc6d5e3255fd09b0c18e5d1a4f0630e791176ac2325359b4", func := "loop.example/numberparts/laws.FnExactPutMarked", spec := "fnExactPutMarked", unfollowed := true, recurses := true, apart := false }
def FnExactPutMarkedSaid : Prop := fnExactPutMarkedRow.holds Try.pinned (OpenSpec.ofChange fnExactPutMarkedSpec)

/-- ITS FALSE NEIGHBOUR: 'it returns false'. Refute it at one input. -/
def fnExactPutMarkedWrong : ChangeSpec := { name := "fnExactPutMarked", fn := fun _ => fun
  | [d1, d2] => { results := [.lit (.bool false)], args := [d1, d2] }
  | _ => none }
def FnExactPutMarkedWrongFalsely : Prop := fnExactPutMarkedRow.holds Try.pinned (OpenSpec.ofChange fnExactPutMarkedWrong)

/-- 'laws.FnPutMarked': WHATEVER THE INPUT: true; the input reads as it did. -/
def fnPutMarkedSpec : ChangeSpec := { name := "fnPutMarked", fn := fun _ => fun
  | [d] => { results := [.lit (.bool true)], args := [d] }
  | _ => none }
def fnPutMarkedRow : OpenClaim := { program := "ytbbbfaollcklkaa", sum := "3d07a1745754336ecc6d5e3255fd09b0c18e5d1a4f0630e791176ac2325359b4", func := "loop.example/numberparts/laws.FnPutMarked", spec := "fnPutMarked", unfollowed := true, recurses := true, apart := false }
def FnPutMarkedSaid : Prop := fnPutMarkedRow.holds Try.pinned (OpenSpec.ofChange fnPutMarkedSpec)

/-- ITS FALSE NEIGHBOUR: 'it returns false'. Refute it at one input. -/
def fnPutMarkedWrong : ChangeSpec := { name := "fnPutMarked", fn := fun _ => fun
  | [d] => { results := [.lit (.bool false)], args := [d] }
  | _ => none }
def FnPutMarkedWrongFalsely : Prop := fnPutMarkedRow.holds Try.pinned (OpenSpec.ofChange fnPutMarkedWrong)

/-- 'laws.FnExactTurnMarked': WHATEVER THE INPUT: true; the input reads as it did. -/
def fnExactTurnMarkedSpec : ChangeSpec := { name := "fnExactTurnMarked", fn := fun _ => fun
  | [d] => { results := [.lit (.bool true)], args := [d] }
  | _ => none }
def fnExactTurnMarkedRow : OpenClaim := { program := "ytbbbfaollcklkaa", sum := "3d07a1745754336ecc6d5e3255fd09b0c18e5d1a4f0630e791176ac2325359b4", func := "loop.example/numberparts/laws.FnExactTurnMarked", spec := "fnExactTurnMarked", apart := false }
def FnExactTurnMarkedSaid : Prop := fnExactTurnMarkedRow.holds Try.pinned (OpenSpec.ofChange fnExactTurnMarkedSpec)

/-- ITS FALSE NEIGHBOUR: 'it returns false'. Refute it at one input. -/
def fnExactTurnMarkedWrong : ChangeSpec := { name := "fnExactTurnMarked", fn := fun _ => fun
  | [d] => { results := [.lit (.bool false)], args := [d] }
  | _ => none }
def FnExactTurnMarkedWrongFalsely : Prop := fnExactTurnMarkedRow.holds Try.pinned (OpenSpec.ofChange fnExactTurnMarkedWrong)

/-- 'laws.FnTurnMarked': WHATEVER THE INPUT: true; the input reads as it did. -/
def fnTurnMarkedSpec : ChangeSpec := { name := "fnTurnMarked", fn := fun _ => fun
  | [d] => { results := [.lit (.bool true)], args := [d] }
  | _ => none }
def fnTurnMarkedRow : OpenClaim := { program := "ytbbbfaollcklkaa", sum := "3d07a1745754336ecc6d5e3255fd09b0c18e5d1a4f0630e791176ac2325359b4", func := "loop.example/numberparts/laws.FnTurnMarked", spec := "fnTurnMarked", apart := false }
def FnTurnMarkedSaid : Prop := fnTurnMarkedRow.holds Try.pinned (OpenSpec.ofChange fnTurnMarkedSpec)

/-- ITS FALSE NEIGHBOUR: 'it returns false'. Refute it at one input. -/
def fnTurnMarkedWrong : ChangeSpec := { name := "fnTurnMarked", fn := fun _ => fun
  | [d] => { results := [.lit (.bool false)], args := [d] }
  | _ => none }
def FnTurnMarkedWrongFalsely : Prop := fnTurnMarkedRow.holds Try.pinned (OpenSpec.ofChange fnTurnMarkedWrong)

/- THE SECOND FORM. 'bulk': how many values and letters a reading holds, each counted each time it is reached (what is shared counts as often as it is met; a slice's spare places count too). A statement '..UptoSaid' is the law's where the arguments, and the package variables that the reading takes, are together of bulk at most 1048576: NARROWER than '..Said'. Prove '..Said' where nothing that the law and all that it calls make is longer than what came in: it says more and counts as full. Else prove '..UptoSaid'. A law counts once. -/
mutual
def uptoBulk {H : Type} : DataW H → Nat
  | .lit (.string bytes) => bytes.length + 1
  | .lit _ => 1
  | .nil => 1
  | .ptr d => uptoBulk d + 1
  | .slice elems spare => uptoBulkAll elems + uptoBulkAll spare + 1
  | .agg parts => uptoBulkAll parts + 1
  | .iface _ d => uptoBulk d + 1
  | .map entries => uptoBulkEntries entries + 1
  | .held _ => 1
def uptoBulkAll {H : Type} : List (DataW H) → Nat
  | [] => 0
  | d :: r => uptoBulk d + uptoBulkAll r
def uptoBulkEntries {H : Type} : List (Lit × DataW H) → Nat
  | [] => 0
  | x :: r => uptoBulkEntry x + uptoBulkEntries r
def uptoBulkEntry {H : Type} : Lit × DataW H → Nat
  | (.string bytes, d) => bytes.length + uptoBulk d + 1
  | (_, d) => uptoBulk d + 1
 end
def uptoSmall : (H : Type) → List (DataW H) → Bool := fun _ ds => decide (uptoBulkAll ds ≤ 1048576)
def OpenSpec.upto (s : _root_.Go.ChangeSpec) : _root_.Go.OpenSpec := { _root_.Go.OpenSpec.ofChange s with cond := some uptoSmall }

/-- 'laws.FnExactValidMarked', WHERE WHAT IT READS IS OF BULK AT MOST 1048576: true; the input reads as it did. -/
def fnExactValidMarkedUptoRow : OpenClaim := { program := "ytbbbfaollcklkaa", sum := "3d07a1745754336ecc6d5e3255fd09b0c18e5d1a4f0630e791176ac2325359b4", func := "loop.example/numberparts/laws.FnExactValidMarked", spec := "fnExactValidMarked", apart := false, narrowed := true }
def FnExactValidMarkedUptoSaid : Prop := fnExactValidMarkedUptoRow.holds Try.pinned (OpenSpec.upto fnExactValidMarkedSpec)

/-- 'laws.FnValidMarked', WHERE WHAT IT READS IS OF BULK AT MOST 1048576: true; the input reads as it did. -/
def fnValidMarkedUptoRow : OpenClaim := { program := "ytbbbfaollcklkaa", sum := "3d07a1745754336ecc6d5e3255fd09b0c18e5d1a4f0630e791176ac2325359b4", func := "loop.example/numberparts/laws.FnValidMarked", spec := "fnValidMarked", unfollowed := true, recurses := true, apart := false, narrowed := true }
def FnValidMarkedUptoSaid : Prop := fnValidMarkedUptoRow.holds Try.pinned (OpenSpec.upto fnValidMarkedSpec)

/-- 'laws.FnExactSplitMarked', WHERE WHAT IT READS IS OF BULK AT MOST 1048576: true; the input reads as it did. -/
def fnExactSplitMarkedUptoRow : OpenClaim := { program := "ytbbbfaollcklkaa", sum := "3d07a1745754336ecc6d5e3255fd09b0c18e5d1a4f0630e791176ac2325359b4", func := "loop.example/numberparts/laws.FnExactSplitMarked", spec := "fnExactSplitMarked", apart := false, narrowed := true }
def FnExactSplitMarkedUptoSaid : Prop := fnExactSplitMarkedUptoRow.holds Try.pinned (OpenSpec.upto fnExactSplitMarkedSpec)

/-- 'laws.FnSplitMarked', WHERE WHAT IT READS IS OF BULK AT MOST 1048576: true; the input reads as it did. -/
def fnSplitMarkedUptoRow : OpenClaim := { program := "ytbbbfaollcklkaa", sum := "3d07a1745754336ecc6d5e3255fd09b0c18e5d1a4f0630e791176ac2325359b4", func := "loop.example/numberparts/laws.FnSplitMarked", spec := "fnSplitMarked", unfollowed := true, recurses := true, apart := false, narrowed := true }
def FnSplitMarkedUptoSaid : Prop := fnSplitMarkedUptoRow.holds Try.pinned (OpenSpec.upto fnSplitMarkedSpec)

/-- 'laws.FnExactPutMarked', WHERE WHAT IT READS IS OF BULK AT MOST 1048576: true; the input reads as it did. -/
def fnExactPutMarkedUptoRow : OpenClaim := { program := "ytbbbfaollcklkaa", sum := "3d07a1745754336ecc6d5e3255fd09b0c18e5d1a4f0630e791176ac2325359b4", func := "loop.example/numberparts/laws.FnExactPutMarked", spec := "fnExactPutMarked", unfollowed := true, recurses := true, apart := false, narrowed := true }
def FnExactPutMarkedUptoSaid : Prop := fnExactPutMarkedUptoRow.holds Try.pinned (OpenSpec.upto fnExactPutMarkedSpec)

/-- 'laws.FnPutMarked', WHERE WHAT IT READS IS OF BULK AT MOST 1048576: true; the input reads as it did. -/
def fnPutMarkedUptoRow : OpenClaim := { program := "ytbbbfaollcklkaa", sum := "3d07a1745754336ecc6d5e3255fd09b0c18e5d1a4f0630e791176ac2325359b4", func := "loop.example/numberparts/laws.FnPutMarked", spec := "fnPutMarked", unfollowed := true, recurses := true, apart := false, narrowed := true }
def FnPutMarkedUptoSaid : Prop := fnPutMarkedUptoRow.holds Try.pinned (OpenSpec.upto fnPutMarkedSpec)

/-- 'laws.FnExactTurnMarked', WHERE WHAT IT READS IS OF BULK AT MOST 1048576: true; the input reads as it did. -/
def fnExactTurnMarkedUptoRow : OpenClaim := { program := "ytbbbfaollcklkaa", sum := "3d07a1745754336ecc6d5e3255fd09b0c18e5d1a4f0630e791176ac2325359b4", func := "loop.example/numberparts/laws.FnExactTurnMarked", spec := "fnExactTurnMarked", apart := false, narrowed := true }
def FnExactTurnMarkedUptoSaid : Prop := fnExactTurnMarkedUptoRow.holds Try.pinned (OpenSpec.upto fnExactTurnMarkedSpec)

/-- 'laws.FnTurnMarked', WHERE WHAT IT READS IS OF BULK AT MOST 1048576: true; the input reads as it did. -/
def fnTurnMarkedUptoRow : OpenClaim := { program := "ytbbbfaollcklkaa", sum := "3d07a1745754336ecc6d5e3255fd09b0c18e5d1a4f0630e791176ac2325359b4", func := "loop.example/numberparts/laws.FnTurnMarked", spec := "fnTurnMarked", apart := false, narrowed := true }
def FnTurnMarkedUptoSaid : Prop := fnTurnMarkedUptoRow.holds Try.pinned (OpenSpec.upto fnTurnMarkedSpec)

end Rows
end Go.Proofs.Ytbbbfaollcklkaa
