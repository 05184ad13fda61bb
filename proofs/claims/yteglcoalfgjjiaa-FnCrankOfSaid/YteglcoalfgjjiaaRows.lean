/-
  No cell of these rows narrows 'for every input' (looked for: loops, veiled, ifaces, maps, wideKeys, modest, calm, conditions, laid).
  DERIVED. THE GIVEN ROWS OF THIS SEAT. 8 by the template 'for every input the law returns true; each argument reads behind the call as it read before'; 0 by the template 'total and deterministic' (their statements: YteglcoalfgjjiaaTotals.lean).
  GIVEN WITH THE SEED: the statements are not yours to turn. If you find one false, say at which input.
  Laid BY PROGRAM, IN A SANDBOX (cutbox-rows.mjs): the forced cells as the released guide's own fill.sh prints them over the translation 2e40a9d81c65e1f6… (all of the seat's roots in one cut). By AI agents, Wed Nov 11 2026. No macro, syntax, notation, axiom, sorry.
-/
import Derived.Test.YteglcoalfgjjiaaChecked
import GoSem.Claim
import GoSem.ClaimJoined
import GoSem.ClaimMapViews
import Derived.JoinedTies
import Derived.KernelRfl
namespace Go.Proofs.Yteglcoalfgjjiaa
/- THE CELL 'sum', in the pinned program and in every row, IS THE sha256 OF THE DUMP (.gsa) THAT YteglcoalfgjjiaaProg.lean LOADS. Nothing in Lean hashes anything: it is a label: what it is worth is what the hold of that sum in a sandbox is worth. -/
noncomputable def Try.pinned : Pinned := { name := "yteglcoalfgjjiaa", sum := "2e40a9d81c65e1f65e0253ebef914729a0043b6631002cff15ba7e25cd7a9bfb", checked := Try.checked }
namespace Rows
def none {H : Type} : Left H := { results := [], args := [] }

/-- 'laws.FnExactPlaceOf': WHATEVER THE INPUT: true; the input reads as it did. -/
def fnExactPlaceOfSpec : ChangeSpec := { name := "fnExactPlaceOf", fn := fun _ => fun
  | [d] => { results := [.lit (.bool true)], args := [d] }
  | _ => none }
def fnExactPlaceOfRow : OpenClaim := { program := "yteglcoalfgjjiaa", sum := "2e40a9d81c65e1f65e0253ebef914729a0043b6631002cff15ba7e25cd7a9bfb", func := "loop.example/numberparts/laws.FnExactPlaceOf", spec := "fnExactPlaceOf", unfollowed := true, recurses := true, apart := false }
def FnExactPlaceOfSaid : Prop := fnExactPlaceOfRow.holds Try.pinned (OpenSpec.ofChange fnExactPlaceOfSpec)

/-- ITS FALSE NEIGHBOUR: 'it returns false'. Refute it at one input. -/
def fnExactPlaceOfWrong : ChangeSpec := { name := "fnExactPlaceOf", fn := fun _ => fun
  | [d] => { results := [.lit (.bool false)], args := [d] }
  | _ => none }
def FnExactPlaceOfWrongFalsely : Prop := fnExactPlaceOfRow.holds Try.pinned (OpenSpec.ofChange fnExactPlaceOfWrong)

/-- 'laws.FnPlaceOf': WHATEVER THE INPUT: true; the input reads as it did. -/
def fnPlaceOfSpec : ChangeSpec := { name := "fnPlaceOf", fn := fun _ => fun
  | [d] => { results := [.lit (.bool true)], args := [d] }
  | _ => none }
def fnPlaceOfRow : OpenClaim := { program := "yteglcoalfgjjiaa", sum := "2e40a9d81c65e1f65e0253ebef914729a0043b6631002cff15ba7e25cd7a9bfb", func := "loop.example/numberparts/laws.FnPlaceOf", spec := "fnPlaceOf", unfollowed := true, recurses := true, apart := false }
def FnPlaceOfSaid : Prop := fnPlaceOfRow.holds Try.pinned (OpenSpec.ofChange fnPlaceOfSpec)

/-- ITS FALSE NEIGHBOUR: 'it returns false'. Refute it at one input. -/
def fnPlaceOfWrong : ChangeSpec := { name := "fnPlaceOf", fn := fun _ => fun
  | [d] => { results := [.lit (.bool false)], args := [d] }
  | _ => none }
def FnPlaceOfWrongFalsely : Prop := fnPlaceOfRow.holds Try.pinned (OpenSpec.ofChange fnPlaceOfWrong)

/-- 'laws.FnExactPartsAt': WHATEVER THE INPUT: true; the input reads as it did. -/
def fnExactPartsAtSpec : ChangeSpec := { name := "fnExactPartsAt", fn := fun _ => fun
  | [d1, d2] => { results := [.lit (.bool true)], args := [d1, d2] }
  | _ => none }
def fnExactPartsAtRow : OpenClaim := { program := "yteglcoalfgjjiaa", sum := "2e40a9d81c65e1f65e0253ebef914729a0043b6631002cff15ba7e25cd7a9bfb", func := "loop.example/numberparts/laws.FnExactPartsAt", spec := "fnExactPartsAt", unfollowed := true, recurses := true, apart := false }
def FnExactPartsAtSaid : Prop := fnExactPartsAtRow.holds Try.pinned (OpenSpec.ofChange fnExactPartsAtSpec)

/-- ITS FALSE NEIGHBOUR: 'it returns false'. Refute it at one input. -/
def fnExactPartsAtWrong : ChangeSpec := { name := "fnExactPartsAt", fn := fun _ => fun
  | [d1, d2] => { results := [.lit (.bool false)], args := [d1, d2] }
  | _ => none }
def FnExactPartsAtWrongFalsely : Prop := fnExactPartsAtRow.holds Try.pinned (OpenSpec.ofChange fnExactPartsAtWrong)

/-- 'laws.FnPartsAt': WHATEVER THE INPUT: true; the input reads as it did. -/
def fnPartsAtSpec : ChangeSpec := { name := "fnPartsAt", fn := fun _ => fun
  | [d] => { results := [.lit (.bool true)], args := [d] }
  | _ => none }
def fnPartsAtRow : OpenClaim := { program := "yteglcoalfgjjiaa", sum := "2e40a9d81c65e1f65e0253ebef914729a0043b6631002cff15ba7e25cd7a9bfb", func := "loop.example/numberparts/laws.FnPartsAt", spec := "fnPartsAt", unfollowed := true, recurses := true, apart := false }
def FnPartsAtSaid : Prop := fnPartsAtRow.holds Try.pinned (OpenSpec.ofChange fnPartsAtSpec)

/-- ITS FALSE NEIGHBOUR: 'it returns false'. Refute it at one input. -/
def fnPartsAtWrong : ChangeSpec := { name := "fnPartsAt", fn := fun _ => fun
  | [d] => { results := [.lit (.bool false)], args := [d] }
  | _ => none }
def FnPartsAtWrongFalsely : Prop := fnPartsAtRow.holds Try.pinned (OpenSpec.ofChange fnPartsAtWrong)

/-- 'laws.FnAllParts': WHATEVER THE INPUT: true; the input reads as it did. -/
def fnAllPartsSpec : ChangeSpec := { name := "fnAllParts", fn := fun _ => fun
  | [d] => { results := [.lit (.bool true)], args := [d] }
  | _ => none }
def fnAllPartsRow : OpenClaim := { program := "yteglcoalfgjjiaa", sum := "2e40a9d81c65e1f65e0253ebef914729a0043b6631002cff15ba7e25cd7a9bfb", func := "loop.example/numberparts/laws.FnAllParts", spec := "fnAllParts", unfollowed := true, recurses := true, apart := false }
def FnAllPartsSaid : Prop := fnAllPartsRow.holds Try.pinned (OpenSpec.ofChange fnAllPartsSpec)

/-- ITS FALSE NEIGHBOUR: 'it returns false'. Refute it at one input. -/
def fnAllPartsWrong : ChangeSpec := { name := "fnAllParts", fn := fun _ => fun
  | [d] => { results := [.lit (.bool false)], args := [d] }
  | _ => none }
def FnAllPartsWrongFalsely : Prop := fnAllPartsRow.holds Try.pinned (OpenSpec.ofChange fnAllPartsWrong)

/-- 'laws.FnCountIn': WHATEVER THE INPUT: true; the input reads as it did. -/
def fnCountInSpec : ChangeSpec := { name := "fnCountIn", fn := fun _ => fun
  | [d] => { results := [.lit (.bool true)], args := [d] }
  | _ => none }
def fnCountInRow : OpenClaim := { program := "yteglcoalfgjjiaa", sum := "2e40a9d81c65e1f65e0253ebef914729a0043b6631002cff15ba7e25cd7a9bfb", func := "loop.example/numberparts/laws.FnCountIn", spec := "fnCountIn", unfollowed := true, recurses := true, apart := false }
def FnCountInSaid : Prop := fnCountInRow.holds Try.pinned (OpenSpec.ofChange fnCountInSpec)

/-- ITS FALSE NEIGHBOUR: 'it returns false'. Refute it at one input. -/
def fnCountInWrong : ChangeSpec := { name := "fnCountIn", fn := fun _ => fun
  | [d] => { results := [.lit (.bool false)], args := [d] }
  | _ => none }
def FnCountInWrongFalsely : Prop := fnCountInRow.holds Try.pinned (OpenSpec.ofChange fnCountInWrong)

/-- 'laws.FnExactCrankOf': WHATEVER THE INPUT: true; the input reads as it did. -/
def fnExactCrankOfSpec : ChangeSpec := { name := "fnExactCrankOf", fn := fun _ => fun
  | [d] => { results := [.lit (.bool true)], args := [d] }
  | _ => none }
def fnExactCrankOfRow : OpenClaim := { program := "yteglcoalfgjjiaa", sum := "2e40a9d81c65e1f65e0253ebef914729a0043b6631002cff15ba7e25cd7a9bfb", func := "loop.example/numberparts/laws.FnExactCrankOf", spec := "fnExactCrankOf", apart := false }
def FnExactCrankOfSaid : Prop := fnExactCrankOfRow.holds Try.pinned (OpenSpec.ofChange fnExactCrankOfSpec)

/-- ITS FALSE NEIGHBOUR: 'it returns false'. Refute it at one input. -/
def fnExactCrankOfWrong : ChangeSpec := { name := "fnExactCrankOf", fn := fun _ => fun
  | [d] => { results := [.lit (.bool false)], args := [d] }
  | _ => none }
def FnExactCrankOfWrongFalsely : Prop := fnExactCrankOfRow.holds Try.pinned (OpenSpec.ofChange fnExactCrankOfWrong)

/-- 'laws.FnCrankOf': WHATEVER THE INPUT: true; the input reads as it did. -/
def fnCrankOfSpec : ChangeSpec := { name := "fnCrankOf", fn := fun _ => fun
  | [d] => { results := [.lit (.bool true)], args := [d] }
  | _ => none }
def fnCrankOfRow : OpenClaim := { program := "yteglcoalfgjjiaa", sum := "2e40a9d81c65e1f65e0253ebef914729a0043b6631002cff15ba7e25cd7a9bfb", func := "loop.example/numberparts/laws.FnCrankOf", spec := "fnCrankOf", apart := false }
def FnCrankOfSaid : Prop := fnCrankOfRow.holds Try.pinned (OpenSpec.ofChange fnCrankOfSpec)

/-- ITS FALSE NEIGHBOUR: 'it returns false'. Refute it at one input. -/
def fnCrankOfWrong : ChangeSpec := { name := "fnCrankOf", fn := fun _ => fun
  | [d] => { results := [.lit (.bool false)], args := [d] }
  | _ => none }
def FnCrankOfWrongFalsely : Prop := fnCrankOfRow.holds Try.pinned (OpenSpec.ofChange fnCrankOfWrong)

/- THE SECOND FORM. 'bulk': how many values and letters a reading holds, each counted each time it is reached (what is shared counts as often as it is met; a slice's spare places count too). A statement '..UptoSaid' is the law's where the arguments, and the package variables that the reading takes, are together of bulk at most 1048576: NARROWER than '..Said'. Prove '..Said' where nothing that the law and all that it calls make is longer than what came in: it says more and counts as full. Else prove '..UptoSaid'. A law counts once. -/
mutual
def uptoBulk {H : Type} : DataW H → Nat
  | .lit (.string bytes) => bytes.length + 1
  | .lit _ => 1
  | .nil => 1
  | .ptr d => uptoBulk d + 1
  | .slice elems spare => uptoBulkAll elems + uptoBulkAll spare + 1
  | .agg parts => uptoBulkAll parts + 1
  | .iface _ d => uptoBulk d + 1
  | .map entries => uptoBulkEntries entries + 1
  | .held _ => 1
def uptoBulkAll {H : Type} : List (DataW H) → Nat
  | [] => 0
  | d :: r => uptoBulk d + uptoBulkAll r
def uptoBulkEntries {H : Type} : List (Lit × DataW H) → Nat
  | [] => 0
  | x :: r => uptoBulkEntry x + uptoBulkEntries r
def uptoBulkEntry {H : Type} : Lit × DataW H → Nat
  | (.string bytes, d) => bytes.length + uptoBulk d + 1
  | (_, d) => uptoBulk d + 1
 end
def uptoSmall : (H : Type) → List (DataW H) → Bool := fun _ ds => decide (uptoBulkAll ds ≤ 1048576)
def OpenSpec.upto (s : _root_.Go.ChangeSpec) : _root_.Go.OpenSpec := { _root_.Go.OpenSpec.ofChange s with cond := some uptoSmall }

/-- 'laws.FnExactPlaceOf', WHERE WHAT IT READS IS OF BULK AT MOST 1048576: true; the input reads as it did. -/
def fnExactPlaceOfUptoRow : OpenClaim := { program := "yteglcoalfgjjiaa", sum := "2e40a9d81c65e1f65e0253ebef914729a0043b6631002cff15ba7e25cd7a9bfb", func := "loop.example/numberparts/laws.FnExactPlaceOf", spec := "fnExactPlaceOf", unfollowed := true, recurses := true, apart := false, narrowed := true }
def FnExactPlaceOfUptoSaid : Prop := fnExactPlaceOfUptoRow.holds Try.pinned (OpenSpec.upto fnExactPlaceOfSpec)

/-- 'laws.FnPlaceOf', WHERE WHAT IT READS IS OF BULK AT MOST 1048576: true; the input reads as it did. -/
def fnPlaceOfUptoRow : OpenClaim := { program := "yteglcoalfgjjiaa", sum := "2e40a9d81c65e1f65e0253ebef914729a0043b6631002cff15ba7e25cd7a9bfb", func := "loop.example/numberparts/laws.FnPlaceOf", spec := "fnPlaceOf", unfollowed := true, recurses := true, apart := false, narrowed := true }
def FnPlaceOfUptoSaid : Prop := fnPlaceOfUptoRow.holds Try.pinned (OpenSpec.upto fnPlaceOfSpec)

/-- 'laws.FnExactPartsAt', WHERE WHAT IT READS IS OF BULK AT MOST 1048576: true; the input reads as it did. -/
def fnExactPartsAtUptoRow : OpenClaim := { program := "yteglcoalfgjjiaa", sum := "2e40a9d81c65e1f65e0253ebef914729a0043b6631002cff15ba7e25cd7a9bfb", func := "loop.example/numberparts/laws.FnExactPartsAt", spec := "fnExactPartsAt", unfollowed := true, recurses := true, apart := false, narrowed := true }
def FnExactPartsAtUptoSaid : Prop := fnExactPartsAtUptoRow.holds Try.pinned (OpenSpec.upto fnExactPartsAtSpec)

/-- 'laws.FnPartsAt', WHERE WHAT IT READS IS OF BULK AT MOST 1048576: true; the input reads as it did. -/
def fnPartsAtUptoRow : OpenClaim := { program := "yteglcoalfgjjiaa", sum := "2e40a9d81c65e1f65e0253ebef914729a0043b6631002cff15ba7e25cd7a9bfb", func := "loop.example/numberparts/laws.FnPartsAt", spec := "fnPartsAt", unfollowed := true, recurses := true, apart := false, narrowed := true }
def FnPartsAtUptoSaid : Prop := fnPartsAtUptoRow.holds Try.pinned (OpenSpec.upto fnPartsAtSpec)

/-- 'laws.FnAllParts', WHERE WHAT IT READS IS OF BULK AT MOST 1048576: true; the input reads as it did. -/
def fnAllPartsUptoRow : OpenClaim := { program := "yteglcoalfgjjiaa", sum := "2e40a9d81c65e1f65e0253ebef914729a0043b6631002cff15ba7e25cd7a9bfb", func := "loop.example/numberparts/laws.FnAllParts", spec := "fnAllParts", unfollowed := true, recurses := true, apart := false, narrowed := true }
def FnAllPartsUptoSaid : Prop := fnAllPartsUptoRow.holds Try.pinned (OpenSpec.upto fnAllPartsSpec)

/-- 'laws.FnCountIn', WHERE WHAT IT READS IS OF BULK AT MOST 1048576: true; the input reads as it did. -/
def fnCountInUptoRow : OpenClaim := { program := "yteglcoalfgjjiaa", sum := "2e40a9d81c65e1f65e0253ebef914729a0043b6631002cff15ba7e25cd7a9bfb", func := "loop.example/numberparts/laws.FnCountIn", spec := "fnCountIn", unfollowed := true, recurses := true, apart := false, narrowed := true }
def FnCountInUptoSaid : Prop := fnCountInUptoRow.holds Try.pinned (OpenSpec.upto fnCountInSpec)

/-- 'laws.FnExactCrankOf', WHERE WHAT IT READS IS OF BULK AT MOST 1048576: true; the input reads as it did. -/
def fnExactCrankOfUptoRow : OpenClaim := { program := "yteglcoalfgjjiaa", sum := "2e40a9d81c65e1f65e0253ebef914729a0043b6631002cff15ba7e25cd7a9bfb", func := "loop.example/numberparts/laws.FnExactCrankOf", spec := "fnExactCrankOf", apart := false, narrowed := true }
def FnExactCrankOfUptoSaid : Prop := fnExactCrankOfUptoRow.holds Try.pinned (OpenSpec.upto fnExactCrankOfSpec)

/-- 'laws.FnCrankOf', WHERE WHAT IT READS IS OF BULK AT MOST 1048576: true; the input reads as it did. -/
def fnCrankOfUptoRow : OpenClaim := { program := "yteglcoalfgjjiaa", sum := "2e40a9d81c65e1f65e0253ebef914729a0043b6631002cff15ba7e25cd7a9bfb", func := "loop.example/numberparts/laws.FnCrankOf", spec := "fnCrankOf", apart := false, narrowed := true }
def FnCrankOfUptoSaid : Prop := fnCrankOfUptoRow.holds Try.pinned (OpenSpec.upto fnCrankOfSpec)

end Rows
end Go.Proofs.Yteglcoalfgjjiaa
