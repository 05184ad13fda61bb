/-
  No cell of these rows narrows 'for every input' (looked for: loops, veiled, ifaces, maps, wideKeys, modest, calm, conditions, laid).
  DERIVED. THE GIVEN ROWS OF THIS SEAT. 14 by the template 'for every input the law returns true; each argument reads behind the call as it read before'; 0 by the template 'total and deterministic' (their statements: YtlgglbgdopmkpaaTotals.lean).
  GIVEN WITH THE SEED: the statements are not yours to turn. If you find one false, say at which input.
  Laid BY PROGRAM, IN A SANDBOX (cutbox-rows.mjs): the forced cells as the released guide's own fill.sh prints them over the translation f6f1360904b6a6bf… (all of the seat's roots in one cut). By AI agents, Wed Nov 11 2026. No macro, syntax, notation, axiom, sorry.
-/
import Derived.Test.YtlgglbgdopmkpaaChecked
import GoSem.Claim
import GoSem.ClaimJoined
import GoSem.ClaimMapViews
import Derived.JoinedTies
import Derived.KernelRfl
namespace Go.Proofs.Ytlgglbgdopmkpaa
/- THE CELL 'sum', in the pinned program and in every row, IS THE sha256 OF THE DUMP (.gsa) THAT YtlgglbgdopmkpaaProg.lean LOADS. Nothing in Lean hashes anything: it is a label: what it is worth is what the hold of that sum in a sandbox is worth. -/
noncomputable def Try.pinned : Pinned := { name := "ytlgglbgdopmkpaa", sum := "f6f1360904b6a6bf30bc8da40b642535bfa46a5aa8efb37159aa355a1e04e062", checked := Try.checked }
namespace Rows
def none {H : Type} : Left H := { results := [], args := [] }

/-- 'laws.FnExactRankOf': WHATEVER THE INPUT: true; the input reads as it did. -/
def fnExactRankOfSpec : ChangeSpec := { name := "fnExactRankOf", fn := fun _ => fun
  | [d] => { results := [.lit (.bool true)], args := [d] }
  | _ => none }
def fnExactRankOfRow : OpenClaim := { program := "ytlgglbgdopmkpaa", sum := "f6f1360904b6a6bf30bc8da40b642535bfa46a5aa8efb37159aa355a1e04e062", func := "loop.example/numberparts/laws.FnExactRankOf", spec := "fnExactRankOf", apart := false }
def FnExactRankOfSaid : Prop := fnExactRankOfRow.holds Try.pinned (OpenSpec.ofChange fnExactRankOfSpec)

/-- ITS FALSE NEIGHBOUR: 'it returns false'. Refute it at one input. -/
def fnExactRankOfWrong : ChangeSpec := { name := "fnExactRankOf", fn := fun _ => fun
  | [d] => { results := [.lit (.bool false)], args := [d] }
  | _ => none }
def FnExactRankOfWrongFalsely : Prop := fnExactRankOfRow.holds Try.pinned (OpenSpec.ofChange fnExactRankOfWrong)

/-- 'laws.FnRankOf': WHATEVER THE INPUT: true; the input reads as it did. -/
def fnRankOfSpec : ChangeSpec := { name := "fnRankOf", fn := fun _ => fun
  | [d] => { results := [.lit (.bool true)], args := [d] }
  | _ => none }
def fnRankOfRow : OpenClaim := { program := "ytlgglbgdopmkpaa", sum := "f6f1360904b6a6bf30bc8da40b642535bfa46a5aa8efb37159aa355a1e04e062", func := "loop.example/numberparts/laws.FnRankOf", spec := "fnRankOf", apart := false }
def FnRankOfSaid : Prop := fnRankOfRow.holds Try.pinned (OpenSpec.ofChange fnRankOfSpec)

/-- ITS FALSE NEIGHBOUR: 'it returns false'. Refute it at one input. -/
def fnRankOfWrong : ChangeSpec := { name := "fnRankOf", fn := fun _ => fun
  | [d] => { results := [.lit (.bool false)], args := [d] }
  | _ => none }
def FnRankOfWrongFalsely : Prop := fnRankOfRow.holds Try.pinned (OpenSpec.ofChange fnRankOfWrong)

/-- 'laws.FnExactCrankOf': WHATEVER THE INPUT: true; the input reads as it did. -/
def fnExactCrankOfSpec : ChangeSpec := { name := "fnExactCrankOf", fn := fun _ => fun
  | [d] => { results := [.lit (.bool true)], args := [d] }
  | _ => none }
def fnExactCrankOfRow : OpenClaim := { program := "ytlgglbgdopmkpaa", sum := "f6f1360904b6a6bf30bc8da40b642535bfa46a5aa8efb37159aa355a1e04e062", func := "loop.example/numberparts/laws.FnExactCrankOf", spec := "fnExactCrankOf", apart := false }
def FnExactCrankOfSaid : Prop := fnExactCrankOfRow.holds Try.pinned (OpenSpec.ofChange fnExactCrankOfSpec)

/-- ITS FALSE NEIGHBOUR: 'it returns false'. Refute it at one input. -/
def fnExactCrankOfWrong : ChangeSpec := { name := "fnExactCrankOf", fn := fun _ => fun
  | [d] => { results := [.lit (.bool false)], args := [d] }
  | _ => none }
def FnExactCrankOfWrongFalsely : Prop := fnExactCrankOfRow.holds Try.pinned (OpenSpec.ofChange fnExactCrankOfWrong)

/-- 'laws.FnCrankOf': WHATEVER THE INPUT: true; the input reads as it did. -/
def fnCrankOfSpec : ChangeSpec := { name := "fnCrankOf", fn := fun _ => fun
  | [d] => { results := [.lit (.bool true)], args := [d] }
  | _ => none }
def fnCrankOfRow : OpenClaim := { program := "ytlgglbgdopmkpaa", sum := "f6f1360904b6a6bf30bc8da40b642535bfa46a5aa8efb37159aa355a1e04e062", func := "loop.example/numberparts/laws.FnCrankOf", spec := "fnCrankOf", apart := false }
def FnCrankOfSaid : Prop := fnCrankOfRow.holds Try.pinned (OpenSpec.ofChange fnCrankOfSpec)

/-- ITS FALSE NEIGHBOUR: 'it returns false'. Refute it at one input. -/
def fnCrankOfWrong : ChangeSpec := { name := "fnCrankOf", fn := fun _ => fun
  | [d] => { results := [.lit (.bool false)], args := [d] }
  | _ => none }
def FnCrankOfWrongFalsely : Prop := fnCrankOfRow.holds Try.pinned (OpenSpec.ofChange fnCrankOfWrong)

/-- 'laws.FnExactHasInside': WHATEVER THE INPUT: true; the input reads as it did. -/
def fnExactHasInsideSpec : ChangeSpec := { name := "fnExactHasInside", fn := fun _ => fun
  | [d1, d2] => { results := [.lit (.bool true)], args := [d1, d2] }
  | _ => none }
def fnExactHasInsideRow : OpenClaim := { program := "ytlgglbgdopmkpaa", sum := "f6f1360904b6a6bf30bc8da40b642535bfa46a5aa8efb37159aa355a1e04e062", func := "loop.example/numberparts/laws.FnExactHasInside", spec := "fnExactHasInside", apart := false }
def FnExactHasInsideSaid : Prop := fnExactHasInsideRow.holds Try.pinned (OpenSpec.ofChange fnExactHasInsideSpec)

/-- ITS FALSE NEIGHBOUR: 'it returns false'. Refute it at one input. -/
def fnExactHasInsideWrong : ChangeSpec := { name := "fnExactHasInside", fn := fun _ => fun
  | [d1, d2] => { results := [.lit (.bool false)], args := [d1, d2] }
  | _ => none }
def FnExactHasInsideWrongFalsely : Prop := fnExactHasInsideRow.holds Try.pinned (OpenSpec.ofChange fnExactHasInsideWrong)

/-- 'laws.FnHasInside': WHATEVER THE INPUT: true; the input reads as it did. -/
def fnHasInsideSpec : ChangeSpec := { name := "fnHasInside", fn := fun _ => fun
  | [d] => { results := [.lit (.bool true)], args := [d] }
  | _ => none }
def fnHasInsideRow : OpenClaim := { program := "ytlgglbgdopmkpaa", sum := "f6f1360904b6a6bf30bc8da40b642535bfa46a5aa8efb37159aa355a1e04e062", func := "loop.example/numberparts/laws.FnHasInside", spec := "fnHasInside", apart := false }
def FnHasInsideSaid : Prop := fnHasInsideRow.holds Try.pinned (OpenSpec.ofChange fnHasInsideSpec)

/-- ITS FALSE NEIGHBOUR: 'it returns false'. Refute it at one input. -/
def fnHasInsideWrong : ChangeSpec := { name := "fnHasInside", fn := fun _ => fun
  | [d] => { results := [.lit (.bool false)], args := [d] }
  | _ => none }
def FnHasInsideWrongFalsely : Prop := fnHasInsideRow.holds Try.pinned (OpenSpec.ofChange fnHasInsideWrong)

/-- 'laws.FnExactCutInside': WHATEVER THE INPUT: true; the input reads as it did. -/
def fnExactCutInsideSpec : ChangeSpec := { name := "fnExactCutInside", fn := fun _ => fun
  | [d1, d2] => { results := [.lit (.bool true)], args := [d1, d2] }
  | _ => none }
def fnExactCutInsideRow : OpenClaim := { program := "ytlgglbgdopmkpaa", sum := "f6f1360904b6a6bf30bc8da40b642535bfa46a5aa8efb37159aa355a1e04e062", func := "loop.example/numberparts/laws.FnExactCutInside", spec := "fnExactCutInside", apart := false }
def FnExactCutInsideSaid : Prop := fnExactCutInsideRow.holds Try.pinned (OpenSpec.ofChange fnExactCutInsideSpec)

/-- ITS FALSE NEIGHBOUR: 'it returns false'. Refute it at one input. -/
def fnExactCutInsideWrong : ChangeSpec := { name := "fnExactCutInside", fn := fun _ => fun
  | [d1, d2] => { results := [.lit (.bool false)], args := [d1, d2] }
  | _ => none }
def FnExactCutInsideWrongFalsely : Prop := fnExactCutInsideRow.holds Try.pinned (OpenSpec.ofChange fnExactCutInsideWrong)

/-- 'laws.FnCutInside': WHATEVER THE INPUT: true; the input reads as it did. -/
def fnCutInsideSpec : ChangeSpec := { name := "fnCutInside", fn := fun _ => fun
  | [d] => { results := [.lit (.bool true)], args := [d] }
  | _ => none }
def fnCutInsideRow : OpenClaim := { program := "ytlgglbgdopmkpaa", sum := "f6f1360904b6a6bf30bc8da40b642535bfa46a5aa8efb37159aa355a1e04e062", func := "loop.example/numberparts/laws.FnCutInside", spec := "fnCutInside", apart := false }
def FnCutInsideSaid : Prop := fnCutInsideRow.holds Try.pinned (OpenSpec.ofChange fnCutInsideSpec)

/-- ITS FALSE NEIGHBOUR: 'it returns false'. Refute it at one input. -/
def fnCutInsideWrong : ChangeSpec := { name := "fnCutInside", fn := fun _ => fun
  | [d] => { results := [.lit (.bool false)], args := [d] }
  | _ => none }
def FnCutInsideWrongFalsely : Prop := fnCutInsideRow.holds Try.pinned (OpenSpec.ofChange fnCutInsideWrong)

/-- 'laws.FnExactDominates': WHATEVER THE INPUT: true; the input reads as it did. -/
def fnExactDominatesSpec : ChangeSpec := { name := "fnExactDominates", fn := fun _ => fun
  | [d1, d2] => { results := [.lit (.bool true)], args := [d1, d2] }
  | _ => none }
def fnExactDominatesRow : OpenClaim := { program := "ytlgglbgdopmkpaa", sum := "f6f1360904b6a6bf30bc8da40b642535bfa46a5aa8efb37159aa355a1e04e062", func := "loop.example/numberparts/laws.FnExactDominates", spec := "fnExactDominates", apart := false }
def FnExactDominatesSaid : Prop := fnExactDominatesRow.holds Try.pinned (OpenSpec.ofChange fnExactDominatesSpec)

/-- ITS FALSE NEIGHBOUR: 'it returns false'. Refute it at one input. -/
def fnExactDominatesWrong : ChangeSpec := { name := "fnExactDominates", fn := fun _ => fun
  | [d1, d2] => { results := [.lit (.bool false)], args := [d1, d2] }
  | _ => none }
def FnExactDominatesWrongFalsely : Prop := fnExactDominatesRow.holds Try.pinned (OpenSpec.ofChange fnExactDominatesWrong)

/-- 'laws.FnDominates': WHATEVER THE INPUT: true; the input reads as it did. -/
def fnDominatesSpec : ChangeSpec := { name := "fnDominates", fn := fun _ => fun
  | [d] => { results := [.lit (.bool true)], args := [d] }
  | _ => none }
def fnDominatesRow : OpenClaim := { program := "ytlgglbgdopmkpaa", sum := "f6f1360904b6a6bf30bc8da40b642535bfa46a5aa8efb37159aa355a1e04e062", func := "loop.example/numberparts/laws.FnDominates", spec := "fnDominates", apart := false }
def FnDominatesSaid : Prop := fnDominatesRow.holds Try.pinned (OpenSpec.ofChange fnDominatesSpec)

/-- ITS FALSE NEIGHBOUR: 'it returns false'. Refute it at one input. -/
def fnDominatesWrong : ChangeSpec := { name := "fnDominates", fn := fun _ => fun
  | [d] => { results := [.lit (.bool false)], args := [d] }
  | _ => none }
def FnDominatesWrongFalsely : Prop := fnDominatesRow.holds Try.pinned (OpenSpec.ofChange fnDominatesWrong)

/-- 'laws.FnExactMeetParts': WHATEVER THE INPUT: true; the input reads as it did. -/
def fnExactMeetPartsSpec : ChangeSpec := { name := "fnExactMeetParts", fn := fun _ => fun
  | [d1, d2] => { results := [.lit (.bool true)], args := [d1, d2] }
  | _ => none }
def fnExactMeetPartsRow : OpenClaim := { program := "ytlgglbgdopmkpaa", sum := "f6f1360904b6a6bf30bc8da40b642535bfa46a5aa8efb37159aa355a1e04e062", func := "loop.example/numberparts/laws.FnExactMeetParts", spec := "fnExactMeetParts", apart := false }
def FnExactMeetPartsSaid : Prop := fnExactMeetPartsRow.holds Try.pinned (OpenSpec.ofChange fnExactMeetPartsSpec)

/-- ITS FALSE NEIGHBOUR: 'it returns false'. Refute it at one input. -/
def fnExactMeetPartsWrong : ChangeSpec := { name := "fnExactMeetParts", fn := fun _ => fun
  | [d1, d2] => { results := [.lit (.bool false)], args := [d1, d2] }
  | _ => none }
def FnExactMeetPartsWrongFalsely : Prop := fnExactMeetPartsRow.holds Try.pinned (OpenSpec.ofChange fnExactMeetPartsWrong)

/-- 'laws.FnMeetParts': WHATEVER THE INPUT: true; the input reads as it did. -/
def fnMeetPartsSpec : ChangeSpec := { name := "fnMeetParts", fn := fun _ => fun
  | [d] => { results := [.lit (.bool true)], args := [d] }
  | _ => none }
def fnMeetPartsRow : OpenClaim := { program := "ytlgglbgdopmkpaa", sum := "f6f1360904b6a6bf30bc8da40b642535bfa46a5aa8efb37159aa355a1e04e062", func := "loop.example/numberparts/laws.FnMeetParts", spec := "fnMeetParts", unfollowed := true, recurses := true, apart := false }
def FnMeetPartsSaid : Prop := fnMeetPartsRow.holds Try.pinned (OpenSpec.ofChange fnMeetPartsSpec)

/-- ITS FALSE NEIGHBOUR: 'it returns false'. Refute it at one input. -/
def fnMeetPartsWrong : ChangeSpec := { name := "fnMeetParts", fn := fun _ => fun
  | [d] => { results := [.lit (.bool false)], args := [d] }
  | _ => none }
def FnMeetPartsWrongFalsely : Prop := fnMeetPartsRow.holds Try.pinned (OpenSpec.ofChange fnMeetPartsWrong)

/-- 'laws.FnExactJoinParts': WHATEVER THE INPUT: true; the input reads as it did. -/
def fnExactJoinPartsSpec : ChangeSpec := { name := "fnExactJoinParts", fn := fun _ => fun
  | [d1, d2] => { results := [.lit (.bool true)], args := [d1, d2] }
  | _ => none }
def fnExactJoinPartsRow : OpenClaim := { program := "ytlgglbgdopmkpaa", sum := "f6f1360904b6a6bf30bc8da40b642535bfa46a5aa8efb37159aa355a1e04e062", func := "loop.example/numberparts/laws.FnExactJoinParts", spec := "fnExactJoinParts", apart := false }
def FnExactJoinPartsSaid : Prop := fnExactJoinPartsRow.holds Try.pinned (OpenSpec.ofChange fnExactJoinPartsSpec)

/-- ITS FALSE NEIGHBOUR: 'it returns false'. Refute it at one input. -/
def fnExactJoinPartsWrong : ChangeSpec := { name := "fnExactJoinParts", fn := fun _ => fun
  | [d1, d2] => { results := [.lit (.bool false)], args := [d1, d2] }
  | _ => none }
def FnExactJoinPartsWrongFalsely : Prop := fnExactJoinPartsRow.holds Try.pinned (OpenSpec.ofChange fnExactJoinPartsWrong)

/-- 'laws.FnJoinParts': WHATEVER THE INPUT: true; the input reads as it did. -/
def fnJoinPartsSpec : ChangeSpec := { name := "fnJoinParts", fn := fun _ => fun
  | [d] => { results := [.lit (.bool true)], args := [d] }
  | _ => none }
def fnJoinPartsRow : OpenClaim := { program := "ytlgglbgdopmkpaa", sum := "f6f1360904b6a6bf30bc8da40b642535bfa46a5aa8efb37159aa355a1e04e062", func := "loop.example/numberparts/laws.FnJoinParts", spec := "fnJoinParts", apart := false }
def FnJoinPartsSaid : Prop := fnJoinPartsRow.holds Try.pinned (OpenSpec.ofChange fnJoinPartsSpec)

/-- ITS FALSE NEIGHBOUR: 'it returns false'. Refute it at one input. -/
def fnJoinPartsWrong : ChangeSpec := { name := "fnJoinParts", fn := fun _ => fun
  | [d] => { results := [.lit (.bool false)], args := [d] }
  | _ => none }
def FnJoinPartsWrongFalsely : Prop := fnJoinPartsRow.holds Try.pinned (OpenSpec.ofChange fnJoinPartsWrong)

/- THE SECOND FORM. 'bulk': how many values and letters a reading holds, each counted each time it is reached (what is shared counts as often as it is met; a slice's spare places count too). A statement '..UptoSaid' is the law's where the arguments, and the package variables that the reading takes, are together of bulk at most 1048576: NARROWER than '..Said'. Prove '..Said' where nothing that the law and all that it calls make is longer than what came in: it says more and counts as full. Else prove '..UptoSaid'. A law counts once. -/
mutual
def uptoBulk {H : Type} : DataW H → Nat
  | .lit (.string bytes) => bytes.length + 1
  | .lit _ => 1
  | .nil => 1
  | .ptr d => uptoBulk d + 1
  | .slice elems spare => uptoBulkAll elems + uptoBulkAll spare + 1
  | .agg parts => uptoBulkAll parts + 1
  | .iface _ d => uptoBulk d + 1
  | .map entries => uptoBulkEntries entries + 1
  | .held _ => 1
def uptoBulkAll {H : Type} : List (DataW H) → Nat
  | [] => 0
  | d :: r => uptoBulk d + uptoBulkAll r
def uptoBulkEntries {H : Type} : List (Lit × DataW H) → Nat
  | [] => 0
  | x :: r => uptoBulkEntry x + uptoBulkEntries r
def uptoBulkEntry {H : Type} : Lit × DataW H → Nat
  | (.string bytes, d) => bytes.length + uptoBulk d + 1
  | (_, d) => uptoBulk d + 1
 end
def uptoSmall : (H : Type) → List (DataW H) → Bool := fun _ ds => decide (uptoBulkAll ds ≤ 1048576)
def OpenSpec.upto (s : _root_.Go.ChangeSpec) : _root_.Go.OpenSpec := { _root_.Go.OpenSpec.ofChange s with cond := some uptoSmall }

/-- 'laws.FnExactRankOf', WHERE WHAT IT READS IS OF BULK AT MOST 1048576: true; the input reads as it did. -/
def fnExactRankOfUptoRow : OpenClaim := { program := "ytlgglbgdopmkpaa", sum := "f6f1360904b6a6bf30bc8da40b642535bfa46a5aa8efb37159aa355a1e04e062", func := "loop.example/numberparts/laws.FnExactRankOf", spec := "fnExactRankOf", apart := false, narrowed := true }
def FnExactRankOfUptoSaid : Prop := fnExactRankOfUptoRow.holds Try.pinned (OpenSpec.upto fnExactRankOfSpec)

/-- 'laws.FnRankOf', WHERE WHAT IT READS IS OF BULK AT MOST 1048576: true; the input reads as it did. -/
def fnRankOfUptoRow : OpenClaim := { program := "ytlgglbgdopmkpaa", sum := "f6f1360904b6a6bf30bc8da40b642535bfa46a5aa8efb37159aa355a1e04e062", func := "loop.example/numberparts/laws.FnRankOf", spec := "fnRankOf", apart := false, narrowed := true }
def FnRankOfUptoSaid : Prop := fnRankOfUptoRow.holds Try.pinned (OpenSpec.upto fnRankOfSpec)

/-- 'laws.FnExactCrankOf', WHERE WHAT IT READS IS OF BULK AT MOST 1048576: true; the input reads as it did. -/
def fnExactCrankOfUptoRow : OpenClaim := { program := "ytlgglbgdopmkpaa", sum := "f6f1360904b6a6bf30bc8da40b642535bfa46a5aa8efb37159aa355a1e04e062", func := "loop.example/numberparts/laws.FnExactCrankOf", spec := "fnExactCrankOf", apart := false, narrowed := true }
def FnExactCrankOfUptoSaid : Prop := fnExactCrankOfUptoRow.holds Try.pinned (OpenSpec.upto fnExactCrankOfSpec)

/-- 'laws.FnCrankOf', WHERE WHAT IT READS IS OF BULK AT MOST 1048576: true; the input reads as it did. -/
def fnCrankOfUptoRow : OpenClaim := { program := "ytlgglbgdopmkpaa", sum := "f6f1360904b6a6bf30bc8da40b642535bfa46a5aa8efb37159aa355a1e04e062", func := "loop.example/numberparts/laws.FnCrankOf", spec := "fnCrankOf", apart := false, narrowed := true }
def FnCrankOfUptoSaid : Prop := fnCrankOfUptoRow.holds Try.pinned (OpenSpec.upto fnCrankOfSpec)

/-- 'laws.FnExactHasInside', WHERE WHAT IT READS IS OF BULK AT MOST 1048576: true; the input reads as it did. -/
def fnExactHasInsideUptoRow : OpenClaim := { program := "ytlgglbgdopmkpaa", sum := "f6f1360904b6a6bf30bc8da40b642535bfa46a5aa8efb37159aa355a1e04e062", func := "loop.example/numberparts/laws.FnExactHasInside", spec := "fnExactHasInside", apart := false, narrowed := true }
def FnExactHasInsideUptoSaid : Prop := fnExactHasInsideUptoRow.holds Try.pinned (OpenSpec.upto fnExactHasInsideSpec)

/-- 'laws.FnHasInside', WHERE WHAT IT READS IS OF BULK AT MOST 1048576: true; the input reads as it did. -/
def fnHasInsideUptoRow : OpenClaim := { program := "ytlgglbgdopmkpaa", sum := "f6f1360904b6a6bf30bc8da40b642535bfa46a5aa8efb37159aa355a1e04e062", func := "loop.example/numberparts/laws.FnHasInside", spec := "fnHasInside", apart := false, narrowed := true }
def FnHasInsideUptoSaid : Prop := fnHasInsideUptoRow.holds Try.pinned (OpenSpec.upto fnHasInsideSpec)

/-- 'laws.FnExactCutInside', WHERE WHAT IT READS IS OF BULK AT MOST 1048576: true; the input reads as it did. -/
def fnExactCutInsideUptoRow : OpenClaim := { program := "ytlgglbgdopmkpaa", sum := "f6f1360904b6a6bf30bc8da40b642535bfa46a5aa8efb37159aa355a1e04e062", func := "loop.example/numberparts/laws.FnExactCutInside", spec := "fnExactCutInside", apart := false, narrowed := true }
def FnExactCutInsideUptoSaid : Prop := fnExactCutInsideUptoRow.holds Try.pinned (OpenSpec.upto fnExactCutInsideSpec)

/-- 'laws.FnCutInside', WHERE WHAT IT READS IS OF BULK AT MOST 1048576: true; the input reads as it did. -/
def fnCutInsideUptoRow : OpenClaim := { program := "ytlgglbgdopmkpaa", sum := "f6f1360904b6a6bf30bc8da40b642535bfa46a5aa8efb37159aa355a1e04e062", func := "loop.example/numberparts/laws.FnCutInside", spec := "fnCutInside", apart := false, narrowed := true }
def FnCutInsideUptoSaid : Prop := fnCutInsideUptoRow.holds Try.pinned (OpenSpec.upto fnCutInsideSpec)

/-- 'laws.FnExactDominates', WHERE WHAT IT READS IS OF BULK AT MOST 1048576: true; the input reads as it did. -/
def fnExactDominatesUptoRow : OpenClaim := { program := "ytlgglbgdopmkpaa", sum := "f6f1360904b6a6bf30bc8da40b642535bfa46a5aa8efb37159aa355a1e04e062", func := "loop.example/numberparts/laws.FnExactDominates", spec := "fnExactDominates", apart := false, narrowed := true }
def FnExactDominatesUptoSaid : Prop := fnExactDominatesUptoRow.holds Try.pinned (OpenSpec.upto fnExactDominatesSpec)

/-- 'laws.FnDominates', WHERE WHAT IT READS IS OF BULK AT MOST 1048576: true; the input reads as it did. -/
def fnDominatesUptoRow : OpenClaim := { program := "ytlgglbgdopmkpaa", sum := "f6f1360904b6a6bf30bc8da40b642535bfa46a5aa8efb37159aa355a1e04e062", func := "loop.example/numberparts/laws.FnDominates", spec := "fnDominates", apart := false, narrowed := true }
def FnDominatesUptoSaid : Prop := fnDominatesUptoRow.holds Try.pinned (OpenSpec.upto fnDominatesSpec)

/-- 'laws.FnExactMeetParts', WHERE WHAT IT READS IS OF BULK AT MOST 1048576: true; the input reads as it did. -/
def fnExactMeetPartsUptoRow : OpenClaim := { program := "ytlgglbgdopmkpaa", sum := "f6f1360904b6a6bf30bc8da40b642535bfa46a5aa8efb37159aa355a1e04e062", func := "loop.example/numberparts/laws.FnExactMeetParts", spec := "fnExactMeetParts", apart := false, narrowed := true }
def FnExactMeetPartsUptoSaid : Prop := fnExactMeetPartsUptoRow.holds Try.pinned (OpenSpec.upto fnExactMeetPartsSpec)

/-- 'laws.FnMeetParts', WHERE WHAT IT READS IS OF BULK AT MOST 1048576: true; the input reads as it did. -/
def fnMeetPartsUptoRow : OpenClaim := { program := "ytlgglbgdopmkpaa", sum := "f6f1360904b6a6bf30bc8da40b642535bfa46a5aa8efb37159aa355a1e04e062", func := "loop.example/numberparts/laws.FnMeetParts", spec := "fnMeetParts", unfollowed := true, recurses := true, apart := false, narrowed := true }
def FnMeetPartsUptoSaid : Prop := fnMeetPartsUptoRow.holds Try.pinned (OpenSpec.upto fnMeetPartsSpec)

/-- 'laws.FnExactJoinParts', WHERE WHAT IT READS IS OF BULK AT MOST 1048576: true; the input reads as it did. -/
def fnExactJoinPartsUptoRow : OpenClaim := { program := "ytlgglbgdopmkpaa", sum := "f6f1360904b6a6bf30bc8da40b642535bfa46a5aa8efb37159aa355a1e04e062", func := "loop.example/numberparts/laws.FnExactJoinParts", spec := "fnExactJoinParts", apart := false, narrowed := true }
def FnExactJoinPartsUptoSaid : Prop := fnExactJoinPartsUptoRow.holds Try.pinned (OpenSpec.upto fnExactJoinPartsSpec)

/-- 'laws.FnJoinParts', WHERE WHAT IT READS IS OF BULK AT MOST 1048576: true; the input reads as it did. -/
def fnJoinPartsUptoRow : OpenClaim := { program := "ytlgglbgdopmkpaa", sum := "f6f1360904b6a6bf30bc8da40b642535bfa46a5aa8efb37159aa355a1e04e062", func := "loop.example/numberparts/laws.FnJoinParts", spec := "fnJoinParts", apart := false, narrowed := true }
def FnJoinPartsUptoSaid : Prop := fnJoinPartsUptoRow.holds Try.pinned (OpenSpec.upto fnJoinPartsSpec)

end Rows
end Go.Proofs.Ytlgglbgdopmkpaa
