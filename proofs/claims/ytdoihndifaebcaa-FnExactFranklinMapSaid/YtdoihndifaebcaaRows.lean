/-
  No cell of these rows narrows 'for every input' (looked for: loops, veiled, ifaces, maps, wideKeys, modest, calm, conditions, laid).
  DERIVED. THE GIVEN ROWS OF THIS SEAT. 14 by the template 'for every input the law returns true; each argument reads behind the call as it read before'; 0 by the template 'total and deterministic' (their statements: YtdoihndifaebcaaTotals.lean).
  GIVEN WITH THE SEED: the statements are not yours to turn. If you find one false, say at which input.
  Laid BY PROGRAM, IN A SANDBOX (cutbox-rows.mjs): the forced cells as the released guide's own fill.sh prints them over the translation 0d5af0b9fb667a4d… (all of the seat's roots in one cut). By AI agents, Wed Nov 11 2026. No macro, syntax, notation, axiom, sorry.
-/
import Derived.Test.YtdoihndifaebcaaChecked
import GoSem.Claim
import GoSem.ClaimJoined
import GoSem.ClaimMapViews
import Derived.JoinedTies
import Derived.KernelRfl
namespace Go.Proofs.Ytdoihndifaebcaa
/- THE CELL 'sum', in the pinned program and in every row, IS THE sha256 OF THE DUMP (.gsa) THAT YtdoihndifaebcaaProg.lean LOADS. Nothing in Lean hashes anything: it is a label: what it is worth is what the hold of that sum in a sandbox is worth. -/
noncomputable def Try.pinned : Pinned := { name := "ytdoihndifaebcaa", sum := "0d5af0b9fb667a4d99713ec22254a076e0b1ef242870b927378b432d9f13bd02", checked := Try.checked }
namespace Rows
def none {H : Type} : Left H := { results := [], args := [] }

/-- 'laws.FnExactStairCut': WHATEVER THE INPUT: true; the input reads as it did. -/
def fnExactStairCutSpec : ChangeSpec := { name := "fnExactStairCut", fn := fun _ => fun
  | [d] => { results := [.lit (.bool true)], args := [d] }
  | _ => none }
def fnExactStairCutRow : OpenClaim := { program := "ytdoihndifaebcaa", sum := "0d5af0b9fb667a4d99713ec22254a076e0b1ef242870b927378b432d9f13bd02", func := "loop.example/numberparts/laws.FnExactStairCut", spec := "fnExactStairCut", unfollowed := true, recurses := true, apart := false }
def FnExactStairCutSaid : Prop := fnExactStairCutRow.holds Try.pinned (OpenSpec.ofChange fnExactStairCutSpec)

/-- ITS FALSE NEIGHBOUR: 'it returns false'. Refute it at one input. -/
def fnExactStairCutWrong : ChangeSpec := { name := "fnExactStairCut", fn := fun _ => fun
  | [d] => { results := [.lit (.bool false)], args := [d] }
  | _ => none }
def FnExactStairCutWrongFalsely : Prop := fnExactStairCutRow.holds Try.pinned (OpenSpec.ofChange fnExactStairCutWrong)

/-- 'laws.FnStairCut': WHATEVER THE INPUT: true; the input reads as it did. -/
def fnStairCutSpec : ChangeSpec := { name := "fnStairCut", fn := fun _ => fun
  | [d] => { results := [.lit (.bool true)], args := [d] }
  | _ => none }
def fnStairCutRow : OpenClaim := { program := "ytdoihndifaebcaa", sum := "0d5af0b9fb667a4d99713ec22254a076e0b1ef242870b927378b432d9f13bd02", func := "loop.example/numberparts/laws.FnStairCut", spec := "fnStairCut", unfollowed := true, recurses := true, apart := false }
def FnStairCutSaid : Prop := fnStairCutRow.holds Try.pinned (OpenSpec.ofChange fnStairCutSpec)

/-- ITS FALSE NEIGHBOUR: 'it returns false'. Refute it at one input. -/
def fnStairCutWrong : ChangeSpec := { name := "fnStairCut", fn := fun _ => fun
  | [d] => { results := [.lit (.bool false)], args := [d] }
  | _ => none }
def FnStairCutWrongFalsely : Prop := fnStairCutRow.holds Try.pinned (OpenSpec.ofChange fnStairCutWrong)

/-- 'laws.FnExactStairPut': WHATEVER THE INPUT: true; the input reads as it did. -/
def fnExactStairPutSpec : ChangeSpec := { name := "fnExactStairPut", fn := fun _ => fun
  | [d1, d2] => { results := [.lit (.bool true)], args := [d1, d2] }
  | _ => none }
def fnExactStairPutRow : OpenClaim := { program := "ytdoihndifaebcaa", sum := "0d5af0b9fb667a4d99713ec22254a076e0b1ef242870b927378b432d9f13bd02", func := "loop.example/numberparts/laws.FnExactStairPut", spec := "fnExactStairPut", unfollowed := true, recurses := true, apart := false }
def FnExactStairPutSaid : Prop := fnExactStairPutRow.holds Try.pinned (OpenSpec.ofChange fnExactStairPutSpec)

/-- ITS FALSE NEIGHBOUR: 'it returns false'. Refute it at one input. -/
def fnExactStairPutWrong : ChangeSpec := { name := "fnExactStairPut", fn := fun _ => fun
  | [d1, d2] => { results := [.lit (.bool false)], args := [d1, d2] }
  | _ => none }
def FnExactStairPutWrongFalsely : Prop := fnExactStairPutRow.holds Try.pinned (OpenSpec.ofChange fnExactStairPutWrong)

/-- 'laws.FnStairPut': WHATEVER THE INPUT: true; the input reads as it did. -/
def fnStairPutSpec : ChangeSpec := { name := "fnStairPut", fn := fun _ => fun
  | [d] => { results := [.lit (.bool true)], args := [d] }
  | _ => none }
def fnStairPutRow : OpenClaim := { program := "ytdoihndifaebcaa", sum := "0d5af0b9fb667a4d99713ec22254a076e0b1ef242870b927378b432d9f13bd02", func := "loop.example/numberparts/laws.FnStairPut", spec := "fnStairPut", unfollowed := true, recurses := true, apart := false }
def FnStairPutSaid : Prop := fnStairPutRow.holds Try.pinned (OpenSpec.ofChange fnStairPutSpec)

/-- ITS FALSE NEIGHBOUR: 'it returns false'. Refute it at one input. -/
def fnStairPutWrong : ChangeSpec := { name := "fnStairPut", fn := fun _ => fun
  | [d] => { results := [.lit (.bool false)], args := [d] }
  | _ => none }
def FnStairPutWrongFalsely : Prop := fnStairPutRow.holds Try.pinned (OpenSpec.ofChange fnStairPutWrong)

/-- 'laws.FnExactFranklinMap': WHATEVER THE INPUT: true; the input reads as it did. -/
def fnExactFranklinMapSpec : ChangeSpec := { name := "fnExactFranklinMap", fn := fun _ => fun
  | [d] => { results := [.lit (.bool true)], args := [d] }
  | _ => none }
def fnExactFranklinMapRow : OpenClaim := { program := "ytdoihndifaebcaa", sum := "0d5af0b9fb667a4d99713ec22254a076e0b1ef242870b927378b432d9f13bd02", func := "loop.example/numberparts/laws.FnExactFranklinMap", spec := "fnExactFranklinMap", unfollowed := true, recurses := true, apart := false }
def FnExactFranklinMapSaid : Prop := fnExactFranklinMapRow.holds Try.pinned (OpenSpec.ofChange fnExactFranklinMapSpec)

/-- ITS FALSE NEIGHBOUR: 'it returns false'. Refute it at one input. -/
def fnExactFranklinMapWrong : ChangeSpec := { name := "fnExactFranklinMap", fn := fun _ => fun
  | [d] => { results := [.lit (.bool false)], args := [d] }
  | _ => none }
def FnExactFranklinMapWrongFalsely : Prop := fnExactFranklinMapRow.holds Try.pinned (OpenSpec.ofChange fnExactFranklinMapWrong)

/-- 'laws.FnFranklinMap': WHATEVER THE INPUT: true; the input reads as it did. -/
def fnFranklinMapSpec : ChangeSpec := { name := "fnFranklinMap", fn := fun _ => fun
  | [d] => { results := [.lit (.bool true)], args := [d] }
  | _ => none }
def fnFranklinMapRow : OpenClaim := { program := "ytdoihndifaebcaa", sum := "0d5af0b9fb667a4d99713ec22254a076e0b1ef242870b927378b432d9f13bd02", func := "loop.example/numberparts/laws.FnFranklinMap", spec := "fnFranklinMap", unfollowed := true, recurses := true, apart := false }
def FnFranklinMapSaid : Prop := fnFranklinMapRow.holds Try.pinned (OpenSpec.ofChange fnFranklinMapSpec)

/-- ITS FALSE NEIGHBOUR: 'it returns false'. Refute it at one input. -/
def fnFranklinMapWrong : ChangeSpec := { name := "fnFranklinMap", fn := fun _ => fun
  | [d] => { results := [.lit (.bool false)], args := [d] }
  | _ => none }
def FnFranklinMapWrongFalsely : Prop := fnFranklinMapRow.holds Try.pinned (OpenSpec.ofChange fnFranklinMapWrong)

/-- 'laws.FnExactHooksToOdd': WHATEVER THE INPUT: true; the input reads as it did. -/
def fnExactHooksToOddSpec : ChangeSpec := { name := "fnExactHooksToOdd", fn := fun _ => fun
  | [d] => { results := [.lit (.bool true)], args := [d] }
  | _ => none }
def fnExactHooksToOddRow : OpenClaim := { program := "ytdoihndifaebcaa", sum := "0d5af0b9fb667a4d99713ec22254a076e0b1ef242870b927378b432d9f13bd02", func := "loop.example/numberparts/laws.FnExactHooksToOdd", spec := "fnExactHooksToOdd", unfollowed := true, recurses := true, apart := false }
def FnExactHooksToOddSaid : Prop := fnExactHooksToOddRow.holds Try.pinned (OpenSpec.ofChange fnExactHooksToOddSpec)

/-- ITS FALSE NEIGHBOUR: 'it returns false'. Refute it at one input. -/
def fnExactHooksToOddWrong : ChangeSpec := { name := "fnExactHooksToOdd", fn := fun _ => fun
  | [d] => { results := [.lit (.bool false)], args := [d] }
  | _ => none }
def FnExactHooksToOddWrongFalsely : Prop := fnExactHooksToOddRow.holds Try.pinned (OpenSpec.ofChange fnExactHooksToOddWrong)

/-- 'laws.FnHooksToOdd': WHATEVER THE INPUT: true; the input reads as it did. -/
def fnHooksToOddSpec : ChangeSpec := { name := "fnHooksToOdd", fn := fun _ => fun
  | [d] => { results := [.lit (.bool true)], args := [d] }
  | _ => none }
def fnHooksToOddRow : OpenClaim := { program := "ytdoihndifaebcaa", sum := "0d5af0b9fb667a4d99713ec22254a076e0b1ef242870b927378b432d9f13bd02", func := "loop.example/numberparts/laws.FnHooksToOdd", spec := "fnHooksToOdd", unfollowed := true, recurses := true, apart := false }
def FnHooksToOddSaid : Prop := fnHooksToOddRow.holds Try.pinned (OpenSpec.ofChange fnHooksToOddSpec)

/-- ITS FALSE NEIGHBOUR: 'it returns false'. Refute it at one input. -/
def fnHooksToOddWrong : ChangeSpec := { name := "fnHooksToOdd", fn := fun _ => fun
  | [d] => { results := [.lit (.bool false)], args := [d] }
  | _ => none }
def FnHooksToOddWrongFalsely : Prop := fnHooksToOddRow.holds Try.pinned (OpenSpec.ofChange fnHooksToOddWrong)

/-- 'laws.FnExactOddToHooks': WHATEVER THE INPUT: true; the input reads as it did. -/
def fnExactOddToHooksSpec : ChangeSpec := { name := "fnExactOddToHooks", fn := fun _ => fun
  | [d] => { results := [.lit (.bool true)], args := [d] }
  | _ => none }
def fnExactOddToHooksRow : OpenClaim := { program := "ytdoihndifaebcaa", sum := "0d5af0b9fb667a4d99713ec22254a076e0b1ef242870b927378b432d9f13bd02", func := "loop.example/numberparts/laws.FnExactOddToHooks", spec := "fnExactOddToHooks", unfollowed := true, recurses := true, apart := false }
def FnExactOddToHooksSaid : Prop := fnExactOddToHooksRow.holds Try.pinned (OpenSpec.ofChange fnExactOddToHooksSpec)

/-- ITS FALSE NEIGHBOUR: 'it returns false'. Refute it at one input. -/
def fnExactOddToHooksWrong : ChangeSpec := { name := "fnExactOddToHooks", fn := fun _ => fun
  | [d] => { results := [.lit (.bool false)], args := [d] }
  | _ => none }
def FnExactOddToHooksWrongFalsely : Prop := fnExactOddToHooksRow.holds Try.pinned (OpenSpec.ofChange fnExactOddToHooksWrong)

/-- 'laws.FnOddToHooks': WHATEVER THE INPUT: true; the input reads as it did. -/
def fnOddToHooksSpec : ChangeSpec := { name := "fnOddToHooks", fn := fun _ => fun
  | [d] => { results := [.lit (.bool true)], args := [d] }
  | _ => none }
def fnOddToHooksRow : OpenClaim := { program := "ytdoihndifaebcaa", sum := "0d5af0b9fb667a4d99713ec22254a076e0b1ef242870b927378b432d9f13bd02", func := "loop.example/numberparts/laws.FnOddToHooks", spec := "fnOddToHooks", unfollowed := true, recurses := true, apart := false }
def FnOddToHooksSaid : Prop := fnOddToHooksRow.holds Try.pinned (OpenSpec.ofChange fnOddToHooksSpec)

/-- ITS FALSE NEIGHBOUR: 'it returns false'. Refute it at one input. -/
def fnOddToHooksWrong : ChangeSpec := { name := "fnOddToHooks", fn := fun _ => fun
  | [d] => { results := [.lit (.bool false)], args := [d] }
  | _ => none }
def FnOddToHooksWrongFalsely : Prop := fnOddToHooksRow.holds Try.pinned (OpenSpec.ofChange fnOddToHooksWrong)

/-- 'laws.FnExactMergeEqual': WHATEVER THE INPUT: true; the input reads as it did. -/
def fnExactMergeEqualSpec : ChangeSpec := { name := "fnExactMergeEqual", fn := fun _ => fun
  | [d1, d2] => { results := [.lit (.bool true)], args := [d1, d2] }
  | _ => none }
def fnExactMergeEqualRow : OpenClaim := { program := "ytdoihndifaebcaa", sum := "0d5af0b9fb667a4d99713ec22254a076e0b1ef242870b927378b432d9f13bd02", func := "loop.example/numberparts/laws.FnExactMergeEqual", spec := "fnExactMergeEqual", unfollowed := true, recurses := true, apart := false }
def FnExactMergeEqualSaid : Prop := fnExactMergeEqualRow.holds Try.pinned (OpenSpec.ofChange fnExactMergeEqualSpec)

/-- ITS FALSE NEIGHBOUR: 'it returns false'. Refute it at one input. -/
def fnExactMergeEqualWrong : ChangeSpec := { name := "fnExactMergeEqual", fn := fun _ => fun
  | [d1, d2] => { results := [.lit (.bool false)], args := [d1, d2] }
  | _ => none }
def FnExactMergeEqualWrongFalsely : Prop := fnExactMergeEqualRow.holds Try.pinned (OpenSpec.ofChange fnExactMergeEqualWrong)

/-- 'laws.FnMergeEqual': WHATEVER THE INPUT: true; the input reads as it did. -/
def fnMergeEqualSpec : ChangeSpec := { name := "fnMergeEqual", fn := fun _ => fun
  | [d] => { results := [.lit (.bool true)], args := [d] }
  | _ => none }
def fnMergeEqualRow : OpenClaim := { program := "ytdoihndifaebcaa", sum := "0d5af0b9fb667a4d99713ec22254a076e0b1ef242870b927378b432d9f13bd02", func := "loop.example/numberparts/laws.FnMergeEqual", spec := "fnMergeEqual", unfollowed := true, recurses := true, apart := false }
def FnMergeEqualSaid : Prop := fnMergeEqualRow.holds Try.pinned (OpenSpec.ofChange fnMergeEqualSpec)

/-- ITS FALSE NEIGHBOUR: 'it returns false'. Refute it at one input. -/
def fnMergeEqualWrong : ChangeSpec := { name := "fnMergeEqual", fn := fun _ => fun
  | [d] => { results := [.lit (.bool false)], args := [d] }
  | _ => none }
def FnMergeEqualWrongFalsely : Prop := fnMergeEqualRow.holds Try.pinned (OpenSpec.ofChange fnMergeEqualWrong)

/-- 'laws.FnExactSplitEqual': WHATEVER THE INPUT: true; the input reads as it did. -/
def fnExactSplitEqualSpec : ChangeSpec := { name := "fnExactSplitEqual", fn := fun _ => fun
  | [d1, d2] => { results := [.lit (.bool true)], args := [d1, d2] }
  | _ => none }
def fnExactSplitEqualRow : OpenClaim := { program := "ytdoihndifaebcaa", sum := "0d5af0b9fb667a4d99713ec22254a076e0b1ef242870b927378b432d9f13bd02", func := "loop.example/numberparts/laws.FnExactSplitEqual", spec := "fnExactSplitEqual", unfollowed := true, recurses := true, apart := false }
def FnExactSplitEqualSaid : Prop := fnExactSplitEqualRow.holds Try.pinned (OpenSpec.ofChange fnExactSplitEqualSpec)

/-- ITS FALSE NEIGHBOUR: 'it returns false'. Refute it at one input. -/
def fnExactSplitEqualWrong : ChangeSpec := { name := "fnExactSplitEqual", fn := fun _ => fun
  | [d1, d2] => { results := [.lit (.bool false)], args := [d1, d2] }
  | _ => none }
def FnExactSplitEqualWrongFalsely : Prop := fnExactSplitEqualRow.holds Try.pinned (OpenSpec.ofChange fnExactSplitEqualWrong)

/-- 'laws.FnSplitEqual': WHATEVER THE INPUT: true; the input reads as it did. -/
def fnSplitEqualSpec : ChangeSpec := { name := "fnSplitEqual", fn := fun _ => fun
  | [d] => { results := [.lit (.bool true)], args := [d] }
  | _ => none }
def fnSplitEqualRow : OpenClaim := { program := "ytdoihndifaebcaa", sum := "0d5af0b9fb667a4d99713ec22254a076e0b1ef242870b927378b432d9f13bd02", func := "loop.example/numberparts/laws.FnSplitEqual", spec := "fnSplitEqual", unfollowed := true, recurses := true, apart := false }
def FnSplitEqualSaid : Prop := fnSplitEqualRow.holds Try.pinned (OpenSpec.ofChange fnSplitEqualSpec)

/-- ITS FALSE NEIGHBOUR: 'it returns false'. Refute it at one input. -/
def fnSplitEqualWrong : ChangeSpec := { name := "fnSplitEqual", fn := fun _ => fun
  | [d] => { results := [.lit (.bool false)], args := [d] }
  | _ => none }
def FnSplitEqualWrongFalsely : Prop := fnSplitEqualRow.holds Try.pinned (OpenSpec.ofChange fnSplitEqualWrong)

/- THE SECOND FORM. 'bulk': how many values and letters a reading holds, each counted each time it is reached (what is shared counts as often as it is met; a slice's spare places count too). A statement '..UptoSaid' is the law's where the arguments, and the package variables that the reading takes, are together of bulk at most 1048576: NARROWER than '..Said'. Prove '..Said' where nothing that the law and all that it calls make is longer than what came in: it says more and counts as full. Else prove '..UptoSaid'. A law counts once. -/
mutual
def uptoBulk {H : Type} : DataW H → Nat
  | .lit (.string bytes) => bytes.length + 1
  | .lit _ => 1
  | .nil => 1
  | .ptr d => uptoBulk d + 1
  | .slice elems spare => uptoBulkAll elems + uptoBulkAll spare + 1
  | .agg parts => uptoBulkAll parts + 1
  | .iface _ d => uptoBulk d + 1
  | .map entries => uptoBulkEntries entries + 1
  | .held _ => 1
def uptoBulkAll {H : Type} : List (DataW H) → Nat
  | [] => 0
  | d :: r => uptoBulk d + uptoBulkAll r
def uptoBulkEntries {H : Type} : List (Lit × DataW H) → Nat
  | [] => 0
  | x :: r => uptoBulkEntry x + uptoBulkEntries r
def uptoBulkEntry {H : Type} : Lit × DataW H → Nat
  | (.string bytes, d) => bytes.length + uptoBulk d + 1
  | (_, d) => uptoBulk d + 1
 end
def uptoSmall : (H : Type) → List (DataW H) → Bool := fun _ ds => decide (uptoBulkAll ds ≤ 1048576)
def OpenSpec.upto (s : _root_.Go.ChangeSpec) : _root_.Go.OpenSpec := { _root_.Go.OpenSpec.ofChange s with cond := some uptoSmall }

/-- 'laws.FnExactStairCut', WHERE WHAT IT READS IS OF BULK AT MOST 1048576: true; the input reads as it did. -/
def fnExactStairCutUptoRow : OpenClaim := { program := "ytdoihndifaebcaa", sum := "0d5af0b9fb667a4d99713ec22254a076e0b1ef242870b927378b432d9f13bd02", func := "loop.example/numberparts/laws.FnExactStairCut", spec := "fnExactStairCut", unfollowed := true, recurses := true, apart := false, narrowed := true }
def FnExactStairCutUptoSaid : Prop := fnExactStairCutUptoRow.holds Try.pinned (OpenSpec.upto fnExactStairCutSpec)

/-- 'laws.FnStairCut', WHERE WHAT IT READS IS OF BULK AT MOST 1048576: true; the input reads as it did. -/
def fnStairCutUptoRow : OpenClaim := { program := "ytdoihndifaebcaa", sum := "0d5af0b9fb667a4d99713ec22254a076e0b1ef242870b927378b432d9f13bd02", func := "loop.example/numberparts/laws.FnStairCut", spec := "fnStairCut", unfollowed := true, recurses := true, apart := false, narrowed := true }
def FnStairCutUptoSaid : Prop := fnStairCutUptoRow.holds Try.pinned (OpenSpec.upto fnStairCutSpec)

/-- 'laws.FnExactStairPut', WHERE WHAT IT READS IS OF BULK AT MOST 1048576: true; the input reads as it did. -/
def fnExactStairPutUptoRow : OpenClaim := { program := "ytdoihndifaebcaa", sum := "0d5af0b9fb667a4d99713ec22254a076e0b1ef242870b927378b432d9f13bd02", func := "loop.example/numberparts/laws.FnExactStairPut", spec := "fnExactStairPut", unfollowed := true, recurses := true, apart := false, narrowed := true }
def FnExactStairPutUptoSaid : Prop := fnExactStairPutUptoRow.holds Try.pinned (OpenSpec.upto fnExactStairPutSpec)

/-- 'laws.FnStairPut', WHERE WHAT IT READS IS OF BULK AT MOST 1048576: true; the input reads as it did. -/
def fnStairPutUptoRow : OpenClaim := { program := "ytdoihndifaebcaa", sum := "0d5af0b9fb667a4d99713ec22254a076e0b1ef242870b927378b432d9f13bd02", func := "loop.example/numberparts/laws.FnStairPut", spec := "fnStairPut", unfollowed := true, recurses := true, apart := false, narrowed := true }
def FnStairPutUptoSaid : Prop := fnStairPutUptoRow.holds Try.pinned (OpenSpec.upto fnStairPutSpec)

/-- 'laws.FnExactFranklinMap', WHERE WHAT IT READS IS OF BULK AT MOST 1048576: true; the input reads as it did. -/
def fnExactFranklinMapUptoRow : OpenClaim := { program := "ytdoihndifaebcaa", sum := "0d5af0b9fb667a4d99713ec22254a076e0b1ef242870b927378b432d9f13bd02", func := "loop.example/numberparts/laws.FnExactFranklinMap", spec := "fnExactFranklinMap", unfollowed := true, recurses := true, apart := false, narrowed := true }
def FnExactFranklinMapUptoSaid : Prop := fnExactFranklinMapUptoRow.holds Try.pinned (OpenSpec.upto fnExactFranklinMapSpec)

/-- 'laws.FnFranklinMap', WHERE WHAT IT READS IS OF BULK AT MOST 1048576: true; the input reads as it did. -/
def fnFranklinMapUptoRow : OpenClaim := { program := "ytdoihndifaebcaa", sum := "0d5af0b9fb667a4d99713ec22254a076e0b1ef242870b927378b432d9f13bd02", func := "loop.example/numberparts/laws.FnFranklinMap", spec := "fnFranklinMap", unfollowed := true, recurses := true, apart := false, narrowed := true }
def FnFranklinMapUptoSaid : Prop := fnFranklinMapUptoRow.holds Try.pinned (OpenSpec.upto fnFranklinMapSpec)

/-- 'laws.FnExactHooksToOdd', WHERE WHAT IT READS IS OF BULK AT MOST 1048576: true; the input reads as it did. -/
def fnExactHooksToOddUptoRow : OpenClaim := { program := "ytdoihndifaebcaa", sum := "0d5af0b9fb667a4d99713ec22254a076e0b1ef242870b927378b432d9f13bd02", func := "loop.example/numberparts/laws.FnExactHooksToOdd", spec := "fnExactHooksToOdd", unfollowed := true, recurses := true, apart := false, narrowed := true }
def FnExactHooksToOddUptoSaid : Prop := fnExactHooksToOddUptoRow.holds Try.pinned (OpenSpec.upto fnExactHooksToOddSpec)

/-- 'laws.FnHooksToOdd', WHERE WHAT IT READS IS OF BULK AT MOST 1048576: true; the input reads as it did. -/
def fnHooksToOddUptoRow : OpenClaim := { program := "ytdoihndifaebcaa", sum := "0d5af0b9fb667a4d99713ec22254a076e0b1ef242870b927378b432d9f13bd02", func := "loop.example/numberparts/laws.FnHooksToOdd", spec := "fnHooksToOdd", unfollowed := true, recurses := true, apart := false, narrowed := true }
def FnHooksToOddUptoSaid : Prop := fnHooksToOddUptoRow.holds Try.pinned (OpenSpec.upto fnHooksToOddSpec)

/-- 'laws.FnExactOddToHooks', WHERE WHAT IT READS IS OF BULK AT MOST 1048576: true; the input reads as it did. -/
def fnExactOddToHooksUptoRow : OpenClaim := { program := "ytdoihndifaebcaa", sum := "0d5af0b9fb667a4d99713ec22254a076e0b1ef242870b927378b432d9f13bd02", func := "loop.example/numberparts/laws.FnExactOddToHooks", spec := "fnExactOddToHooks", unfollowed := true, recurses := true, apart := false, narrowed := true }
def FnExactOddToHooksUptoSaid : Prop := fnExactOddToHooksUptoRow.holds Try.pinned (OpenSpec.upto fnExactOddToHooksSpec)

/-- 'laws.FnOddToHooks', WHERE WHAT IT READS IS OF BULK AT MOST 1048576: true; the input reads as it did. -/
def fnOddToHooksUptoRow : OpenClaim := { program := "ytdoihndifaebcaa", sum := "0d5af0b9fb667a4d99713ec22254a076e0b1ef242870b927378b432d9f13bd02", func := "loop.example/numberparts/laws.FnOddToHooks", spec := "fnOddToHooks", unfollowed := true, recurses := true, apart := false, narrowed := true }
def FnOddToHooksUptoSaid : Prop := fnOddToHooksUptoRow.holds Try.pinned (OpenSpec.upto fnOddToHooksSpec)

/-- 'laws.FnExactMergeEqual', WHERE WHAT IT READS IS OF BULK AT MOST 1048576: true; the input reads as it did. -/
def fnExactMergeEqualUptoRow : OpenClaim := { program := "ytdoihndifaebcaa", sum := "0d5af0b9fb667a4d99713ec22254a076e0b1ef242870b927378b432d9f13bd02", func := "loop.example/numberparts/laws.FnExactMergeEqual", spec := "fnExactMergeEqual", unfollowed := true, recurses := true, apart := false, narrowed := true }
def FnExactMergeEqualUptoSaid : Prop := fnExactMergeEqualUptoRow.holds Try.pinned (OpenSpec.upto fnExactMergeEqualSpec)

/-- 'laws.FnMergeEqual', WHERE WHAT IT READS IS OF BULK AT MOST 1048576: true; the input reads as it did. -/
def fnMergeEqualUptoRow : OpenClaim := { program := "ytdoihndifaebcaa", sum := "0d5af0b9fb667a4d99713ec22254a076e0b1ef242870b927378b432d9f13bd02", func := "loop.example/numberparts/laws.FnMergeEqual", spec := "fnMergeEqual", unfollowed := true, recurses := true, apart := false, narrowed := true }
def FnMergeEqualUptoSaid : Prop := fnMergeEqualUptoRow.holds Try.pinned (OpenSpec.upto fnMergeEqualSpec)

/-- 'laws.FnExactSplitEqual', WHERE WHAT IT READS IS OF BULK AT MOST 1048576: true; the input reads as it did. -/
def fnExactSplitEqualUptoRow : OpenClaim := { program := "ytdoihndifaebcaa", sum := "0d5af0b9fb667a4d99713ec22254a076e0b1ef242870b927378b432d9f13bd02", func := "loop.example/numberparts/laws.FnExactSplitEqual", spec := "fnExactSplitEqual", unfollowed := true, recurses := true, apart := false, narrowed := true }
def FnExactSplitEqualUptoSaid : Prop := fnExactSplitEqualUptoRow.holds Try.pinned (OpenSpec.upto fnExactSplitEqualSpec)

/-- 'laws.FnSplitEqual', WHERE WHAT IT READS IS OF BULK AT MOST 1048576: true; the input reads as it did. -/
def fnSplitEqualUptoRow : OpenClaim := { program := "ytdoihndifaebcaa", sum := "0d5af0b9fb667a4d99713ec22254a076e0b1ef242870b927378b432d9f13bd02", func := "loop.example/numberparts/laws.FnSplitEqual", spec := "fnSplitEqual", unfollowed := true, recurses := true, apart := false, narrowed := true }
def FnSplitEqualUptoSaid : Prop := fnSplitEqualUptoRow.holds Try.pinned (OpenSpec.upto fnSplitEqualSpec)

end Rows
end Go.Proofs.Ytdoihndifaebcaa
