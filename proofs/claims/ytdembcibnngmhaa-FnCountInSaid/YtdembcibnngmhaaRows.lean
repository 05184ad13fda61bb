/-
  No cell of these rows narrows 'for every input' (looked for: loops, veiled, ifaces, maps, wideKeys, modest, calm, conditions, laid).
  DERIVED. THE GIVEN ROWS OF THIS SEAT. 10 by the template 'for every input the law returns true; each argument reads behind the call as it read before'; 0 by the template 'total and deterministic' (their statements: YtdembcibnngmhaaTotals.lean).
  GIVEN WITH THE SEED: the statements are not yours to turn. If you find one false, say at which input.
  Laid BY PROGRAM, IN A SANDBOX (cutbox-rows.mjs): the forced cells as the released guide's own fill.sh prints them over the translation 172214f04caefd12… (all of the seat's roots in one cut). By AI agents, Wed Nov 11 2026. No macro, syntax, notation, axiom, sorry.
-/
import Derived.Test.YtdembcibnngmhaaChecked
import GoSem.Claim
import GoSem.ClaimJoined
import GoSem.ClaimMapViews
import Derived.JoinedTies
import Derived.KernelRfl
namespace Go.Proofs.Ytdembcibnngmhaa
/- THE CELL 'sum', in the pinned program and in every row, IS THE sha256 OF THE DUMP (.gsa) THAT YtdembcibnngmhaaProg.lean LOADS. Nothing in Lean hashes anything: it is a label: what it is worth is what the hold of that sum in a sandbox is worth. -/
noncomputable def Try.pinned : Pinned := { name := "ytdembcibnngmhaa", sum := "172214f04caefd12d161c3795ab45aa5f902eefca7206e1835c52de04f1807c9", checked := Try.checked }
namespace Rows
def none {H : Type} : Left H := { results := [], args := [] }

/-- 'laws.FnExactPlaceOf': WHATEVER THE INPUT: true; the input reads as it did. -/
def fnExactPlaceOfSpec : ChangeSpec := { name := "fnExactPlaceOf", fn := fun _ => fun
  | [d] => { results := [.lit (.bool true)], args := [d] }
  | _ => none }
def fnExactPlaceOfRow : OpenClaim := { program := "ytdembcibnngmhaa", sum := "172214f04caefd12d161c3795ab45aa5f902eefca7206e1835c52de04f1807c9", func := "loop.example/numberparts/laws.FnExactPlaceOf", spec := "fnExactPlaceOf", recurses := true, apart := false }
def FnExactPlaceOfSaid : Prop := fnExactPlaceOfRow.holds Try.pinned (OpenSpec.ofChange fnExactPlaceOfSpec)

/-- ITS FALSE NEIGHBOUR: 'it returns false'. Refute it at one input. -/
def fnExactPlaceOfWrong : ChangeSpec := { name := "fnExactPlaceOf", fn := fun _ => fun
  | [d] => { results := [.lit (.bool false)], args := [d] }
  | _ => none }
def FnExactPlaceOfWrongFalsely : Prop := fnExactPlaceOfRow.holds Try.pinned (OpenSpec.ofChange fnExactPlaceOfWrong)

/-- 'laws.FnPlaceOf': WHATEVER THE INPUT: true; the input reads as it did. -/
def fnPlaceOfSpec : ChangeSpec := { name := "fnPlaceOf", fn := fun _ => fun
  | [d] => { results := [.lit (.bool true)], args := [d] }
  | _ => none }
def fnPlaceOfRow : OpenClaim := { program := "ytdembcibnngmhaa", sum := "172214f04caefd12d161c3795ab45aa5f902eefca7206e1835c52de04f1807c9", func := "loop.example/numberparts/laws.FnPlaceOf", spec := "fnPlaceOf", recurses := true, apart := false }
def FnPlaceOfSaid : Prop := fnPlaceOfRow.holds Try.pinned (OpenSpec.ofChange fnPlaceOfSpec)

/-- ITS FALSE NEIGHBOUR: 'it returns false'. Refute it at one input. -/
def fnPlaceOfWrong : ChangeSpec := { name := "fnPlaceOf", fn := fun _ => fun
  | [d] => { results := [.lit (.bool false)], args := [d] }
  | _ => none }
def FnPlaceOfWrongFalsely : Prop := fnPlaceOfRow.holds Try.pinned (OpenSpec.ofChange fnPlaceOfWrong)

/-- 'laws.FnExactPartsAt': WHATEVER THE INPUT: true; the input reads as it did. -/
def fnExactPartsAtSpec : ChangeSpec := { name := "fnExactPartsAt", fn := fun _ => fun
  | [d1, d2] => { results := [.lit (.bool true)], args := [d1, d2] }
  | _ => none }
def fnExactPartsAtRow : OpenClaim := { program := "ytdembcibnngmhaa", sum := "172214f04caefd12d161c3795ab45aa5f902eefca7206e1835c52de04f1807c9", func := "loop.example/numberparts/laws.FnExactPartsAt", spec := "fnExactPartsAt", recurses := true, apart := false }
def FnExactPartsAtSaid : Prop := fnExactPartsAtRow.holds Try.pinned (OpenSpec.ofChange fnExactPartsAtSpec)

/-- ITS FALSE NEIGHBOUR: 'it returns false'. Refute it at one input. -/
def fnExactPartsAtWrong : ChangeSpec := { name := "fnExactPartsAt", fn := fun _ => fun
  | [d1, d2] => { results := [.lit (.bool false)], args := [d1, d2] }
  | _ => none }
def FnExactPartsAtWrongFalsely : Prop := fnExactPartsAtRow.holds Try.pinned (OpenSpec.ofChange fnExactPartsAtWrong)

/-- 'laws.FnPartsAt': WHATEVER THE INPUT: true; the input reads as it did. -/
def fnPartsAtSpec : ChangeSpec := { name := "fnPartsAt", fn := fun _ => fun
  | [d] => { results := [.lit (.bool true)], args := [d] }
  | _ => none }
def fnPartsAtRow : OpenClaim := { program := "ytdembcibnngmhaa", sum := "172214f04caefd12d161c3795ab45aa5f902eefca7206e1835c52de04f1807c9", func := "loop.example/numberparts/laws.FnPartsAt", spec := "fnPartsAt", recurses := true, apart := false }
def FnPartsAtSaid : Prop := fnPartsAtRow.holds Try.pinned (OpenSpec.ofChange fnPartsAtSpec)

/-- ITS FALSE NEIGHBOUR: 'it returns false'. Refute it at one input. -/
def fnPartsAtWrong : ChangeSpec := { name := "fnPartsAt", fn := fun _ => fun
  | [d] => { results := [.lit (.bool false)], args := [d] }
  | _ => none }
def FnPartsAtWrongFalsely : Prop := fnPartsAtRow.holds Try.pinned (OpenSpec.ofChange fnPartsAtWrong)

/-- 'laws.FnExactPartsOfFrobenius': WHATEVER THE INPUT: true; the input reads as it did. -/
def fnExactPartsOfFrobeniusSpec : ChangeSpec := { name := "fnExactPartsOfFrobenius", fn := fun _ => fun
  | [d1, d2] => { results := [.lit (.bool true)], args := [d1, d2] }
  | _ => none }
def fnExactPartsOfFrobeniusRow : OpenClaim := { program := "ytdembcibnngmhaa", sum := "172214f04caefd12d161c3795ab45aa5f902eefca7206e1835c52de04f1807c9", func := "loop.example/numberparts/laws.FnExactPartsOfFrobenius", spec := "fnExactPartsOfFrobenius", apart := false }
def FnExactPartsOfFrobeniusSaid : Prop := fnExactPartsOfFrobeniusRow.holds Try.pinned (OpenSpec.ofChange fnExactPartsOfFrobeniusSpec)

/-- ITS FALSE NEIGHBOUR: 'it returns false'. Refute it at one input. -/
def fnExactPartsOfFrobeniusWrong : ChangeSpec := { name := "fnExactPartsOfFrobenius", fn := fun _ => fun
  | [d1, d2] => { results := [.lit (.bool false)], args := [d1, d2] }
  | _ => none }
def FnExactPartsOfFrobeniusWrongFalsely : Prop := fnExactPartsOfFrobeniusRow.holds Try.pinned (OpenSpec.ofChange fnExactPartsOfFrobeniusWrong)

/-- 'laws.FnPartsOfFrobenius': WHATEVER THE INPUT: true; the input reads as it did. -/
def fnPartsOfFrobeniusSpec : ChangeSpec := { name := "fnPartsOfFrobenius", fn := fun _ => fun
  | [d] => { results := [.lit (.bool true)], args := [d] }
  | _ => none }
def fnPartsOfFrobeniusRow : OpenClaim := { program := "ytdembcibnngmhaa", sum := "172214f04caefd12d161c3795ab45aa5f902eefca7206e1835c52de04f1807c9", func := "loop.example/numberparts/laws.FnPartsOfFrobenius", spec := "fnPartsOfFrobenius", apart := false }
def FnPartsOfFrobeniusSaid : Prop := fnPartsOfFrobeniusRow.holds Try.pinned (OpenSpec.ofChange fnPartsOfFrobeniusSpec)

/-- ITS FALSE NEIGHBOUR: 'it returns false'. Refute it at one input. -/
def fnPartsOfFrobeniusWrong : ChangeSpec := { name := "fnPartsOfFrobenius", fn := fun _ => fun
  | [d] => { results := [.lit (.bool false)], args := [d] }
  | _ => none }
def FnPartsOfFrobeniusWrongFalsely : Prop := fnPartsOfFrobeniusRow.holds Try.pinned (OpenSpec.ofChange fnPartsOfFrobeniusWrong)

/-- 'laws.FnExactCountIn': WHATEVER THE INPUT: true; the input reads as it did. -/
def fnExactCountInSpec : ChangeSpec := { name := "fnExactCountIn", fn := fun _ => fun
  | [d1, d2] => { results := [.lit (.bool true)], args := [d1, d2] }
  | _ => none }
def fnExactCountInRow : OpenClaim := { program := "ytdembcibnngmhaa", sum := "172214f04caefd12d161c3795ab45aa5f902eefca7206e1835c52de04f1807c9", func := "loop.example/numberparts/laws.FnExactCountIn", spec := "fnExactCountIn", unfollowed := true, recurses := true, apart := false }
def FnExactCountInSaid : Prop := fnExactCountInRow.holds Try.pinned (OpenSpec.ofChange fnExactCountInSpec)

/-- ITS FALSE NEIGHBOUR: 'it returns false'. Refute it at one input. -/
def fnExactCountInWrong : ChangeSpec := { name := "fnExactCountIn", fn := fun _ => fun
  | [d1, d2] => { results := [.lit (.bool false)], args := [d1, d2] }
  | _ => none }
def FnExactCountInWrongFalsely : Prop := fnExactCountInRow.holds Try.pinned (OpenSpec.ofChange fnExactCountInWrong)

/-- 'laws.FnExactCountOnce': WHATEVER THE INPUT: true; the input reads as it did. -/
def fnExactCountOnceSpec : ChangeSpec := { name := "fnExactCountOnce", fn := fun _ => fun
  | [d1, d2] => { results := [.lit (.bool true)], args := [d1, d2] }
  | _ => none }
def fnExactCountOnceRow : OpenClaim := { program := "ytdembcibnngmhaa", sum := "172214f04caefd12d161c3795ab45aa5f902eefca7206e1835c52de04f1807c9", func := "loop.example/numberparts/laws.FnExactCountOnce", spec := "fnExactCountOnce", unfollowed := true, recurses := true, apart := false }
def FnExactCountOnceSaid : Prop := fnExactCountOnceRow.holds Try.pinned (OpenSpec.ofChange fnExactCountOnceSpec)

/-- ITS FALSE NEIGHBOUR: 'it returns false'. Refute it at one input. -/
def fnExactCountOnceWrong : ChangeSpec := { name := "fnExactCountOnce", fn := fun _ => fun
  | [d1, d2] => { results := [.lit (.bool false)], args := [d1, d2] }
  | _ => none }
def FnExactCountOnceWrongFalsely : Prop := fnExactCountOnceRow.holds Try.pinned (OpenSpec.ofChange fnExactCountOnceWrong)

/-- 'laws.FnCountIn': WHATEVER THE INPUT: true; the input reads as it did. -/
def fnCountInSpec : ChangeSpec := { name := "fnCountIn", fn := fun _ => fun
  | [d] => { results := [.lit (.bool true)], args := [d] }
  | _ => none }
def fnCountInRow : OpenClaim := { program := "ytdembcibnngmhaa", sum := "172214f04caefd12d161c3795ab45aa5f902eefca7206e1835c52de04f1807c9", func := "loop.example/numberparts/laws.FnCountIn", spec := "fnCountIn", unfollowed := true, recurses := true, apart := false }
def FnCountInSaid : Prop := fnCountInRow.holds Try.pinned (OpenSpec.ofChange fnCountInSpec)

/-- ITS FALSE NEIGHBOUR: 'it returns false'. Refute it at one input. -/
def fnCountInWrong : ChangeSpec := { name := "fnCountIn", fn := fun _ => fun
  | [d] => { results := [.lit (.bool false)], args := [d] }
  | _ => none }
def FnCountInWrongFalsely : Prop := fnCountInRow.holds Try.pinned (OpenSpec.ofChange fnCountInWrong)

/-- 'laws.FnCountOnce': WHATEVER THE INPUT: true; the input reads as it did. -/
def fnCountOnceSpec : ChangeSpec := { name := "fnCountOnce", fn := fun _ => fun
  | [d] => { results := [.lit (.bool true)], args := [d] }
  | _ => none }
def fnCountOnceRow : OpenClaim := { program := "ytdembcibnngmhaa", sum := "172214f04caefd12d161c3795ab45aa5f902eefca7206e1835c52de04f1807c9", func := "loop.example/numberparts/laws.FnCountOnce", spec := "fnCountOnce", unfollowed := true, recurses := true, apart := false }
def FnCountOnceSaid : Prop := fnCountOnceRow.holds Try.pinned (OpenSpec.ofChange fnCountOnceSpec)

/-- ITS FALSE NEIGHBOUR: 'it returns false'. Refute it at one input. -/
def fnCountOnceWrong : ChangeSpec := { name := "fnCountOnce", fn := fun _ => fun
  | [d] => { results := [.lit (.bool false)], args := [d] }
  | _ => none }
def FnCountOnceWrongFalsely : Prop := fnCountOnceRow.holds Try.pinned (OpenSpec.ofChange fnCountOnceWrong)

/- THE SECOND FORM. 'bulk': how many values and letters a reading holds, each counted each time it is reached (what is shared counts as often as it is met; a slice's spare places count too). A statement '..UptoSaid' is the law's where the arguments, and the package variables that the reading takes, are together of bulk at most 1048576: NARROWER than '..Said'. Prove '..Said' where nothing that the law and all that it calls make is longer than what came in: it says more and counts as full. Else prove '..UptoSaid'. A law counts once. -/
mutual
def uptoBulk {H : Type} : DataW H → Nat
  | .lit (.string bytes) => bytes.length + 1
  | .lit _ => 1
  | .nil => 1
  | .ptr d => uptoBulk d + 1
  | .slice elems spare => uptoBulkAll elems + uptoBulkAll spare + 1
  | .agg parts => uptoBulkAll parts + 1
  | .iface _ d => uptoBulk d + 1
  | .map entries => uptoBulkEntries entries + 1
  | .held _ => 1
def uptoBulkAll {H : Type} : List (DataW H) → Nat
  | [] => 0
  | d :: r => uptoBulk d + uptoBulkAll r
def uptoBulkEntries {H : Type} : List (Lit × DataW H) → Nat
  | [] => 0
  | x :: r => uptoBulkEntry x + uptoBulkEntries r
def uptoBulkEntry {H : Type} : Lit × DataW H → Nat
  | (.string bytes, d) => bytes.length + uptoBulk d + 1
  | (_, d) => uptoBulk d + 1
 end
def uptoSmall : (H : Type) → List (DataW H) → Bool := fun _ ds => decide (uptoBulkAll ds ≤ 1048576)
def OpenSpec.upto (s : _root_.Go.ChangeSpec) : _root_.Go.OpenSpec := { _root_.Go.OpenSpec.ofChange s with cond := some uptoSmall }

/-- 'laws.FnExactPlaceOf', WHERE WHAT IT READS IS OF BULK AT MOST 1048576: true; the input reads as it did. -/
def fnExactPlaceOfUptoRow : OpenClaim := { program := "ytdembcibnngmhaa", sum := "172214f04caefd12d161c3795ab45aa5f902eefca7206e1835c52de04f1807c9", func := "loop.example/numberparts/laws.FnExactPlaceOf", spec := "fnExactPlaceOf", recurses := true, apart := false, narrowed := true }
def FnExactPlaceOfUptoSaid : Prop := fnExactPlaceOfUptoRow.holds Try.pinned (OpenSpec.upto fnExactPlaceOfSpec)

/-- 'laws.FnPlaceOf', WHERE WHAT IT READS IS OF BULK AT MOST 1048576: true; the input reads as it did. -/
def fnPlaceOfUptoRow : OpenClaim := { program := "ytdembcibnngmhaa", sum := "172214f04caefd12d161c3795ab45aa5f902eefca7206e1835c52de04f1807c9", func := "loop.example/numberparts/laws.FnPlaceOf", spec := "fnPlaceOf", recurses := true, apart := false, narrowed := true }
def FnPlaceOfUptoSaid : Prop := fnPlaceOfUptoRow.holds Try.pinned (OpenSpec.upto fnPlaceOfSpec)

/-- 'laws.FnExactPartsAt', WHERE WHAT IT READS IS OF BULK AT MOST 1048576: true; the input reads as it did. -/
def fnExactPartsAtUptoRow : OpenClaim := { program := "ytdembcibnngmhaa", sum := "172214f04caefd12d161c3795ab45aa5f902eefca7206e1835c52de04f1807c9", func := "loop.example/numberparts/laws.FnExactPartsAt", spec := "fnExactPartsAt", recurses := true, apart := false, narrowed := true }
def FnExactPartsAtUptoSaid : Prop := fnExactPartsAtUptoRow.holds Try.pinned (OpenSpec.upto fnExactPartsAtSpec)

/-- 'laws.FnPartsAt', WHERE WHAT IT READS IS OF BULK AT MOST 1048576: true; the input reads as it did. -/
def fnPartsAtUptoRow : OpenClaim := { program := "ytdembcibnngmhaa", sum := "172214f04caefd12d161c3795ab45aa5f902eefca7206e1835c52de04f1807c9", func := "loop.example/numberparts/laws.FnPartsAt", spec := "fnPartsAt", recurses := true, apart := false, narrowed := true }
def FnPartsAtUptoSaid : Prop := fnPartsAtUptoRow.holds Try.pinned (OpenSpec.upto fnPartsAtSpec)

/-- 'laws.FnExactPartsOfFrobenius', WHERE WHAT IT READS IS OF BULK AT MOST 1048576: true; the input reads as it did. -/
def fnExactPartsOfFrobeniusUptoRow : OpenClaim := { program := "ytdembcibnngmhaa", sum := "172214f04caefd12d161c3795ab45aa5f902eefca7206e1835c52de04f1807c9", func := "loop.example/numberparts/laws.FnExactPartsOfFrobenius", spec := "fnExactPartsOfFrobenius", apart := false, narrowed := true }
def FnExactPartsOfFrobeniusUptoSaid : Prop := fnExactPartsOfFrobeniusUptoRow.holds Try.pinned (OpenSpec.upto fnExactPartsOfFrobeniusSpec)

/-- 'laws.FnPartsOfFrobenius', WHERE WHAT IT READS IS OF BULK AT MOST 1048576: true; the input reads as it did. -/
def fnPartsOfFrobeniusUptoRow : OpenClaim := { program := "ytdembcibnngmhaa", sum := "172214f04caefd12d161c3795ab45aa5f902eefca7206e1835c52de04f1807c9", func := "loop.example/numberparts/laws.FnPartsOfFrobenius", spec := "fnPartsOfFrobenius", apart := false, narrowed := true }
def FnPartsOfFrobeniusUptoSaid : Prop := fnPartsOfFrobeniusUptoRow.holds Try.pinned (OpenSpec.upto fnPartsOfFrobeniusSpec)

/-- 'laws.FnExactCountIn', WHERE WHAT IT READS IS OF BULK AT MOST 1048576: true; the input reads as it did. -/
def fnExactCountInUptoRow : OpenClaim := { program := "ytdembcibnngmhaa", sum := "172214f04caefd12d161c3795ab45aa5f902eefca7206e1835c52de04f1807c9", func := "loop.example/numberparts/laws.FnExactCountIn", spec := "fnExactCountIn", unfollowed := true, recurses := true, apart := false, narrowed := true }
def FnExactCountInUptoSaid : Prop := fnExactCountInUptoRow.holds Try.pinned (OpenSpec.upto fnExactCountInSpec)

/-- 'laws.FnExactCountOnce', WHERE WHAT IT READS IS OF BULK AT MOST 1048576: true; the input reads as it did. -/
def fnExactCountOnceUptoRow : OpenClaim := { program := "ytdembcibnngmhaa", sum := "172214f04caefd12d161c3795ab45aa5f902eefca7206e1835c52de04f1807c9", func := "loop.example/numberparts/laws.FnExactCountOnce", spec := "fnExactCountOnce", unfollowed := true, recurses := true, apart := false, narrowed := true }
def FnExactCountOnceUptoSaid : Prop := fnExactCountOnceUptoRow.holds Try.pinned (OpenSpec.upto fnExactCountOnceSpec)

/-- 'laws.FnCountIn', WHERE WHAT IT READS IS OF BULK AT MOST 1048576: true; the input reads as it did. -/
def fnCountInUptoRow : OpenClaim := { program := "ytdembcibnngmhaa", sum := "172214f04caefd12d161c3795ab45aa5f902eefca7206e1835c52de04f1807c9", func := "loop.example/numberparts/laws.FnCountIn", spec := "fnCountIn", unfollowed := true, recurses := true, apart := false, narrowed := true }
def FnCountInUptoSaid : Prop := fnCountInUptoRow.holds Try.pinned (OpenSpec.upto fnCountInSpec)

/-- 'laws.FnCountOnce', WHERE WHAT IT READS IS OF BULK AT MOST 1048576: true; the input reads as it did. -/
def fnCountOnceUptoRow : OpenClaim := { program := "ytdembcibnngmhaa", sum := "172214f04caefd12d161c3795ab45aa5f902eefca7206e1835c52de04f1807c9", func := "loop.example/numberparts/laws.FnCountOnce", spec := "fnCountOnce", unfollowed := true, recurses := true, apart := false, narrowed := true }
def FnCountOnceUptoSaid : Prop := fnCountOnceUptoRow.holds Try.pinned (OpenSpec.upto fnCountOnceSpec)

end Rows
end Go.Proofs.Ytdembcibnngmhaa
