/-
  No cell of these rows narrows 'for every input' (looked for: loops, veiled, ifaces, maps, wideKeys, modest, calm, conditions, laid).
  DERIVED. THE GIVEN ROWS OF THIS SEAT. 6 by the template 'for every input the law returns true; each argument reads behind the call as it read before'; 0 by the template 'total and deterministic' (their statements: YtgkghebjaedjmaaTotals.lean).
  GIVEN WITH THE SEED: the statements are not yours to turn. If you find one false, say at which input.
  Laid BY PROGRAM, IN A SANDBOX (cutbox-rows.mjs): the forced cells as the released guide's own fill.sh prints them over the translation 29dbb7fee9384cfd… (all of the seat's roots in one cut). By AI agents, Wed Nov 11 2026. No macro, syntax, notation, axiom, sorry.
-/
import Derived.Test.YtgkghebjaedjmaaChecked
import GoSem.Claim
import GoSem.ClaimJoined
import GoSem.ClaimMapViews
import Derived.JoinedTies
import Derived.KernelRfl
namespace Go.Proofs.Ytgkghebjaedjmaa
/- THE CELL 'sum', in the pinned program and in every row, IS THE sha256 OF THE DUMP (.gsa) THAT YtgkghebjaedjmaaProg.lean LOADS. Nothing in Lean hashes anything: it is a label: what it is worth is what the hold of that sum in a sandbox is worth. -/
noncomputable def Try.pinned : Pinned := { name := "ytgkghebjaedjmaa", sum := "29dbb7fee9384cfd95a0f13e41f51a4014f982cdf9493ad592b8aadf6173618b", checked := Try.checked }
namespace Rows
def none {H : Type} : Left H := { results := [], args := [] }

/-- 'laws.FnExactAllMarked': WHATEVER THE INPUT: true; the input reads as it did. -/
def fnExactAllMarkedSpec : ChangeSpec := { name := "fnExactAllMarked", fn := fun _ => fun
  | [d] => { results := [.lit (.bool true)], args := [d] }
  | _ => none }
def fnExactAllMarkedRow : OpenClaim := { program := "ytgkghebjaedjmaa", sum := "29dbb7fee9384cfd95a0f13e41f51a4014f982cdf9493ad592b8aadf6173618b", func := "loop.example/numberparts/laws.FnExactAllMarked", spec := "fnExactAllMarked", unfollowed := true, recurses := true, apart := false }
def FnExactAllMarkedSaid : Prop := fnExactAllMarkedRow.holds Try.pinned (OpenSpec.ofChange fnExactAllMarkedSpec)

/-- ITS FALSE NEIGHBOUR: 'it returns false'. Refute it at one input. -/
def fnExactAllMarkedWrong : ChangeSpec := { name := "fnExactAllMarked", fn := fun _ => fun
  | [d] => { results := [.lit (.bool false)], args := [d] }
  | _ => none }
def FnExactAllMarkedWrongFalsely : Prop := fnExactAllMarkedRow.holds Try.pinned (OpenSpec.ofChange fnExactAllMarkedWrong)

/-- 'laws.FnAllMarked': WHATEVER THE INPUT: true; the input reads as it did. -/
def fnAllMarkedSpec : ChangeSpec := { name := "fnAllMarked", fn := fun _ => fun
  | [d] => { results := [.lit (.bool true)], args := [d] }
  | _ => none }
def fnAllMarkedRow : OpenClaim := { program := "ytgkghebjaedjmaa", sum := "29dbb7fee9384cfd95a0f13e41f51a4014f982cdf9493ad592b8aadf6173618b", func := "loop.example/numberparts/laws.FnAllMarked", spec := "fnAllMarked", unfollowed := true, recurses := true, apart := false }
def FnAllMarkedSaid : Prop := fnAllMarkedRow.holds Try.pinned (OpenSpec.ofChange fnAllMarkedSpec)

/-- ITS FALSE NEIGHBOUR: 'it returns false'. Refute it at one input. -/
def fnAllMarkedWrong : ChangeSpec := { name := "fnAllMarked", fn := fun _ => fun
  | [d] => { results := [.lit (.bool false)], args := [d] }
  | _ => none }
def FnAllMarkedWrongFalsely : Prop := fnAllMarkedRow.holds Try.pinned (OpenSpec.ofChange fnAllMarkedWrong)

/-- 'laws.FnExactAllPiles': WHATEVER THE INPUT: true; the input reads as it did. -/
def fnExactAllPilesSpec : ChangeSpec := { name := "fnExactAllPiles", fn := fun _ => fun
  | [d] => { results := [.lit (.bool true)], args := [d] }
  | _ => none }
def fnExactAllPilesRow : OpenClaim := { program := "ytgkghebjaedjmaa", sum := "29dbb7fee9384cfd95a0f13e41f51a4014f982cdf9493ad592b8aadf6173618b", func := "loop.example/numberparts/laws.FnExactAllPiles", spec := "fnExactAllPiles", unfollowed := true, recurses := true, apart := false }
def FnExactAllPilesSaid : Prop := fnExactAllPilesRow.holds Try.pinned (OpenSpec.ofChange fnExactAllPilesSpec)

/-- ITS FALSE NEIGHBOUR: 'it returns false'. Refute it at one input. -/
def fnExactAllPilesWrong : ChangeSpec := { name := "fnExactAllPiles", fn := fun _ => fun
  | [d] => { results := [.lit (.bool false)], args := [d] }
  | _ => none }
def FnExactAllPilesWrongFalsely : Prop := fnExactAllPilesRow.holds Try.pinned (OpenSpec.ofChange fnExactAllPilesWrong)

/-- 'laws.FnAllPiles': WHATEVER THE INPUT: true; the input reads as it did. -/
def fnAllPilesSpec : ChangeSpec := { name := "fnAllPiles", fn := fun _ => fun
  | [d] => { results := [.lit (.bool true)], args := [d] }
  | _ => none }
def fnAllPilesRow : OpenClaim := { program := "ytgkghebjaedjmaa", sum := "29dbb7fee9384cfd95a0f13e41f51a4014f982cdf9493ad592b8aadf6173618b", func := "loop.example/numberparts/laws.FnAllPiles", spec := "fnAllPiles", unfollowed := true, recurses := true, apart := false }
def FnAllPilesSaid : Prop := fnAllPilesRow.holds Try.pinned (OpenSpec.ofChange fnAllPilesSpec)

/-- ITS FALSE NEIGHBOUR: 'it returns false'. Refute it at one input. -/
def fnAllPilesWrong : ChangeSpec := { name := "fnAllPiles", fn := fun _ => fun
  | [d] => { results := [.lit (.bool false)], args := [d] }
  | _ => none }
def FnAllPilesWrongFalsely : Prop := fnAllPilesRow.holds Try.pinned (OpenSpec.ofChange fnAllPilesWrong)

/-- 'laws.FnBoxPiles': WHATEVER THE INPUT: true; the input reads as it did. -/
def fnBoxPilesSpec : ChangeSpec := { name := "fnBoxPiles", fn := fun _ => fun
  | [d] => { results := [.lit (.bool true)], args := [d] }
  | _ => none }
def fnBoxPilesRow : OpenClaim := { program := "ytgkghebjaedjmaa", sum := "29dbb7fee9384cfd95a0f13e41f51a4014f982cdf9493ad592b8aadf6173618b", func := "loop.example/numberparts/laws.FnBoxPiles", spec := "fnBoxPiles", unfollowed := true, recurses := true, apart := false }
def FnBoxPilesSaid : Prop := fnBoxPilesRow.holds Try.pinned (OpenSpec.ofChange fnBoxPilesSpec)

/-- ITS FALSE NEIGHBOUR: 'it returns false'. Refute it at one input. -/
def fnBoxPilesWrong : ChangeSpec := { name := "fnBoxPiles", fn := fun _ => fun
  | [d] => { results := [.lit (.bool false)], args := [d] }
  | _ => none }
def FnBoxPilesWrongFalsely : Prop := fnBoxPilesRow.holds Try.pinned (OpenSpec.ofChange fnBoxPilesWrong)

/-- 'laws.FnExactPathOf': WHATEVER THE INPUT: true; the input reads as it did. -/
def fnExactPathOfSpec : ChangeSpec := { name := "fnExactPathOf", fn := fun _ => fun
  | [d1, d2, d3] => { results := [.lit (.bool true)], args := [d1, d2, d3] }
  | _ => none }
def fnExactPathOfRow : OpenClaim := { program := "ytgkghebjaedjmaa", sum := "29dbb7fee9384cfd95a0f13e41f51a4014f982cdf9493ad592b8aadf6173618b", func := "loop.example/numberparts/laws.FnExactPathOf", spec := "fnExactPathOf", inPlace := ["internal/abi.NoEscape", "internal/bytealg.MakeNoZero"], apart := false }
def FnExactPathOfSaid : Prop := fnExactPathOfRow.holds Try.pinned (OpenSpec.ofChange fnExactPathOfSpec)

/-- ITS FALSE NEIGHBOUR: 'it returns false'. Refute it at one input. -/
def fnExactPathOfWrong : ChangeSpec := { name := "fnExactPathOf", fn := fun _ => fun
  | [d1, d2, d3] => { results := [.lit (.bool false)], args := [d1, d2, d3] }
  | _ => none }
def FnExactPathOfWrongFalsely : Prop := fnExactPathOfRow.holds Try.pinned (OpenSpec.ofChange fnExactPathOfWrong)

/- THE SECOND FORM. 'bulk': how many values and letters a reading holds, each counted each time it is reached (what is shared counts as often as it is met; a slice's spare places count too). A statement '..UptoSaid' is the law's where the arguments, and the package variables that the reading takes, are together of bulk at most 1048576: NARROWER than '..Said'. Prove '..Said' where nothing that the law and all that it calls make is longer than what came in: it says more and counts as full. Else prove '..UptoSaid'. A law counts once. -/
mutual
def uptoBulk {H : Type} : DataW H → Nat
  | .lit (.string bytes) => bytes.length + 1
  | .lit _ => 1
  | .nil => 1
  | .ptr d => uptoBulk d + 1
  | .slice elems spare => uptoBulkAll elems + uptoBulkAll spare + 1
  | .agg parts => uptoBulkAll parts + 1
  | .iface _ d => uptoBulk d + 1
  | .map entries => uptoBulkEntries entries + 1
  | .held _ => 1
def uptoBulkAll {H : Type} : List (DataW H) → Nat
  | [] => 0
  | d :: r => uptoBulk d + uptoBulkAll r
def uptoBulkEntries {H : Type} : List (Lit × DataW H) → Nat
  | [] => 0
  | x :: r => uptoBulkEntry x + uptoBulkEntries r
def uptoBulkEntry {H : Type} : Lit × DataW H → Nat
  | (.string bytes, d) => bytes.length + uptoBulk d + 1
  | (_, d) => uptoBulk d + 1
 end
def uptoSmall : (H : Type) → List (DataW H) → Bool := fun _ ds => decide (uptoBulkAll ds ≤ 1048576)
def OpenSpec.upto (s : _root_.Go.ChangeSpec) : _root_.Go.OpenSpec := { _root_.Go.OpenSpec.ofChange s with cond := some uptoSmall }

/-- 'laws.FnExactAllMarked', WHERE WHAT IT READS IS OF BULK AT MOST 1048576: true; the input reads as it did. -/
def fnExactAllMarkedUptoRow : OpenClaim := { program := "ytgkghebjaedjmaa", sum := "29dbb7fee9384cfd95a0f13e41f51a4014f982cdf9493ad592b8aadf6173618b", func := "loop.example/numberparts/laws.FnExactAllMarked", spec := "fnExactAllMarked", unfollowed := true, recurses := true, apart := false, narrowed := true }
def FnExactAllMarkedUptoSaid : Prop := fnExactAllMarkedUptoRow.holds Try.pinned (OpenSpec.upto fnExactAllMarkedSpec)

/-- 'laws.FnAllMarked', WHERE WHAT IT READS IS OF BULK AT MOST 1048576: true; the input reads as it did. -/
def fnAllMarkedUptoRow : OpenClaim := { program := "ytgkghebjaedjmaa", sum := "29dbb7fee9384cfd95a0f13e41f51a4014f982cdf9493ad592b8aadf6173618b", func := "loop.example/numberparts/laws.FnAllMarked", spec := "fnAllMarked", unfollowed := true, recurses := true, apart := false, narrowed := true }
def FnAllMarkedUptoSaid : Prop := fnAllMarkedUptoRow.holds Try.pinned (OpenSpec.upto fnAllMarkedSpec)

/-- 'laws.FnExactAllPiles', WHERE WHAT IT READS IS OF BULK AT MOST 1048576: true; the input reads as it did. -/
def fnExactAllPilesUptoRow : OpenClaim := { program := "ytgkghebjaedjmaa", sum := "29dbb7fee9384cfd95a0f13e41f51a4014f982cdf9493ad592b8aadf6173618b", func := "loop.example/numberparts/laws.FnExactAllPiles", spec := "fnExactAllPiles", unfollowed := true, recurses := true, apart := false, narrowed := true }
def FnExactAllPilesUptoSaid : Prop := fnExactAllPilesUptoRow.holds Try.pinned (OpenSpec.upto fnExactAllPilesSpec)

/-- 'laws.FnAllPiles', WHERE WHAT IT READS IS OF BULK AT MOST 1048576: true; the input reads as it did. -/
def fnAllPilesUptoRow : OpenClaim := { program := "ytgkghebjaedjmaa", sum := "29dbb7fee9384cfd95a0f13e41f51a4014f982cdf9493ad592b8aadf6173618b", func := "loop.example/numberparts/laws.FnAllPiles", spec := "fnAllPiles", unfollowed := true, recurses := true, apart := false, narrowed := true }
def FnAllPilesUptoSaid : Prop := fnAllPilesUptoRow.holds Try.pinned (OpenSpec.upto fnAllPilesSpec)

/-- 'laws.FnBoxPiles', WHERE WHAT IT READS IS OF BULK AT MOST 1048576: true; the input reads as it did. -/
def fnBoxPilesUptoRow : OpenClaim := { program := "ytgkghebjaedjmaa", sum := "29dbb7fee9384cfd95a0f13e41f51a4014f982cdf9493ad592b8aadf6173618b", func := "loop.example/numberparts/laws.FnBoxPiles", spec := "fnBoxPiles", unfollowed := true, recurses := true, apart := false, narrowed := true }
def FnBoxPilesUptoSaid : Prop := fnBoxPilesUptoRow.holds Try.pinned (OpenSpec.upto fnBoxPilesSpec)

/-- 'laws.FnExactPathOf', WHERE WHAT IT READS IS OF BULK AT MOST 1048576: true; the input reads as it did. -/
def fnExactPathOfUptoRow : OpenClaim := { program := "ytgkghebjaedjmaa", sum := "29dbb7fee9384cfd95a0f13e41f51a4014f982cdf9493ad592b8aadf6173618b", func := "loop.example/numberparts/laws.FnExactPathOf", spec := "fnExactPathOf", inPlace := ["internal/abi.NoEscape", "internal/bytealg.MakeNoZero"], apart := false, narrowed := true }
def FnExactPathOfUptoSaid : Prop := fnExactPathOfUptoRow.holds Try.pinned (OpenSpec.upto fnExactPathOfSpec)

end Rows
end Go.Proofs.Ytgkghebjaedjmaa
