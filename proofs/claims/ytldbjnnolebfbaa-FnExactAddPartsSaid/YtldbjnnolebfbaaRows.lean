/-
  No cell of these rows narrows 'for every input' (looked for: loops, veiled, ifaces, maps, wideKeys, modest, calm, conditions, laid).
  DERIVED. THE GIVEN ROWS OF THIS SEAT. 6 by the template 'for every input the law returns true; each argument reads behind the call as it read before'; 0 by the template 'total and deterministic' (their statements: YtldbjnnolebfbaaTotals.lean).
  GIVEN WITH THE SEED: the statements are not yours to turn. If you find one false, say at which input.
  Laid BY PROGRAM, IN A SANDBOX (cutbox-rows.mjs): the forced cells as the released guide's own fill.sh prints them over the translation 7868a0fa6a7cfe4a… (all of the seat's roots in one cut). By AI agents, Wed Nov 11 2026. No macro, syntax, notation, axiom, sorry.
-/
import Derived.Test.YtldbjnnolebfbaaChecked
import GoSem.Claim
import GoSem.ClaimJoined
import GoSem.ClaimMapViews
import Derived.JoinedTies
import Derived.KernelRfl
namespace Go.Proofs.Ytldbjnnolebfbaa
/- THE CELL 'sum', in the pinned program and in every row, IS THE sha256 OF THE DUMP (.gsa) THAT YtldbjnnolebfbaaProg.lean LOADS. Nothing in Lean hashes anything: it is a label: what it is worth is what the hold of that sum in a sandbox is worth. -/
noncomputable def Try.pinned : Pinned := { name := "ytldbjnnolebfbaa", sum := "7868a0fa6a7cfe4afc64e0b276a3fa7207f894e629d78181a87729ad7317bb42", checked := Try.checked }
namespace Rows
def none {H : Type} : Left H := { results := [], args := [] }

/-- 'laws.FnExactUniteParts': WHATEVER THE INPUT: true; the input reads as it did. -/
def fnExactUnitePartsSpec : ChangeSpec := { name := "fnExactUniteParts", fn := fun _ => fun
  | [d1, d2] => { results := [.lit (.bool true)], args := [d1, d2] }
  | _ => none }
def fnExactUnitePartsRow : OpenClaim := { program := "ytldbjnnolebfbaa", sum := "7868a0fa6a7cfe4afc64e0b276a3fa7207f894e629d78181a87729ad7317bb42", func := "loop.example/numberparts/laws.FnExactUniteParts", spec := "fnExactUniteParts", apart := false }
def FnExactUnitePartsSaid : Prop := fnExactUnitePartsRow.holds Try.pinned (OpenSpec.ofChange fnExactUnitePartsSpec)

/-- ITS FALSE NEIGHBOUR: 'it returns false'. Refute it at one input. -/
def fnExactUnitePartsWrong : ChangeSpec := { name := "fnExactUniteParts", fn := fun _ => fun
  | [d1, d2] => { results := [.lit (.bool false)], args := [d1, d2] }
  | _ => none }
def FnExactUnitePartsWrongFalsely : Prop := fnExactUnitePartsRow.holds Try.pinned (OpenSpec.ofChange fnExactUnitePartsWrong)

/-- 'laws.FnUniteParts': WHATEVER THE INPUT: true; the input reads as it did. -/
def fnUnitePartsSpec : ChangeSpec := { name := "fnUniteParts", fn := fun _ => fun
  | [d] => { results := [.lit (.bool true)], args := [d] }
  | _ => none }
def fnUnitePartsRow : OpenClaim := { program := "ytldbjnnolebfbaa", sum := "7868a0fa6a7cfe4afc64e0b276a3fa7207f894e629d78181a87729ad7317bb42", func := "loop.example/numberparts/laws.FnUniteParts", spec := "fnUniteParts", apart := false }
def FnUnitePartsSaid : Prop := fnUnitePartsRow.holds Try.pinned (OpenSpec.ofChange fnUnitePartsSpec)

/-- ITS FALSE NEIGHBOUR: 'it returns false'. Refute it at one input. -/
def fnUnitePartsWrong : ChangeSpec := { name := "fnUniteParts", fn := fun _ => fun
  | [d] => { results := [.lit (.bool false)], args := [d] }
  | _ => none }
def FnUnitePartsWrongFalsely : Prop := fnUnitePartsRow.holds Try.pinned (OpenSpec.ofChange fnUnitePartsWrong)

/-- 'laws.FnExactAddParts': WHATEVER THE INPUT: true; the input reads as it did. -/
def fnExactAddPartsSpec : ChangeSpec := { name := "fnExactAddParts", fn := fun _ => fun
  | [d1, d2] => { results := [.lit (.bool true)], args := [d1, d2] }
  | _ => none }
def fnExactAddPartsRow : OpenClaim := { program := "ytldbjnnolebfbaa", sum := "7868a0fa6a7cfe4afc64e0b276a3fa7207f894e629d78181a87729ad7317bb42", func := "loop.example/numberparts/laws.FnExactAddParts", spec := "fnExactAddParts", apart := false }
def FnExactAddPartsSaid : Prop := fnExactAddPartsRow.holds Try.pinned (OpenSpec.ofChange fnExactAddPartsSpec)

/-- ITS FALSE NEIGHBOUR: 'it returns false'. Refute it at one input. -/
def fnExactAddPartsWrong : ChangeSpec := { name := "fnExactAddParts", fn := fun _ => fun
  | [d1, d2] => { results := [.lit (.bool false)], args := [d1, d2] }
  | _ => none }
def FnExactAddPartsWrongFalsely : Prop := fnExactAddPartsRow.holds Try.pinned (OpenSpec.ofChange fnExactAddPartsWrong)

/-- 'laws.FnAddParts': WHATEVER THE INPUT: true; the input reads as it did. -/
def fnAddPartsSpec : ChangeSpec := { name := "fnAddParts", fn := fun _ => fun
  | [d] => { results := [.lit (.bool true)], args := [d] }
  | _ => none }
def fnAddPartsRow : OpenClaim := { program := "ytldbjnnolebfbaa", sum := "7868a0fa6a7cfe4afc64e0b276a3fa7207f894e629d78181a87729ad7317bb42", func := "loop.example/numberparts/laws.FnAddParts", spec := "fnAddParts", apart := false }
def FnAddPartsSaid : Prop := fnAddPartsRow.holds Try.pinned (OpenSpec.ofChange fnAddPartsSpec)

/-- ITS FALSE NEIGHBOUR: 'it returns false'. Refute it at one input. -/
def fnAddPartsWrong : ChangeSpec := { name := "fnAddParts", fn := fun _ => fun
  | [d] => { results := [.lit (.bool false)], args := [d] }
  | _ => none }
def FnAddPartsWrongFalsely : Prop := fnAddPartsRow.holds Try.pinned (OpenSpec.ofChange fnAddPartsWrong)

/-- 'laws.FnExactSquarePut': WHATEVER THE INPUT: true; the input reads as it did. -/
def fnExactSquarePutSpec : ChangeSpec := { name := "fnExactSquarePut", fn := fun _ => fun
  | [d1, d2, d3] => { results := [.lit (.bool true)], args := [d1, d2, d3] }
  | _ => none }
def fnExactSquarePutRow : OpenClaim := { program := "ytldbjnnolebfbaa", sum := "7868a0fa6a7cfe4afc64e0b276a3fa7207f894e629d78181a87729ad7317bb42", func := "loop.example/numberparts/laws.FnExactSquarePut", spec := "fnExactSquarePut", apart := false }
def FnExactSquarePutSaid : Prop := fnExactSquarePutRow.holds Try.pinned (OpenSpec.ofChange fnExactSquarePutSpec)

/-- ITS FALSE NEIGHBOUR: 'it returns false'. Refute it at one input. -/
def fnExactSquarePutWrong : ChangeSpec := { name := "fnExactSquarePut", fn := fun _ => fun
  | [d1, d2, d3] => { results := [.lit (.bool false)], args := [d1, d2, d3] }
  | _ => none }
def FnExactSquarePutWrongFalsely : Prop := fnExactSquarePutRow.holds Try.pinned (OpenSpec.ofChange fnExactSquarePutWrong)

/-- 'laws.FnSquarePut': WHATEVER THE INPUT: true; the input reads as it did. -/
def fnSquarePutSpec : ChangeSpec := { name := "fnSquarePut", fn := fun _ => fun
  | [d] => { results := [.lit (.bool true)], args := [d] }
  | _ => none }
def fnSquarePutRow : OpenClaim := { program := "ytldbjnnolebfbaa", sum := "7868a0fa6a7cfe4afc64e0b276a3fa7207f894e629d78181a87729ad7317bb42", func := "loop.example/numberparts/laws.FnSquarePut", spec := "fnSquarePut", apart := false }
def FnSquarePutSaid : Prop := fnSquarePutRow.holds Try.pinned (OpenSpec.ofChange fnSquarePutSpec)

/-- ITS FALSE NEIGHBOUR: 'it returns false'. Refute it at one input. -/
def fnSquarePutWrong : ChangeSpec := { name := "fnSquarePut", fn := fun _ => fun
  | [d] => { results := [.lit (.bool false)], args := [d] }
  | _ => none }
def FnSquarePutWrongFalsely : Prop := fnSquarePutRow.holds Try.pinned (OpenSpec.ofChange fnSquarePutWrong)

/- THE SECOND FORM. 'bulk': how many values and letters a reading holds, each counted each time it is reached (what is shared counts as often as it is met; a slice's spare places count too). A statement '..UptoSaid' is the law's where the arguments, and the package variables that the reading takes, are together of bulk at most 1048576: NARROWER than '..Said'. Prove '..Said' where nothing that the law and all that it calls make is longer than what came in: it says more and counts as full. Else prove '..UptoSaid'. A law counts once. -/
mutual
def uptoBulk {H : Type} : DataW H → Nat
  | .lit (.string bytes) => bytes.length + 1
  | .lit _ => 1
  | .nil => 1
  | .ptr d => uptoBulk d + 1
  | .slice elems spare => uptoBulkAll elems + uptoBulkAll spare + 1
  | .agg parts => uptoBulkAll parts + 1
  | .iface _ d => uptoBulk d + 1
  | .map entries => uptoBulkEntries entries + 1
  | .held _ => 1
def uptoBulkAll {H : Type} : List (DataW H) → Nat
  | [] => 0
  | d :: r => uptoBulk d + uptoBulkAll r
def uptoBulkEntries {H : Type} : List (Lit × DataW H) → Nat
  | [] => 0
  | x :: r => uptoBulkEntry x + uptoBulkEntries r
def uptoBulkEntry {H : Type} : Lit × DataW H → Nat
  | (.string bytes, d) => bytes.length + uptoBulk d + 1
  | (_, d) => uptoBulk d + 1
 end
def uptoSmall : (H : Type) → List (DataW H) → Bool := fun _ ds => decide (uptoBulkAll ds ≤ 1048576)
def OpenSpec.upto (s : _root_.Go.ChangeSpec) : _root_.Go.OpenSpec := { _root_.Go.OpenSpec.ofChange s with cond := some uptoSmall }

/-- 'laws.FnExactUniteParts', WHERE WHAT IT READS IS OF BULK AT MOST 1048576: true; the input reads as it did. -/
def fnExactUnitePartsUptoRow : OpenClaim := { program := "ytldbjnnolebfbaa", sum := "7868a0fa6a7cfe4afc64e0b276a3fa7207f894e629d78181a87729ad7317bb42", func := "loop.example/numberparts/laws.FnExactUniteParts", spec := "fnExactUniteParts", apart := false, narrowed := true }
def FnExactUnitePartsUptoSaid : Prop := fnExactUnitePartsUptoRow.holds Try.pinned (OpenSpec.upto fnExactUnitePartsSpec)

/-- 'laws.FnUniteParts', WHERE WHAT IT READS IS OF BULK AT MOST 1048576: true; the input reads as it did. -/
def fnUnitePartsUptoRow : OpenClaim := { program := "ytldbjnnolebfbaa", sum := "7868a0fa6a7cfe4afc64e0b276a3fa7207f894e629d78181a87729ad7317bb42", func := "loop.example/numberparts/laws.FnUniteParts", spec := "fnUniteParts", apart := false, narrowed := true }
def FnUnitePartsUptoSaid : Prop := fnUnitePartsUptoRow.holds Try.pinned (OpenSpec.upto fnUnitePartsSpec)

/-- 'laws.FnExactAddParts', WHERE WHAT IT READS IS OF BULK AT MOST 1048576: true; the input reads as it did. -/
def fnExactAddPartsUptoRow : OpenClaim := { program := "ytldbjnnolebfbaa", sum := "7868a0fa6a7cfe4afc64e0b276a3fa7207f894e629d78181a87729ad7317bb42", func := "loop.example/numberparts/laws.FnExactAddParts", spec := "fnExactAddParts", apart := false, narrowed := true }
def FnExactAddPartsUptoSaid : Prop := fnExactAddPartsUptoRow.holds Try.pinned (OpenSpec.upto fnExactAddPartsSpec)

/-- 'laws.FnAddParts', WHERE WHAT IT READS IS OF BULK AT MOST 1048576: true; the input reads as it did. -/
def fnAddPartsUptoRow : OpenClaim := { program := "ytldbjnnolebfbaa", sum := "7868a0fa6a7cfe4afc64e0b276a3fa7207f894e629d78181a87729ad7317bb42", func := "loop.example/numberparts/laws.FnAddParts", spec := "fnAddParts", apart := false, narrowed := true }
def FnAddPartsUptoSaid : Prop := fnAddPartsUptoRow.holds Try.pinned (OpenSpec.upto fnAddPartsSpec)

/-- 'laws.FnExactSquarePut', WHERE WHAT IT READS IS OF BULK AT MOST 1048576: true; the input reads as it did. -/
def fnExactSquarePutUptoRow : OpenClaim := { program := "ytldbjnnolebfbaa", sum := "7868a0fa6a7cfe4afc64e0b276a3fa7207f894e629d78181a87729ad7317bb42", func := "loop.example/numberparts/laws.FnExactSquarePut", spec := "fnExactSquarePut", apart := false, narrowed := true }
def FnExactSquarePutUptoSaid : Prop := fnExactSquarePutUptoRow.holds Try.pinned (OpenSpec.upto fnExactSquarePutSpec)

/-- 'laws.FnSquarePut', WHERE WHAT IT READS IS OF BULK AT MOST 1048576: true; the input reads as it did. -/
def fnSquarePutUptoRow : OpenClaim := { program := "ytldbjnnolebfbaa", sum := "7868a0fa6a7cfe4afc64e0b276a3fa7207f894e629d78181a87729ad7317bb42", func := "loop.example/numberparts/laws.FnSquarePut", spec := "fnSquarePut", apart := false, narrowed := true }
def FnSquarePutUptoSaid : Prop := fnSquarePutUptoRow.holds Try.pinned (OpenSpec.upto fnSquarePutSpec)

end Rows
end Go.Proofs.Ytldbjnnolebfbaa
