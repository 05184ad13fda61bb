/-
  NARROWER THAN 'FOR EVERY INPUT', by the rows' own cells (each row's printed sentence says how): FnExactPartnerOf: laid · FnPartnerOf: laid · FnKindCount: laid.
  DERIVED. THE GIVEN ROWS OF THIS SEAT. 3 by the template 'for every input the law returns true; each argument reads behind the call as it read before'; 0 by the template 'total and deterministic' (their statements: YtmlomapifldlpaaDoorTotals.lean).
  GIVEN WITH THE SEED: the statements are not yours to turn. If you find one false, say at which input.
  Laid BY PROGRAM, IN A SANDBOX (cutbox-rows.mjs): the forced cells as the released guide's own fill.sh prints them over the translation 3ead9a27a4175502… (all of the seat's roots in one cut). By AI agents, Wed Nov 11 2026. No macro, syntax, notation, axiom, sorry.
-/
import Derived.Test.YtmlomapifldlpaaDoorChecked
import GoSem.Claim
import GoSem.ClaimJoined
import GoSem.ClaimMapViews
import Derived.JoinedTies
import Derived.KernelRfl
namespace Go.Proofs.YtmlomapifldlpaaDoor
/- THE CELL 'sum', in the pinned program and in every row, IS THE sha256 OF THE DUMP (.gsa) THAT YtmlomapifldlpaaDoorProg.lean LOADS. Nothing in Lean hashes anything: it is a label: what it is worth is what the hold of that sum in a sandbox is worth. -/
noncomputable def Tryd.pinned : Pinned := { name := "ytmlomapifldlpaadoor", sum := "3ead9a27a4175502cf043e7ef360ecfc2b8cfe971fea6c4c68a74c7715fa524e", checked := Tryd.checked }
namespace Rows
def none {H : Type} : Left H := { results := [], args := [] }

/- WHAT THE LISTED PACKAGE-LEVEL VARIABLES READ AS WHEN THE CALL BEGINS. Each datum BY PROGRAM (the guide's laid-datum.mjs) off the statement by which the dump's own 'gosem.cut.vars' lays the variable. In a bare row this is a premise. The card (YtmlomapifldlpaaDoorCards.lean) ties it to the program's text. -/
def laid_loop_example_numberparts_impl_partners {H : Type} : DataW H := .agg [.agg [.lit (.string [111, 100, 100]), .lit (.string [100, 105, 115, 116, 105, 110, 99, 116])], .agg [.lit (.string [115, 101, 108, 102]), .lit (.string [100, 105, 115, 116, 105, 110, 99, 116, 111, 100, 100])], .agg [.lit (.string [110, 111, 116, 116, 104, 114, 101, 101]), .lit (.string [116, 119, 105, 99, 101])], .agg [.lit (.string [103, 97, 112]), .lit (.string [102, 105, 118, 101])], .agg [.lit (.string [103, 97, 112, 111, 110, 101]), .lit (.string [102, 105, 118, 101, 116, 119, 111])], .agg [.lit (.string [115, 99, 104, 117, 114]), .lit (.string [115, 105, 120])]]

/-- 'laws.FnExactPartnerOf': WHATEVER THE INPUT: true; the input reads as it did. -/
def fnExactPartnerOfSpec : ChangeSpec := { name := "fnExactPartnerOf", vars := ["loop.example/numberparts/impl.partners"], fn := fun _ => fun
  | [d, g1] => { results := [.lit (.bool true)], args := [d], vars := [g1] }
  | _ => none }
def fnExactPartnerOfRow : OpenClaim := { program := "ytmlomapifldlpaadoor", sum := "3ead9a27a4175502cf043e7ef360ecfc2b8cfe971fea6c4c68a74c7715fa524e", func := "loop.example/numberparts/laws.FnExactPartnerOf", spec := "fnExactPartnerOf", named := ["loop.example/numberparts/impl.partners"], apart := false, laid := [("loop.example/numberparts/impl.partners", laid_loop_example_numberparts_impl_partners)] }
def FnExactPartnerOfSaid : Prop := fnExactPartnerOfRow.holds Tryd.pinned (OpenSpec.ofChange fnExactPartnerOfSpec)

/-- ITS FALSE NEIGHBOUR: 'it returns false'. Refute it at one input. -/
def fnExactPartnerOfWrong : ChangeSpec := { name := "fnExactPartnerOf", vars := ["loop.example/numberparts/impl.partners"], fn := fun _ => fun
  | [d, g1] => { results := [.lit (.bool false)], args := [d], vars := [g1] }
  | _ => none }
def FnExactPartnerOfWrongFalsely : Prop := fnExactPartnerOfRow.holds Tryd.pinned (OpenSpec.ofChange fnExactPartnerOfWrong)

/-- 'laws.FnPartnerOf': WHATEVER THE INPUT: true; the input reads as it did. -/
def fnPartnerOfSpec : ChangeSpec := { name := "fnPartnerOf", vars := ["loop.example/numberparts/impl.partners"], fn := fun _ => fun
  | [d, g1] => { results := [.lit (.bool true)], args := [d], vars := [g1] }
  | _ => none }
def fnPartnerOfRow : OpenClaim := { program := "ytmlomapifldlpaadoor", sum := "3ead9a27a4175502cf043e7ef360ecfc2b8cfe971fea6c4c68a74c7715fa524e", func := "loop.example/numberparts/laws.FnPartnerOf", spec := "fnPartnerOf", named := ["loop.example/numberparts/impl.partners"], apart := false, laid := [("loop.example/numberparts/impl.partners", laid_loop_example_numberparts_impl_partners)] }
def FnPartnerOfSaid : Prop := fnPartnerOfRow.holds Tryd.pinned (OpenSpec.ofChange fnPartnerOfSpec)

/-- ITS FALSE NEIGHBOUR: 'it returns false'. Refute it at one input. -/
def fnPartnerOfWrong : ChangeSpec := { name := "fnPartnerOf", vars := ["loop.example/numberparts/impl.partners"], fn := fun _ => fun
  | [d, g1] => { results := [.lit (.bool false)], args := [d], vars := [g1] }
  | _ => none }
def FnPartnerOfWrongFalsely : Prop := fnPartnerOfRow.holds Tryd.pinned (OpenSpec.ofChange fnPartnerOfWrong)

/-- 'laws.FnKindCount': WHATEVER THE INPUT: true; the input reads as it did. -/
def fnKindCountSpec : ChangeSpec := { name := "fnKindCount", vars := ["loop.example/numberparts/impl.partners"], fn := fun _ => fun
  | [d, g1] => { results := [.lit (.bool true)], args := [d], vars := [g1] }
  | _ => none }
def fnKindCountRow : OpenClaim := { program := "ytmlomapifldlpaadoor", sum := "3ead9a27a4175502cf043e7ef360ecfc2b8cfe971fea6c4c68a74c7715fa524e", func := "loop.example/numberparts/laws.FnKindCount", spec := "fnKindCount", unfollowed := true, recurses := true, named := ["loop.example/numberparts/impl.partners"], apart := false, laid := [("loop.example/numberparts/impl.partners", laid_loop_example_numberparts_impl_partners)] }
def FnKindCountSaid : Prop := fnKindCountRow.holds Tryd.pinned (OpenSpec.ofChange fnKindCountSpec)

/-- ITS FALSE NEIGHBOUR: 'it returns false'. Refute it at one input. -/
def fnKindCountWrong : ChangeSpec := { name := "fnKindCount", vars := ["loop.example/numberparts/impl.partners"], fn := fun _ => fun
  | [d, g1] => { results := [.lit (.bool false)], args := [d], vars := [g1] }
  | _ => none }
def FnKindCountWrongFalsely : Prop := fnKindCountRow.holds Tryd.pinned (OpenSpec.ofChange fnKindCountWrong)

/- THE SECOND FORM. 'bulk': how many values and letters a reading holds, each counted each time it is reached (what is shared counts as often as it is met; a slice's spare places count too). A statement '..UptoSaid' is the law's where the arguments, and the package variables that the reading takes, are together of bulk at most 1048576: NARROWER than '..Said'. Prove '..Said' where nothing that the law and all that it calls make is longer than what came in: it says more and counts as full. Else prove '..UptoSaid'. A law counts once. -/
mutual
def uptoBulk {H : Type} : DataW H → Nat
  | .lit (.string bytes) => bytes.length + 1
  | .lit _ => 1
  | .nil => 1
  | .ptr d => uptoBulk d + 1
  | .slice elems spare => uptoBulkAll elems + uptoBulkAll spare + 1
  | .agg parts => uptoBulkAll parts + 1
  | .iface _ d => uptoBulk d + 1
  | .map entries => uptoBulkEntries entries + 1
  | .held _ => 1
def uptoBulkAll {H : Type} : List (DataW H) → Nat
  | [] => 0
  | d :: r => uptoBulk d + uptoBulkAll r
def uptoBulkEntries {H : Type} : List (Lit × DataW H) → Nat
  | [] => 0
  | x :: r => uptoBulkEntry x + uptoBulkEntries r
def uptoBulkEntry {H : Type} : Lit × DataW H → Nat
  | (.string bytes, d) => bytes.length + uptoBulk d + 1
  | (_, d) => uptoBulk d + 1
 end
def uptoSmall : (H : Type) → List (DataW H) → Bool := fun _ ds => decide (uptoBulkAll ds ≤ 1048576)
def OpenSpec.upto (s : _root_.Go.ChangeSpec) : _root_.Go.OpenSpec := { _root_.Go.OpenSpec.ofChange s with cond := some uptoSmall }

/-- 'laws.FnExactPartnerOf', WHERE WHAT IT READS IS OF BULK AT MOST 1048576: true; the input reads as it did. -/
def fnExactPartnerOfUptoRow : OpenClaim := { program := "ytmlomapifldlpaadoor", sum := "3ead9a27a4175502cf043e7ef360ecfc2b8cfe971fea6c4c68a74c7715fa524e", func := "loop.example/numberparts/laws.FnExactPartnerOf", spec := "fnExactPartnerOf", named := ["loop.example/numberparts/impl.partners"], apart := false, laid := [("loop.example/numberparts/impl.partners", laid_loop_example_numberparts_impl_partners)], narrowed := true }
def FnExactPartnerOfUptoSaid : Prop := fnExactPartnerOfUptoRow.holds Tryd.pinned (OpenSpec.upto fnExactPartnerOfSpec)

/-- 'laws.FnPartnerOf', WHERE WHAT IT READS IS OF BULK AT MOST 1048576: true; the input reads as it did. -/
def fnPartnerOfUptoRow : OpenClaim := { program := "ytmlomapifldlpaadoor", sum := "3ead9a27a4175502cf043e7ef360ecfc2b8cfe971fea6c4c68a74c7715fa524e", func := "loop.example/numberparts/laws.FnPartnerOf", spec := "fnPartnerOf", named := ["loop.example/numberparts/impl.partners"], apart := false, laid := [("loop.example/numberparts/impl.partners", laid_loop_example_numberparts_impl_partners)], narrowed := true }
def FnPartnerOfUptoSaid : Prop := fnPartnerOfUptoRow.holds Tryd.pinned (OpenSpec.upto fnPartnerOfSpec)

/-- 'laws.FnKindCount', WHERE WHAT IT READS IS OF BULK AT MOST 1048576: true; the input reads as it did. -/
def fnKindCountUptoRow : OpenClaim := { program := "ytmlomapifldlpaadoor", sum := "3ead9a27a4175502cf043e7ef360ecfc2b8cfe971fea6c4c68a74c7715fa524e", func := "loop.example/numberparts/laws.FnKindCount", spec := "fnKindCount", unfollowed := true, recurses := true, named := ["loop.example/numberparts/impl.partners"], apart := false, laid := [("loop.example/numberparts/impl.partners", laid_loop_example_numberparts_impl_partners)], narrowed := true }
def FnKindCountUptoSaid : Prop := fnKindCountUptoRow.holds Tryd.pinned (OpenSpec.upto fnKindCountSpec)

end Rows
end Go.Proofs.YtmlomapifldlpaaDoor
