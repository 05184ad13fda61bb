/-
  Walks of the program: whether a diagram drops to another, covers it.
-/
import Derived.Test.YthafbdpeignccaaArr4
import Derived.Test.YthafbdpeignccaaW107
namespace Go.Proofs.Ythafbdpeignccaa
open Go.RowKit NP
set_option maxRecDepth 8000
set_option linter.unusedVariables false
set_option linter.unusedSimpArgs false
theorem T_guardD : Try.prog.eqGuardType Try.prog.depth 59 = false := by kernel_rfl
theorem wpList_eqlD {ops : Array Oper} {rest : List Oper} {o : Oper} {a : Act} {w : World} {Q : Exit → Act → World → Prop} (hgd : o.guard = none) (x y : Operand) (T : TypeId) (ho : o.op = .binOp .eql 59 x y T) (D E : List Int) (hD : D.length = 16) (hE : E.length = 16) (hx : a.eval x = .agg (arr D)) (hy : a.eval y = .agg (arr E))
    (h : wpList Try.prog ops Q rest (a.put o.dst (.bool (decide (D = E)))) w) : wpList Try.prog ops Q (o :: rest) a w :=
  wpList_plain hgd fun _ hK => by
    unfold Oper.wp
    rw [exec_eql 59 T x y ho hx hy T_guardD (T_eqD 9998 D E hD hE w)]
    exact hK _ _ h
/-- a cell of one row to the next one -/
def dropL (D : List Int) (i : Nat) : List Int := (D.set i (D.getD i 0 - 1)).set (i + 1) (D.getD (i + 1) 0 + 1)
def dropB (D E : List Int) : Bool := (List.range 15).any fun i => decide (dropL D i = E)
theorem dropL_len (D : List Int) (i : Nat) : (dropL D i).length = D.length := by simp [dropL]
end Go.Proofs.Ythafbdpeignccaa
