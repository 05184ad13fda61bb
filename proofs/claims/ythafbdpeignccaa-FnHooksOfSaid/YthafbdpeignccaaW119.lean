/-
  Walks of the program: whether a diagram covers another.
-/
import Derived.Test.YthafbdpeignccaaW118
import Derived.Test.YthafbdpeignccaaW109
import Derived.Test.YthafbdpeignccaaIsK
import Derived.Test.YthafbdpeignccaaW4
import Derived.Shelf.Abstract
namespace Go.Proofs.Ythafbdpeignccaa
open Go.RowKit Go.Shelf NP
set_option maxRecDepth 8000
set_option linter.unusedVariables false
set_option linter.unusedSimpArgs false
theorem op_loadv {P : Program} {o : Oper} {a : Act} {w w' : World} {K : Act → World → Prop} {Q : Exit → Act → World → Prop} {v : Value} (ty : TypeId) (x : Operand) (ho : o.op = .load ty x) (p : Addr) (hx : a.eval x = .pointer (some p))
    (hrun : (loadVar ty p).run P w = .ok v w') (hK : K (a.put o.dst v) w') : o.wp P a w K Q := by
  unfold Oper.wp execOp
  simp only [ho, hx, Instr.loadAt, Instr.sureAddr, Sem.run_bind, Sem.run_pure, Result.andThen_ok, hrun]
  exact hK
theorem conj_cells3 {P : List Int} (hp : valid P = true) : acc (pad P) 16 0 = pad (conj P) := (acc_end (pad P) (pad_len (valid_bd hp).2.2.2)).trans (conj_pad hp)
def covB (P Q : List Int) : Bool := dropB (pad P) (pad Q) || dropB (pad (conj Q)) (pad (conj P))
end Go.Proofs.Ythafbdpeignccaa
