/-
  Walks of the model: marked parts turned.
-/
import Derived.Test.YtgkghebjaedjmaaZA1
import Derived.Test.YtgkghebjaedjmaaZA2
import Derived.Test.YtgkghebjaedjmaaZA3
import Derived.Test.YtgkghebjaedjmaaZA4
import Derived.Test.YtgkghebjaedjmaaZA5
import Derived.Test.YtgkghebjaedjmaaZA6
import Derived.Test.YtgkghebjaedjmaaZA7
import Derived.StillTailTactics
import Derived.RegionTactic
import Derived.Deep.RegionHeld3
namespace Go.Proofs.Ytgkghebjaedjmaa
open Go.RowKit NP
set_option maxRecDepth 100000
set_option linter.unusedVariables false
set_option linter.unusedSimpArgs false
theorem cell_alloc {w : World} {p : Addr} {v : Value} {o : Obj} (h : w.cell? p = some v) : (w.alloc o).cell? p = some v := by
  rw [World.cell?_alloc_old w o p (Nat.ne_of_lt (World.block_lt_of_cell? _ _ h))]; exact h
theorem oper_store_one {P : Program} {o : Oper} {a : Act} {w w' : World} {K : Act → World → Prop} {Q : Exit → Act → World → Prop} (ty : TypeId) (x y : Operand) (ho : o.op = .store ty x y) (p : Addr) (hx : a.eval x = .pointer (some p))
    (hrun : (storeVar ty p (a.eval y)).run P w = .ok () w') (hK : K (a.put o.dst undef) w') : Oper.wp P o a w K Q := by
  unfold Oper.wp execOp
  simp only [ho, hx, Instr.storeAt, Instr.sureAddr, Sem.run_bind, Sem.run_pure, Result.andThen_ok, hrun]
  exact hK
theorem tnM_take {L : List Int} {bs : List Bool} {k : Nat} (hk : k < (conj L).length) : (tnM L bs).take (k + 1) = (tnM L bs).take k ++ [isC (conj L) k && bs.getD ((conj L).getD k 0 - 1).toNat false] := by
  have h : k < (tnM L bs).length := by unfold tnM; rw [mkOf_len]; exact hk
  rw [List.take_succ_eq_append_getElem h]
  unfold tnM mkOf
  simp
end Go.Proofs.Ytgkghebjaedjmaa
