/-
  A region that draws its order and ends in a store.
-/
import Derived.Test.YthafbdpeignccaaW107
import Derived.RegionTactic
namespace Go.Proofs.Ythafbdpeignccaa
open Go.RowKit
set_option linter.unusedVariables false
section
variable {P : Program} {ops : Array Oper} {Q : Exit → Act → World → Prop}
/-- all but the last yield their values (vs) in whatever world of the kind S; the last one stores -/
theorem wp_region_store {id : Nat} {a : Act} {w : World} (zl : List Nat) (vs : List Value) (S : World → Prop) (az : Act) (hm : P.follows .mixedOrders = true) (hS : ∀ y, Dr w y → S y) (haz : putsOfG ops 0 vs a = az)
    (hok : regOkG .any ops vs.length = true) (hup : regUpG .any ops vs.length = true) (hzl : List.range vs.length = zl) (hsz : ops.size = vs.length + 1)
    (hr1 : Region.ready .any ops (Array.replicate vs.length true ++ Array.replicate 1 false) = [vs.length]) (hr2 : Region.ready .any ops ((Array.replicate vs.length true ++ Array.replicate 1 false).setIfInBounds vs.length true) = [])
    (o : Oper) (ho : ops[vs.length]? = some o) (hg : o.guard = none) (hd : o.dst = none) (ty : TypeId) (x y : Operand) (hop : o.op = .store ty x y) (p : Addr) (v : Value) (hx : az.eval x = .pointer (some p)) (hy : az.eval y = v)
    (hrun : ∀ w', S w' → (storeVar ty p v).run P w' = .ok () (w'.setCell p v)) (hstep : StepsG P ops S az zl) (hrest : ∀ w', S w' → Q .normal az (w'.setCell p v)) : (Code.region id ops true).wp P Q a w := by
  refine wp_region_vals_rest zl vs S az hm hS haz hok hup hzl hstep fun w' hw => ?_
  rw [hsz, show vs.length + 1 - vs.length = 0 + 1 from by omega]
  refine wpAny_ready hr1 (by simp) ?_
  refine AllReady.cons ho (fun K hK => ?_) AllReady.nil
  rw [if_pos (by simp [Region.wanted, hg])]
  simp only [Oper.wp, execOp, hop, hx, hy, Instr.storeAt, Instr.sureAddr, Sem.run_bind, Sem.run_pure, Result.andThen_ok, hrun w' hw, Oper.upon]
  refine hK _ _ (wpAny_done hr2 ?_ _)
  rw [hd]
  exact hrest w' hw
end
end Go.Proofs.Ythafbdpeignccaa
