/-
  All parts with a sum: their sums, their places, how many: tables.
-/
import Derived.Test.YteglcoalfgjjiaaW61
import Derived.Test.YteglcoalfgjjiaaM21
import Derived.Test.YteglcoalfgjjiaaW4
namespace Go.Proofs.Yteglcoalfgjjiaa
open NP
set_option linter.unusedVariables false
def apTab : Bool := (List.range 13).all fun n => decide (((allQ n n n).length : Int) = cpF n) && (List.range (allQ n n n).length).all fun k => decide (sumF ((allQ n n n).getD k []) = (n : Int)) && decide (plcF ((allQ n n n).getD k []) = (k : Int))
set_option maxRecDepth 100000 in
theorem apTab_all : apTab = true := by decide +kernel
theorem ap_facts {n : Nat} (hn : n ≤ 12) : ((allQ n n n).length : Int) = cpF n ∧ ∀ k (h : k < (allQ n n n).length), sumF (allQ n n n)[k] = (n : Int) ∧ plcF (allQ n n n)[k] = (k : Int) := by
  have h1 := List.all_eq_true.1 apTab_all n (by simp; omega)
  rw [Bool.and_eq_true] at h1
  refine ⟨by simpa using h1.1, fun k hk => ?_⟩
  have h2 := List.all_eq_true.1 h1.2 k (by simpa using hk)
  rw [List.getD_eq_getElem?_getD, List.getElem?_eq_getElem hk] at h2
  simpa using h2
end Go.Proofs.Yteglcoalfgjjiaa
