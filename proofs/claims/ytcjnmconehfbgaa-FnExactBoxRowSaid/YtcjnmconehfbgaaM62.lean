/-
  Plain mathematics: how many parts of each sum are in a box, by a table.
-/
import Derived.Test.YtcjnmconehfbgaaW110
namespace Go.Proofs.Ytcjnmconehfbgaa
open Go.RowKit NP
set_option linter.unusedVariables false
def rowB (a b : Nat) : List Int := (List.range (a * b + 1)).map fun s => ((LB a b s).length : Int)
def rowTab : Bool := (List.range 5).all fun a => (List.range 5).all fun b => gbox a b == rowB a b
set_option maxRecDepth 100000 in
theorem rowTab_all : rowTab = true := by decide +kernel
theorem rowB_gbox {a b : Nat} (ha : a ≤ 4) (hb : b ≤ 4) : gbox a b = rowB a b := by
  have h := rowTab_all
  unfold rowTab at h
  have h1 := List.all_eq_true.1 h a (by simp; omega)
  have h2 := List.all_eq_true.1 h1 b (by simp; omega)
  exact eq_of_beq h2
def brF (a b : Int) : List Int := if limB a b then gbox a.toNat b.toNat else []
theorem brF_len (a b : Int) : (brF a b).length ≤ 17 := by
  unfold brF
  split
  · rename_i h
    unfold limB at h
    simp only [decide_eq_true_eq] at h
    rw [gbox_len]
    have := Nat.mul_le_mul (show a.toNat ≤ 4 by omega) (show b.toNat ≤ 4 by omega)
    omega
  · simp
end Go.Proofs.Ytcjnmconehfbgaa
