/-
  Walks of the program: diagrams added to and taken from each other; a square's diagram.
-/
import Derived.Test.YthincndannopmaaW12
import Derived.Test.YthincndannopmaaM25
namespace Go.Proofs.Ythincndannopmaa
open Go.RowKit NP
set_option linter.unusedVariables false
theorem pad_full {D : List Int} (h : D.length = 16) : pad D = D := by simp [pad, h]
def neg (E : List Int) : List Int := E.map fun x => -x
theorem neg_getD (E : List Int) (i : Nat) : (neg E).getD i 0 = -E.getD i 0 := by
  unfold neg
  rw [List.getD_eq_getElem?_getD, List.getD_eq_getElem?_getD, List.getElem?_map]
  cases E[i]? <;> simp



theorem fillN_set {i : Nat} (n : Int) (h : i < 16) : (List.replicate i n ++ List.replicate (16 - i) 0).set i n = List.replicate (i + 1) n ++ List.replicate (16 - (i + 1)) 0 := by
  rw [show 16 - i = (16 - (i + 1)) + 1 by omega, List.replicate_succ, List.set_append_right _ _ (by simp), List.length_replicate, Nat.sub_self, List.set_cons_zero, List.replicate_succ']
  simp
theorem fillN_len (i : Nat) (n : Int) (h : i ≤ 16) : (List.replicate i n ++ List.replicate (16 - i) 0).length = 16 := by simp; omega
theorem fillN_end (n : Nat) : List.replicate n (n : Int) ++ List.replicate (16 - n) 0 = pad (sqs n) := by simp [pad, sqs]

end Go.Proofs.Ythincndannopmaa
