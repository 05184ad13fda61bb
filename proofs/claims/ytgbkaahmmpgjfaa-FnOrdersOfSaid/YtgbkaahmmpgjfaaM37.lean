/-
  Tables: orders are the summands that have the parts.
-/
import Derived.Test.YtgbkaahmmpgjfaaM36
import Derived.Test.YtgbkaahmmpgjfaaW75
import Derived.Test.YtgbkaahmmpgjfaaM35
namespace Go.Proofs.Ytgbkaahmmpgjfaa
open NP
def cntP (P : List Int) (A : List (List Int)) : Nat := (A.filter fun X => decide (posF X = P)).length
theorem cntP_take {P : List Int} {A : List (List Int)} {k : Nat} (h : k < A.length) : cntP P (A.take (k + 1)) = cntP P (A.take k) + (if posF A[k] = P then 1 else 0) := by
  unfold cntP
  rw [List.take_succ_eq_append_getElem h, List.filter_append, List.length_append]
  congr 1
  by_cases e : posF A[k] = P <;> simp [e]
def ocOk (n : Nat) : Bool :=
  let Q := (allS n).map posF
  all16.all fun N =>
    let P := N.map Int.ofNat
    if sumL P = (n : Int) then decide (ordP P = (Q.filter fun X => decide (X = P)).length) else true
theorem ocTab : (List.range 9).all ocOk = true := by decide +kernel
theorem ord_count {P : List Int} {m : Nat} (h : valid P = true) (hs : sumL P = (m : Int)) (hm : m ≤ 8) : ordP P = cntP P (allS m) := by
  have h1 := List.all_eq_true.1 ocTab m (List.mem_range.2 (by omega))
  have h2 : all16.all (fun N => if sumL (N.map Int.ofNat) = (m : Int) then decide (ordP (N.map Int.ofNat) = (((allS m).map posF).filter fun X => decide (X = N.map Int.ofNat)).length) else true) = true := h1
  obtain ⟨N, hN, rfl⟩ := of_all h2 h
  rw [if_pos hs] at hN
  rw [decide_eq_true_iff.1 hN, cntP, List.filter_map, List.length_map]
  rfl
theorem cntP_le (P : List Int) (A : List (List Int)) : cntP P A ≤ A.length := List.length_filter_le _ _
end Go.Proofs.Ytgbkaahmmpgjfaa
