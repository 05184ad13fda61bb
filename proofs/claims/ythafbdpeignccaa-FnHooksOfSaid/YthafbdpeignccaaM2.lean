/-
  Plain mathematics of times and corners.
-/
import Derived.Test.YthafbdpeignccaaMath
namespace Go.Proofs.Ythafbdpeignccaa
namespace NP
/-- how many are k -/
def eqc (k : Int) : List Int → Int
  | [] => 0
  | x :: r => (if x = k then 1 else 0) + eqc k r
theorem eqc_append (k : Int) (a b : List Int) : eqc k (a ++ b) = eqc k a + eqc k b := by
  induction a with
  | nil => simp [eqc]
  | cons x r ih => simp [eqc, ih]; omega
theorem eqc_take_succ (k : Int) (L : List Int) (i : Nat) (h : i < L.length) : eqc k (L.take (i + 1)) = eqc k (L.take i) + (if L[i] = k then 1 else 0) := by
  rw [List.take_succ_eq_append_getElem h, eqc_append]; simp [eqc]
theorem eqc_bd (k : Int) (L : List Int) : 0 ≤ eqc k L ∧ eqc k L ≤ L.length := by
  induction L with
  | nil => simp [eqc]
  | cons x r ih => simp only [eqc, List.length_cons]; split <;> omega
theorem eqc_cnt (k : Int) (L : List Int) : eqc k L = cnt k L - cnt (k + 1) L := by
  induction L with
  | nil => simp [eqc, cnt]
  | cons x r ih => simp only [eqc, cnt, ih]; (repeat' split) <;> omega
def tim (L : List Int) : List Int := (List.range (L.headD 0).toNat).map fun (j : Nat) => eqc ((j : Int) + 1) L
theorem tim_len (L : List Int) : (tim L).length = (L.headD 0).toNat := by simp [tim]
theorem tim_get (L : List Int) (k : Nat) (h : k < (tim L).length) : (tim L)[k] = eqc ((k : Int) + 1) L := by simp [tim]
def timF (L : List Int) : List Int := if valid L then tim L else []
theorem timF_yes {L : List Int} (h : valid L = true) : timF L = tim L := by simp [timF, h]
theorem timF_no {L : List Int} (h : valid L = false) : timF L = [] := by simp [timF, h]
theorem timF_len (L : List Int) : (timF L).length ≤ 16 := by
  unfold timF
  split
  · rename_i h
    rw [tim_len]
    have := headD_bd h
    omega
  · simp
def tacc (L : List Int) (H k : Nat) : List Int := (List.range H).map fun (j : Nat) => eqc ((j : Int) + 1) (L.take k)
theorem tacc_len (L : List Int) (H k : Nat) : (tacc L H k).length = H := by simp [tacc]
theorem tacc_get (L : List Int) (H k j : Nat) (h : j < (tacc L H k).length) : (tacc L H k)[j] = eqc ((j : Int) + 1) (L.take k) := by simp [tacc]
theorem tacc_zero (L : List Int) (H : Nat) : tacc L H 0 = List.replicate H 0 := by
  apply List.ext_getElem
  · simp [tacc]
  · intro j h1 h2
    rw [tacc_get]
    simp [eqc]
theorem tacc_set (L : List Int) (H k m : Nat) (hk : k < L.length) (hm : L[k] = (m : Int) + 1) : (tacc L H k).set m (eqc ((m : Int) + 1) (L.take k) + 1) = tacc L H (k + 1) := by
  apply List.ext_getElem
  · simp [tacc]
  · intro j h1 h2
    rw [tacc_get, eqc_take_succ _ L k hk]
    by_cases hj : m = j
    · subst hj
      rw [List.getElem_set_self, if_pos hm]
    · rw [List.getElem_set_ne hj, tacc_get, if_neg (by omega)]
      omega
theorem tacc_end (L : List Int) : tacc L (L.headD 0).toNat L.length = tim L := by
  unfold tacc tim
  rw [List.take_of_length_le (Nat.le_refl _)]
/-- the indices of the corners -/
def isC (L : List Int) (i : Nat) : Bool := decide (i + 1 = L.length) || decide (L.getD (i + 1) 0 < L.getD i 0)
def crnTo (L : List Int) (n : Nat) : List Int := ((List.range n).filter (isC L)).map Int.ofNat
def crn (L : List Int) : List Int := crnTo L L.length
theorem crnTo_succ (L : List Int) (n : Nat) : crnTo L (n + 1) = crnTo L n ++ if isC L n then [(n : Int)] else [] := by
  unfold crnTo
  rw [List.range_succ, List.filter_append, List.map_append]
  congr 1
  cases h : isC L n <;> simp [h]
theorem crnTo_len (L : List Int) (n : Nat) : (crnTo L n).length ≤ n := by
  unfold crnTo
  rw [List.length_map]
  exact Nat.le_trans (List.length_filter_le _ _) (by simp)
def crnF (L : List Int) : List Int := if valid L then crn L else []
theorem crnF_yes {L : List Int} (h : valid L = true) : crnF L = crn L := by simp [crnF, h]
theorem crnF_no {L : List Int} (h : valid L = false) : crnF L = [] := by simp [crnF, h]
theorem crnF_len (L : List Int) : (crnF L).length ≤ 16 := by
  unfold crnF
  split
  · rename_i h
    exact Nat.le_trans (crnTo_len L _) (valid_bd h).2.2.2
  · simp
end NP
end Go.Proofs.Ythafbdpeignccaa
