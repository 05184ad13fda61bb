/-
  Plain mathematics of diagonals.
-/
import Derived.Test.YtbldnjcjdnlhgaaM3
namespace Go.Proofs.Ytbldnjcjdnlhgaa
namespace NP
set_option linter.unusedVariables false
/-- how many of the first n rows have a cell on a diagonal -/
def dc (L : List Int) (d : Int) : Nat → Int
  | 0 => 0
  | n + 1 => dc L d n + (if 0 ≤ d + n ∧ d + n < L.getD n 0 then 1 else 0)
theorem dc_bd (L : List Int) (d : Int) (n : Nat) : 0 ≤ dc L d n ∧ dc L d n ≤ n := by
  induction n with
  | zero => simp [dc]
  | succ n ih => simp only [dc]; split <;> omega
theorem dc_succ (L : List Int) (d : Int) (n : Nat) : dc L d (n + 1) = dc L d n + (if 0 ≤ d + n ∧ d + n < L.getD n 0 then 1 else 0) := rfl
theorem dc_congr {L M : List Int} (d : Int) (n : Nat) (h : ∀ i, i < n → L.getD i 0 = M.getD i 0) : dc L d n = dc M d n := by
  induction n with
  | zero => rfl
  | succ n ih => rw [dc_succ, dc_succ, ih (fun i hi => h i (by omega)), h n (by omega)]
theorem dc_more {L : List Int} (d : Int) (n m : Nat) (hm : n ≤ m) (h : ∀ i, n ≤ i → L.getD i 0 = 0) : dc L d m = dc L d n := by
  induction m with
  | zero => obtain rfl : n = 0 := by omega
            rfl
  | succ m ih =>
    rcases Nat.lt_or_ge m n with h1 | h1
    · obtain rfl : n = m + 1 := by omega
      rfl
    · rw [dc_succ, ih h1, h m h1, if_neg (by omega)]
      omega
/-- the diagonals of rows, n of them, R rows -/
def dia (L : List Int) : List Int := (List.range (L.length - 1 + (L.headD 0).toNat)).map fun (t : Nat) => dc L ((t : Int) + 1 - L.length) L.length
def diaF (L : List Int) : List Int := if valid L then dia L else []
theorem diaF_yes {L : List Int} (h : valid L = true) : diaF L = dia L := by simp [diaF, h]
theorem diaF_no {L : List Int} (h : valid L = false) : diaF L = [] := by simp [diaF, h]
theorem diaF_len (L : List Int) : (diaF L).length ≤ 32 := by
  unfold diaF
  split
  · rename_i h
    have := headD_bd h
    have := valid_bd h
    simp only [dia, List.length_map, List.length_range]
    omega
  · simp
/-- what has been counted when i rows are done, and k cells of the next -/
def dac (L : List Int) (T i k : Nat) : List Int := (List.range T).map fun (t : Nat) => dc (pad L) ((t : Int) + 1 - L.length) i + (if 0 ≤ (t : Int) + 1 - L.length + i ∧ (t : Int) + 1 - L.length + i < k then 1 else 0)
theorem dac_len (L : List Int) (T i k : Nat) : (dac L T i k).length = T := by simp [dac]
theorem dac_zero (L : List Int) (T : Nat) : dac L T 0 0 = List.replicate T 0 := by
  apply List.ext_getElem
  · simp [dac]
  · intro j h1 h2
    simp only [dac, List.getElem_map, List.getElem_range, dc, List.getElem_replicate]
    rw [if_neg (by omega)]
    rfl
theorem dac_get (L : List Int) (T i k m : Nat) (hm : m < (dac L T i k).length) (he : m + i + 1 = L.length + k) : (dac L T i k)[m] = dc (pad L) ((m : Int) + 1 - L.length) i := by
  simp only [dac, List.getElem_map, List.getElem_range]
  rw [if_neg (by omega), Int.add_zero]
theorem dac_set (L : List Int) (T i k m : Nat) (hm : m < T) (he : m + i + 1 = L.length + k) : (dac L T i k).set m (dc (pad L) ((m : Int) + 1 - L.length) i + 1) = dac L T i (k + 1) := by
  apply List.ext_getElem
  · simp [dac]
  · intro j h1 h2
    by_cases hj : m = j
    · subst hj
      rw [List.getElem_set_self]
      simp only [dac, List.getElem_map, List.getElem_range]
      rw [if_pos (by omega)]
    · rw [List.getElem_set_ne hj]
      simp only [dac, List.getElem_map, List.getElem_range]
      congr 1
      split <;> split <;> omega
theorem dac_next (L : List Int) (T i k : Nat) (hk : (k : Int) = (pad L).getD i 0) : dac L T i k = dac L T (i + 1) 0 := by
  apply List.ext_getElem
  · simp [dac]
  · intro j h1 h2
    simp only [dac, List.getElem_map, List.getElem_range, dc_succ]
    rw [← hk]
    have : ¬ (0 ≤ (j : Int) + 1 - L.length + ((i + 1 : Nat) : Int) ∧ (j : Int) + 1 - L.length + ((i + 1 : Nat) : Int) < ((0 : Nat) : Int)) := by omega
    rw [if_neg this]
    split <;> omega
theorem dac_end {L : List Int} (hl : L.length ≤ 16) : dac L (L.length - 1 + (L.headD 0).toNat) 16 0 = dia L := by
  apply List.ext_getElem
  · simp [dac, dia]
  · intro j h1 h2
    simp only [dac, dia, List.getElem_map, List.getElem_range]
    rw [if_neg (by omega), dc_more _ L.length 16 hl (fun i hi => by rw [pad_getD hl, getD_out hi])]
    rw [dc_congr _ _ (fun i _ => pad_getD hl i)]
    omega
end NP
end Go.Proofs.Ytbldnjcjdnlhgaa
