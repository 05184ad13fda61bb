/-
  Opposites of parts in a box.
-/
import Derived.Test.YtgbkaahmmpgjfaaM38
namespace Go.Proofs.Ytgbkaahmmpgjfaa
open NP
set_option linter.unusedVariables false
/-- what is left in row j from the end -/
def opx (L : List Int) (a : Nat) (b : Int) (j : Nat) : Int := b - L.getD (a - 1 - j) 0
def opk (L : List Int) (a : Nat) (b : Int) (k : Nat) : List Int := ((List.range k).map (opx L a b)).filter (fun x => decide (0 < x))
def oppL (L : List Int) (a : Nat) (b : Int) : List Int := opk L a b a
def opa (L : List Int) (a : Nat) (b : Int) (i : Nat) : List Int := (List.range 16).map fun j => if j < i then opx L a b j else 0
theorem opa_len (L : List Int) (a : Nat) (b : Int) (i : Nat) : (opa L a b i).length = 16 := by simp [opa]
theorem opa_zero (L : List Int) (a : Nat) (b : Int) : opa L a b 0 = List.replicate 16 0 := by simp [opa, List.map_const']
theorem opa_set (L : List Int) (a : Nat) (b : Int) {i : Nat} (h : i < 16) : (opa L a b i).set i (opx L a b i) = opa L a b (i + 1) := by
  apply List.ext_getElem
  · simp [opa]
  · intro j h1 h2
    simp only [opa, List.getElem_set, List.getElem_map, List.getElem_range]
    by_cases hj : i = j
    · subst hj; rw [if_pos rfl, if_pos (by omega)]
    · rw [if_neg hj]
      by_cases hji : j < i
      · rw [if_pos hji, if_pos (by omega)]
      · rw [if_neg hji, if_neg (by omega)]
theorem opk_next (L : List Int) (a : Nat) (b : Int) (k : Nat) : opk L a b (k + 1) = opk L a b k ++ (if 0 < opx L a b k then [opx L a b k] else []) := by
  unfold opk
  rw [List.range_succ, List.map_append, List.filter_append]
  congr 1
  by_cases h : 0 < opx L a b k <;> simp [h]
theorem opk_len (L : List Int) (a : Nat) (b : Int) (k : Nat) : (opk L a b k).length ≤ k := by
  unfold opk
  exact Nat.le_trans (List.length_filter_le _ _) (by simp)
def opOk (N : List Nat) : Bool :=
  let P := N.map Int.ofNat
  (List.range 5).all fun a => (List.range 5).all fun (b : Nat) =>
    if inbF P a b = true then decide (opa P a b a = pad (oppL P a b)) && inbF (oppL P a b) a b && decide (oppL (oppL P a b) a b = P) && decide (sumL (oppL P a b) + sumL P = (a : Int) * b) else true
theorem opTab : all16.all opOk = true := by decide +kernel
theorem inb_lim {P : List Int} {a b : Int} (h : inbF P a b = true) : valid P = true ∧ 0 ≤ a ∧ a ≤ 4 ∧ 0 ≤ b ∧ b ≤ 4 := by
  unfold inbF limB at h
  simp only [Bool.and_eq_true, decide_eq_true_eq] at h
  obtain ⟨h1, ⟨h2, h3, h4, h5⟩, -⟩ := h
  exact ⟨h1, h2, h3, h4, h5⟩
theorem opp_facts {P : List Int} {a b : Nat} (h : inbF P a b = true) : opa P a b a = pad (oppL P a b) ∧ inbF (oppL P a b) a b = true ∧ oppL (oppL P a b) a b = P ∧ sumL (oppL P a b) + sumL P = (a : Int) * b := by
  obtain ⟨hv, -, h2, -, h4⟩ := inb_lim h
  obtain ⟨N, hN, rfl⟩ := of_all opTab hv
  unfold opOk at hN
  have h5 := List.all_eq_true.1 (List.all_eq_true.1 hN a (List.mem_range.2 (by omega))) b (List.mem_range.2 (by omega))
  rw [if_pos h] at h5
  simp only [Bool.and_eq_true, decide_eq_true_eq] at h5
  obtain ⟨⟨⟨h6, h7⟩, h8⟩, h9⟩ := h5
  exact ⟨h6, h7, h8, h9⟩
def opbF (L : List Int) (a b : Int) : List Int := if inbF L a b = true then oppL L a.toNat b else []
theorem opbF_yes {L : List Int} {a : Nat} {b : Int} (h : inbF L a b = true) : opbF L a b = oppL L a b := by unfold opbF; rw [if_pos h, Int.toNat_natCast]
theorem opbF_no {L : List Int} {a b : Int} (h : inbF L a b = false) : opbF L a b = [] := by unfold opbF; rw [if_neg (by rw [h]; decide)]
theorem opbF_len (L : List Int) (a b : Int) : (opbF L a b).length ≤ 4 := by
  unfold opbF
  split
  · rename_i h
    obtain ⟨-, h1, h2, -⟩ := inb_lim h
    exact Nat.le_trans (opk_len _ _ _ _) (by omega)
  · simp
end Go.Proofs.Ytgbkaahmmpgjfaa
