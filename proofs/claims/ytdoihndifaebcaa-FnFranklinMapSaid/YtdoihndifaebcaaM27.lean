/-
  Mathematics: Franklin's map as arrays, step by step.
-/
import Derived.Test.YtdoihndifaebcaaM26
namespace Go.Proofs.Ytdoihndifaebcaa
set_option linter.unusedVariables false
namespace NP
def arrA (L : List Int) (k : Nat) : List Int := (List.range 16).map fun (j : Nat) => if j + 1 < L.length then L.getD j 0 + (if j < k then 1 else 0) else 0
def arrB (L : List Int) (k : Nat) : List Int := (List.range 16).map fun (j : Nat) => if j < L.length then L.getD j 0 - (if j < k then 1 else 0) else if j = L.length then (slp L : Int) else 0
theorem arrA_len (L : List Int) (k : Nat) : (arrA L k).length = 16 := by simp [arrA]
theorem arrB_len (L : List Int) (k : Nat) : (arrB L k).length = 16 := by simp [arrB]
theorem arrA_get (L : List Int) {i : Nat} (hi : i + 1 < L.length) (h16 : i < 16) (hh : i < (arrA L i).length) : (arrA L i)[i] = L.getD i 0 := by
  simp [arrA, hi]
theorem arrB_get (L : List Int) {i : Nat} (hi : i < L.length) (h16 : i < 16) (hh : i < (arrB L i).length) : (arrB L i)[i] = L.getD i 0 := by
  simp [arrB, hi]
theorem arrA_set (L : List Int) {i : Nat} (hi : i + 1 < L.length) (h16 : i < 16) : (arrA L i).set i (L.getD i 0 + 1) = arrA L (i + 1) := by
  apply List.ext_getElem
  · simp [arrA]
  · intro j h1 h2
    rw [List.getElem_set]
    simp only [arrA, List.getElem_map, List.getElem_range]
    by_cases hj : i = j
    · subst hj
      rw [if_pos rfl, if_pos hi, if_pos (Nat.lt_succ_self i)]
    · rw [if_neg hj]
      by_cases hl : j + 1 < L.length
      · rw [if_pos hl, if_pos hl]
        by_cases hk : j < i
        · rw [if_pos hk, if_pos (by omega)]
        · rw [if_neg hk, if_neg (by omega)]
      · rw [if_neg hl, if_neg hl]
theorem arrB_set (L : List Int) {i : Nat} (hi : i < L.length) (h16 : i < 16) : (arrB L i).set i (L.getD i 0 - 1) = arrB L (i + 1) := by
  apply List.ext_getElem
  · simp [arrB]
  · intro j h1 h2
    rw [List.getElem_set]
    simp only [arrB, List.getElem_map, List.getElem_range]
    by_cases hj : i = j
    · subst hj
      rw [if_pos rfl, if_pos hi, if_pos (Nat.lt_succ_self i)]
    · rw [if_neg hj]
      by_cases hl : j < L.length
      · rw [if_pos hl, if_pos hl]
        by_cases hk : j < i
        · rw [if_pos hk, if_pos (by omega)]
        · rw [if_neg hk, if_neg (by omega)]
      · rw [if_neg hl, if_neg hl]
def abTab (N : List Nat) : Bool :=
  let L := N.map Int.ofNat
  decide (L.length = 0) || decide ((pad L).set (L.length - 1) 0 = arrA L 0) && decide (pad (frA L) = arrA L (lastP L).toNat) && decide ((pad L).set L.length (slp L : Int) = arrB L 0) && (decide (15 < L.length) || decide (pad (frB L) = arrB L (slp L)))
set_option maxRecDepth 100000 in
theorem abTab_all : all16.all abTab = true := by decide +kernel
theorem ab_facts {L : List Int} (hv : valid L = true) (h0 : L.length ≠ 0) : (pad L).set (L.length - 1) 0 = arrA L 0 ∧ pad (frA L) = arrA L (lastP L).toNat ∧ (pad L).set L.length (slp L : Int) = arrB L 0 ∧ (L.length ≤ 15 → pad (frB L) = arrB L (slp L)) := by
  obtain ⟨N, hN, rfl⟩ := of_all abTab_all hv
  simp only [abTab, Bool.or_eq_true, Bool.and_eq_true, decide_eq_true_eq, h0, false_or] at hN
  obtain ⟨⟨⟨h1, h2⟩, h3⟩, h4⟩ := hN
  exact ⟨h1, h2, h3, fun h => h4.resolve_left (by omega)⟩
end NP
end Go.Proofs.Ytdoihndifaebcaa
