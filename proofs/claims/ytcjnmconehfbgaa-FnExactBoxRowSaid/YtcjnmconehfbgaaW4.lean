/-
  Walks: the exported functions of chapter 1 on one list of numbers, of the model (spec) and of the program (impl): valid, sum, conjugate, durfee.
-/
import Derived.Test.YtcjnmconehfbgaaW3
namespace Go.Proofs.Ytcjnmconehfbgaa
open Go.RowKit NP
set_option maxRecDepth 8000
set_option linter.unusedVariables false

def sumF (L : List Int) : Int := if valid L then sumL L else -1
theorem sumF_yes {L : List Int} (h : valid L = true) : sumF L = sumL L := by simp [sumF, h]
theorem sumF_no {L : List Int} (h : valid L = false) : sumF L = -1 := by simp [sumF, h]
def durF (L : List Int) : Int := if valid L then durS L else -1
theorem durF_yes {L : List Int} (h : valid L = true) : durF L = durS L := by simp [durF, h]
theorem durF_no {L : List Int} (h : valid L = false) : durF L = -1 := by simp [durF, h]
def conjF (L : List Int) : List Int := if valid L then conj L else []
theorem conjF_yes {L : List Int} (h : valid L = true) : conjF L = conj L := by simp [conjF, h]
theorem conjF_no {L : List Int} (h : valid L = false) : conjF L = [] := by simp [conjF, h]
theorem conjF_len (L : List Int) : (conjF L).length ≤ 16 := by
  unfold conjF
  split
  · rename_i h
    rw [conj_len]
    have := headD_bd h
    omega
  · simp
theorem sumF_conjF {L : List Int} (h : valid L = true) : sumF (conjF L) = sumL L := by
  rw [conjF_yes h, sumF_yes (valid_conj h), sumL_conj h]
theorem valid_fits {L : List Int} (h : valid L = true) : sumFits L := fun k hk => by
  have := preS_sum (preS_of_valid h) k hk
  have := (valid_bd h).2.2.2
  omega
theorem sumL_zeros (n : Nat) : sumL (List.replicate n 0) = 0 := by
  induction n with
  | zero => rfl
  | succ n ih => rw [List.replicate_succ, sumL, ih]; rfl
theorem sumL_pad (L : List Int) : sumL (pad L) = sumL L := by unfold pad; rw [sumL_append, sumL_zeros]; omega
theorem pad_nonneg {L : List Int} (h : valid L = true) : ∀ k (hk : k < (pad L).length), 0 ≤ (pad L)[k] ∧ (pad L)[k] ≤ 16 := by
  intro k hk
  have hl := (valid_bd h).2.2.2
  rw [pad_len hl] at hk
  by_cases h1 : k < L.length
  · rw [pad_get hl h1]
    have := preS_of_valid h k h1 h1
    omega
  · rw [pad_get0 hl (by omega) hk]; omega
theorem pad_fits {L : List Int} (h : valid L = true) : sumFits (pad L) := by
  have hl := (valid_bd h).2.2.2
  have key : ∀ k, k ≤ (pad L).length → 0 ≤ sumL ((pad L).take k) ∧ sumL ((pad L).take k) ≤ 16 * k := by
    intro k
    induction k with
    | zero => intro _; simp [sumL]
    | succ k ih =>
      intro hk
      have := ih (by omega)
      have h1 := pad_nonneg h k (by omega)
      rw [sumL_take_succ _ k (by omega)]
      omega
  intro k hk
  have := key k hk
  rw [pad_len hl] at hk
  omega
theorem durD_pad {L : List Int} (h : valid L = true) : durD (pad L) = durS L := by
  have hl := (valid_bd h).2.2.2
  have hn : ∀ j, j ≤ L.length → (∀ i, i < j → decide ((i : Int) < L.getD i 0) = true) → (j = L.length ∨ decide ((j : Int) < L.getD j 0) = false) → durD (pad L) = j ∧ durS L = j := by
    intro j hj hp hq
    refine ⟨ff_eq (fun i hi => ?_) (by omega) ?_, ff_eq hp hj hq⟩
    · have := hp i hi
      rw [List.getD_eq_getElem?_getD, List.getElem?_eq_getElem (by omega), Option.getD_some] at this
      rw [List.getD_eq_getElem?_getD, List.getElem?_eq_getElem (by rw [pad_len hl]; omega), Option.getD_some, pad_get hl (by omega)]
      exact this
    · rcases Nat.lt_or_ge j 16 with h16 | h16
      · right
        rw [List.getD_eq_getElem?_getD, List.getElem?_eq_getElem (by rw [pad_len hl]; omega), Option.getD_some]
        rcases Nat.lt_or_ge j L.length with hjl | hjl
        · rw [pad_get hl hjl]
          rcases hq with hq | hq
          · omega
          · rw [List.getD_eq_getElem?_getD, List.getElem?_eq_getElem (by omega), Option.getD_some] at hq
            exact hq
        · rw [pad_get0 hl hjl h16]; simp
      · left; omega
  have ex : ∀ n, n ≤ L.length → (∀ i, i < n → decide ((i : Int) < L.getD i 0) = true) ∨ ∃ j, j < n ∧ (∀ i, i < j → decide ((i : Int) < L.getD i 0) = true) ∧ decide ((j : Int) < L.getD j 0) = false := by
    intro n
    induction n with
    | zero => intro _; left; intro i hi; omega
    | succ n ih =>
      intro hn
      rcases ih (by omega) with h1 | ⟨j, hj, h1, h2⟩
      · cases hd : decide ((n : Int) < L.getD n 0) with
        | true =>
          left
          intro i hi
          rcases Nat.lt_or_ge i n with h3 | h3
          · exact h1 i h3
          · obtain rfl : i = n := by omega
            exact hd
        | false => right; exact ⟨n, by omega, h1, hd⟩
      · right; exact ⟨j, by omega, h1, h2⟩
  rcases ex L.length (Nat.le_refl _) with h1 | ⟨j, hj, h1, h2⟩
  · have := hn L.length (Nat.le_refl _) h1 (.inl rfl)
    rw [this.1, this.2]
  · have := hn j (by omega) h1 (.inr h2)
    rw [this.1, this.2]





theorem dg_len (L : List Int) : (dg L).length = 16 := by
  unfold dg
  split
  · exact pad_len (valid_bd ‹_›).2.2.2
  · rfl







end Go.Proofs.Ytcjnmconehfbgaa
