/-
  Walks: the model's LinkSums.
-/
import Derived.Test.YtgbkaahmmpgjfaaW69
import Derived.StillTailTactics
namespace Go.Proofs.Ytgbkaahmmpgjfaa
open Go.RowKit NP
set_option linter.unusedVariables false
theorem same_belowS {P : Program} {f : FuncId} {args : Array Value} {w : World} {v : Value} (h : Calls P f args w fun e w' => e = .returned v ∧ w = w') : Calls P f args w fun e w' => e = .returned v ∧ Below w.heap.size w w' := h.mono fun _ _ ⟨a, b⟩ => ⟨a, b ▸ Below.refl _ _⟩
theorem lnk_snoc (c d : List Int) (x : Int) (near : Bool) (h : d ≠ []) : lnk c (d ++ [x]) near = lnk c d near ++ [x] := by
  unfold lnk
  by_cases hc : near = true ∧ c ≠ []
  · rw [if_pos ⟨hc.1, hc.2, by simp⟩, if_pos ⟨hc.1, hc.2, h⟩]
    cases d with
    | nil => exact absurd rfl h
    | cons y r => simp [addHd]
  · rw [if_neg (fun hh => hc ⟨hh.1, hh.2.1⟩), if_neg (fun hh => hc ⟨hh.1, hh.2.1⟩), List.append_assoc]
theorem lnk_far (c : List Int) (x : Int) (near : Bool) (h : ¬ (near = true ∧ c ≠ [])) : lnk c [x] near = c ++ [x] := by
  unfold lnk
  rw [if_neg (fun hh => h ⟨hh.1, hh.2.1⟩)]
theorem lnk_near (c : List Int) (x : Int) (h : 0 < c.length) : lnk c [x] true = c.set (c.length - 1) (c[c.length - 1]'(by omega) + x) := by
  have hne : c ≠ [] := List.length_pos_iff.1 h
  unfold lnk
  rw [if_pos ⟨rfl, hne, by simp⟩]
  have e := List.dropLast_concat_getLast hne
  have hl : c.getLastD 0 = c[c.length - 1]'(by omega) := by rw [List.getLastD_eq_getLast?, List.getLast?_eq_some_getLast hne, Option.getD_some, List.getLast_eq_getElem]
  have hl2 : c.getLast hne = c[c.length - 1]'(by omega) := List.getLast_eq_getElem _
  rw [hl]
  conv => rhs; rw [show c.set (c.length - 1) (c[c.length - 1]'(by omega) + x) = (c.dropLast ++ [c.getLast hne]).set (c.length - 1) (c[c.length - 1]'(by omega) + x) by rw [e]]
  rw [List.set_append_right _ _ (by simp)]
  simp [addHd]
theorem lnk_length (c d : List Int) (near : Bool) : (lnk c d near).length ≤ c.length + d.length := by
  unfold lnk
  split
  · rename_i h
    cases d with
    | nil => exact absurd rfl h.2.2
    | cons y r => simp [addHd] <;> omega
  · simp
end Go.Proofs.Ytgbkaahmmpgjfaa
