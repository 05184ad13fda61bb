/-
  Walks: the model's parts of summands.
-/
import Derived.Test.YtgbkaahmmpgjfaaW76
import Derived.Test.YtgbkaahmmpgjfaaW68
namespace Go.Proofs.Ytgbkaahmmpgjfaa
open Go.RowKit NP
set_option linter.unusedVariables false
theorem same_belowS {P : Program} {f : FuncId} {args : Array Value} {w : World} {v : Value} (h : Calls P f args w fun e w' => e = .returned v ∧ w = w') : Calls P f args w fun e w' => e = .returned v ∧ Below w.heap.size w w' := h.mono fun _ _ ⟨a, b⟩ => ⟨a, b ▸ Below.refl _ _⟩
theorem sPartsOfSums_any (a : Option Addr) (c B : Nat) (L : List Int) (w : World) (h : Rd w B a (ints L)) (hB : B ≤ w.heap.size) (hl : L.length ≤ 1048576) :
    Calls Try.prog 29 #[.slice a L.length c] w fun e w' => ∃ a' c', e = .returned (.slice a' (posF L).length c') ∧ Own w' w.heap.size w'.heap.size 3 (.slice a' (posF L).length c') (ints (posF L)) ∧ Below w.heap.size w w' := by
  cases hv : vsm L with
  | true =>
    have HF := Lib.hid (posF_yes hv)
    have HV := Lib.hid hv
    clear hv
    go_enter Try.func29, Try.ntmps29
    go_wp2_with (first | (go_at_call 57; refine (validSums_any _ _ B L _ h (by omega)).mono ?_; rintro e w' ⟨rfl, rfl⟩; rw [HV.out]) | (go_at_call 58; refine (merge_any _ _ B L _ h hB hl).mono ?_; rintro e w1 ⟨a', c', rfl, ho, hb⟩))
    go_ret
    rw [HF.out]
    exact ⟨a', c', rfl, ho, hb⟩
  | false =>
    have HF := Lib.hid (posF_no hv)
    have HV := Lib.hid hv
    clear hv
    go_enter Try.func29, Try.ntmps29
    go_wp2_with (go_at_call 57; refine (validSums_any _ _ B L _ h (by omega)).mono ?_; rintro e w' ⟨rfl, rfl⟩; rw [HV.out])
    go_ret
    rw [HF.out]
    exact ⟨none, 0, rfl, Own.nil _ _ _, Below.refl _ _⟩
end Go.Proofs.Ytgbkaahmmpgjfaa
