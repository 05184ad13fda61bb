/-
  Walks: corners of the model and of the program.
-/
import Derived.Test.YtpjlbmdpbjdkhaaW4
import Derived.Test.YtpjlbmdpbjdkhaaM3
namespace Go.Proofs.Ytpjlbmdpbjdkhaa
open Go.RowKit NP
set_option linter.unusedVariables false



theorem isCorner_any (D : List Int) (hD : D.length = 16) (i : Nat) (hi : i < 16) (w : World) :
    Calls Try.prog 43 #[.agg (arr D), .int .i64 i] w fun e w' => e = .returned (.bool (isCD D i)) ∧ Below w.heap.size w w' := by
  have hiD : i < D.length := by omega
  have hc := box_cell w D i hiD
  have hi' : (i : Int) < 16 := by omega
  have g0 : D.getD i 0 = D[i] := by rw [List.getD_eq_getElem?_getD, List.getElem?_eq_getElem hiD, Option.getD_some]
  by_cases h0 : 0 < D[i]
  · by_cases h15 : i = 15
    · have e1 : ((i : Int) == 15) = true := beq_iff_eq.2 (by omega)
      have HC : Hid (isCD D i = true) := Lib.hid (by unfold isCD; rw [g0, decide_eq_true h0, decide_eq_true h15]; rfl)
      clear h15 g0
      go_enter Try.func43, Try.ntmps43
      go_wp2_with fail
      go_quiet (fail)
      go_wp2
      go_ret
      exact ⟨ret_bool HC.out.symm, ((Below.refl _ _).alloc (Nat.le_refl _) _).trans ((Dr.n _ _).below _)⟩
    · have e1 : ((i : Int) == 15) = false := beq_eq_false_iff_ne.2 (by omega)
      have hi1 : i + 1 < D.length := by omega
      have hc1 := box_cell w D (i + 1) hi1
      have HC : Hid (isCD D i = decide (D[i + 1] < D[i])) := Lib.hid (by unfold isCD; rw [g0, List.getD_eq_getElem?_getD, List.getElem?_eq_getElem hi1, Option.getD_some, decide_eq_true h0, decide_eq_false h15]; rfl)
      clear h15 g0
      go_enter Try.func43, Try.ntmps43
      go_wp2_with fail
      go_quiet (fail)
      go_wp2
      go_ret
      exact ⟨ret_bool HC.out.symm, ((Below.refl _ _).alloc (Nat.le_refl _) _).trans ((Dr.n _ _).below _)⟩
  · have HC : Hid (isCD D i = false) := Lib.hid (by unfold isCD; rw [g0, decide_eq_false h0]; rfl)
    clear g0
    have h0' : decide (0 < D[i]) = false := decide_eq_false h0
    clear h0
    go_enter Try.func43, Try.ntmps43
    go_wp2_with fail
    go_quiet (fail)
    go_wp2
    go_ret
    exact ⟨ret_bool HC.out.symm, ((Below.refl _ _).alloc (Nat.le_refl _) _).trans ((Dr.n _ _).below _)⟩


end Go.Proofs.Ytpjlbmdpbjdkhaa
