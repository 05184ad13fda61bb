/-
  Walks: whether the sides of a box are in limits, of the model.
-/
import Derived.Test.YtcjnmconehfbgaaC1
import Derived.Test.YtcjnmconehfbgaaW1
import Derived.Test.YtcjnmconehfbgaaW79a
namespace Go.Proofs.Ytcjnmconehfbgaa
open Go.RowKit NP
set_option maxRecDepth 8000
set_option linter.unusedVariables false
set_option linter.unusedSimpArgs false
theorem validBox_any (a b : Int) (w : World) :
    Calls Try.prog 55 #[.int .i64 a, .int .i64 b] w fun e w' => e = .returned (.bool (limB a b)) ∧ w = w' := by
  by_cases ha : 0 ≤ a ∧ a ≤ 4
  · by_cases hb : 0 ≤ b ∧ b ≤ 4
    · have HR : Hid (limB a b = true) := Lib.hid (decide_eq_true ⟨ha.1, ha.2, hb.1, hb.2⟩)
      go_enter Try.func55, Try.ntmps55
      go_wp2_with (first
        | (go_at_call 47; (with_reducible refine (inRange_yes a _ _ _ ha.1 ha.2).mono ?_); rintro e w' ⟨rfl, rfl⟩)
        | (go_at_call 47; (with_reducible refine (inRange_yes b _ _ _ hb.1 hb.2).mono ?_); rintro e w' ⟨rfl, rfl⟩))
      go_ret
      exact ⟨ret_bool HR.out.symm, rfl⟩
    · have HR : Hid (limB a b = false) := Lib.hid (decide_eq_false (fun h => hb h.2.2))
      have hb' : b < 0 ∨ 4 < b := by omega
      go_enter Try.func55, Try.ntmps55
      go_wp2_with (first
        | (go_at_call 47; (with_reducible refine (inRange_yes a _ _ _ ha.1 ha.2).mono ?_); rintro e w' ⟨rfl, rfl⟩)
        | (go_at_call 47; (with_reducible refine (inRange_no b _ _ _ hb').mono ?_); rintro e w' ⟨rfl, rfl⟩))
      go_ret
      exact ⟨ret_bool HR.out.symm, rfl⟩
  · have HR : Hid (limB a b = false) := Lib.hid (decide_eq_false (fun h => ha ⟨h.1, h.2.1⟩))
    have ha' : a < 0 ∨ 4 < a := by omega
    go_enter Try.func55, Try.ntmps55
    go_wp2_with (go_at_call 47; refine (inRange_no a _ _ _ ha').mono ?_; rintro e w' ⟨rfl, rfl⟩)
    go_ret
    exact ⟨ret_bool HR.out.symm, rfl⟩
end Go.Proofs.Ytcjnmconehfbgaa
