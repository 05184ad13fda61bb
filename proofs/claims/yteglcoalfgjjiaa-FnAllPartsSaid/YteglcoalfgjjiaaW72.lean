/-
  Walks of the program: the parts with a sum of which something holds, where parts are listed.
-/
import Derived.Test.YteglcoalfgjjiaaW59
namespace Go.Proofs.Yteglcoalfgjjiaa
open Go.RowKit NP
set_option linter.unusedVariables false
set_option linter.unusedSimpArgs false
theorem filter_VL {xs : List VL} {l : List (List Int)} (h : xs.map (·.1) = l) (H0 : List Int → Bool) : (xs.filter (fun x => H0 x.1)).map (·.1) = l.filter H0 := by
  rw [← h, List.filter_map]; rfl
theorem partsWhere_all (k : Nat) (hk : k ≤ 16) (fv : Value) (H0 : List Int → Bool) (w : World) (hfv : IsK w fv H0) :
    Calls Try.prog 66 #[.int .i64 k, fv] w fun e w' => ∃ (a' : Option Addr) (c' : Nat) (vs : List Value), e = .returned (.slice a' ((allQ k k k).filter H0).length c') ∧ OwnLL w' w.heap.size w'.heap.size 22 3 (.slice a' ((allQ k k k).filter H0).length c') vs ((allQ k k k).filter H0) ∧ Below w.heap.size w w' := by
  refine (partsWhere_any k hk fv H0 w hfv (fun x => H0 x.1) (fun _ => rfl)).mono ?_
  rintro e w' ⟨xs, a', c', vs, hxs, rfl, hLL, hb⟩
  have e1 := filter_VL hxs H0
  rw [e1] at hLL
  exact ⟨a', c', vs, by rw [e1], hLL, hb⟩
theorem listWhere_any (k : Nat) (hk : k ≤ 12) (fv : Value) (H0 : List Int → Bool) (w : World) (hfv : IsK w fv H0) :
    Calls Try.prog 51 #[.int .i64 k, fv] w fun e w' => ∃ (a' : Option Addr) (c' : Nat) (vs : List Value), e = .returned (.slice a' ((allQ k k k).filter H0).length c') ∧ OwnLL w' w.heap.size w'.heap.size 22 3 (.slice a' ((allQ k k k).filter H0).length c') vs ((allQ k k k).filter H0) ∧ Below w.heap.size w w' := by
  have d1 : decide ((k : Int) < 0) = false := decide_eq_false (by omega)
  have d2 : decide ((12 : Int) < (k : Int)) = false := decide_eq_false (by omega)
  have d2' : decide (12 < k) = false := decide_eq_false (by omega)
  go_enter Try.func51, Try.ntmps51
  go_wp2_with (go_at_call 66; refine (partsWhere_all k (by omega) fv H0 _ hfv).mono ?_; rintro e w1 ⟨a', c', vs, rfl, hLL, hb⟩)
  go_ret
  exact ⟨a', c', vs, rfl, hLL, hb⟩
theorem listWhere_no (n : Int) (h : ¬ (0 ≤ n ∧ n ≤ 12)) (f : Value) (w : World) :
    Calls Try.prog 51 #[.int .i64 n, f] w fun e w' => e = .returned (.slice none 0 0) ∧ Below w.heap.size w w' := by
  by_cases h0 : n < 0
  · have d1 : decide (n < 0) = true := decide_eq_true h0
    go_enter Try.func51, Try.ntmps51
    go_wp2_with fail
    go_ret
    exact ⟨rfl, Below.refl _ _⟩
  · have d1 : decide (n < 0) = false := decide_eq_false h0
    have d2 : decide (12 < n) = true := decide_eq_true (by omega)
    go_enter Try.func51, Try.ntmps51
    go_wp2_with fail
    go_ret
    exact ⟨rfl, Below.refl _ _⟩
end Go.Proofs.Yteglcoalfgjjiaa
