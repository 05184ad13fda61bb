/-
  Walks of the program: the parts with a sum of which something holds, where parts are listed.
-/
import Derived.Test.YtcjnmconehfbgaaW59
namespace Go.Proofs.Ytcjnmconehfbgaa
open Go.RowKit NP
set_option maxRecDepth 8000
set_option linter.unusedVariables false
set_option linter.unusedSimpArgs false
theorem filter_VL {xs : List VL} {l : List (List Int)} (h : xs.map (·.1) = l) (H0 : List Int → Bool) : (xs.filter (fun x => H0 x.1)).map (·.1) = l.filter H0 := by
  rw [← h, List.filter_map]; rfl
theorem partsWhere_all (k : Nat) (hk : k ≤ 16) (fv : Value) (H0 : List Int → Bool) (w : World) (hfv : IsK w fv H0) :
    Calls Try.prog 80 #[.int .i64 k, fv] w fun e w' => ∃ (a' : Option Addr) (c' : Nat) (vs : List Value), e = .returned (.slice a' ((allQ k k k).filter H0).length c') ∧ OwnLL w' w.heap.size w'.heap.size 22 3 (.slice a' ((allQ k k k).filter H0).length c') vs ((allQ k k k).filter H0) ∧ Below w.heap.size w w' := by
  refine (partsWhere_any k hk fv H0 w hfv (fun x => H0 x.1) (fun _ => rfl)).mono ?_
  rintro e w' ⟨xs, a', c', vs, hxs, rfl, hLL, hb⟩
  have e1 := filter_VL hxs H0
  rw [e1] at hLL
  exact ⟨a', c', vs, by rw [e1], hLL, hb⟩
end Go.Proofs.Ytcjnmconehfbgaa
