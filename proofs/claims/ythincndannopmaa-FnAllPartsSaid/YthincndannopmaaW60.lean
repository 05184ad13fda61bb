/-
  Walks of the program: all parts with a sum.
-/
import Derived.Test.YthincndannopmaaW59
namespace Go.Proofs.Ythincndannopmaa
open Go.RowKit NP
set_option linter.unusedVariables false
set_option linter.unusedSimpArgs false
def apF (n : Int) : List (List Int) := if 0 ≤ n ∧ n ≤ 12 then allQ n.toNat n.toNat n.toNat else []
theorem apF_yes {n : Nat} (h : n ≤ 12) : apF (n : Int) = allQ n n n := by unfold apF; rw [if_pos (by omega)]; simp
theorem apF_no {n : Int} (h : ¬ (0 ≤ n ∧ n ≤ 12)) : apF n = [] := by unfold apF; rw [if_neg h]

theorem all1_any (x : VL) (W : World) : Calls Try.prog 23 #[.agg (arr (pad x.1))] W fun e W' => e = .returned (.bool true) ∧ Below W.heap.size W W' := by
  go_enter Try.func23, Try.ntmps23
  go_wp2_with fail
  go_ret
  exact ⟨rfl, (Below.refl _ _).alloc (Nat.le_refl _) _⟩
theorem listWhere_no (n : Int) (h : ¬ (0 ≤ n ∧ n ≤ 12)) (f : Value) (w : World) :
    Calls Try.prog 22 #[.int .i64 n, .func (.func 23) #[] #[]] w fun e w' => e = .returned (.slice none 0 0) ∧ Below w.heap.size w w' := by
  by_cases h0 : n < 0
  · have d1 : decide (n < 0) = true := decide_eq_true h0
    go_enter Try.func22, Try.ntmps22
    go_wp2_with fail
    go_ret
    exact ⟨rfl, (Below.refl _ _).alloc (Nat.le_refl _) _⟩
  · have d1 : decide (n < 0) = false := decide_eq_false h0
    have d2 : decide (12 < n) = true := decide_eq_true (by omega)
    go_enter Try.func22, Try.ntmps22
    go_wp2_with fail
    go_ret
    exact ⟨rfl, (Below.refl _ _).alloc (Nat.le_refl _) _⟩
theorem iAllParts_any (n : Int) (w : World) :
    Calls Try.prog 7 #[.int .i64 n] w fun e w' => ∃ (a' : Option Addr) (c' : Nat) (vs : List Value), e = .returned (.slice a' (apF n).length c') ∧ OwnLL w' w.heap.size w'.heap.size 30 3 (.slice a' (apF n).length c') vs (apF n) ∧ Below w.heap.size w w' := by
  by_cases h : 0 ≤ n ∧ n ≤ 12
  · obtain ⟨k, rfl⟩ := Int.eq_ofNat_of_zero_le h.1
    have hk : k ≤ 12 := by omega
    have HE := Lib.hid (apF_yes hk)
    clear h
    go_enter Try.func7, Try.ntmps7
    go_wp2_with (go_at_call 22; refine (listWhere_any k hk _ rfl (fun _ => true) (fun x W => all1_any x W) _).mono ?_; rintro e w1 ⟨xs, a', c', vs, hxs, rfl, hLL, hb⟩; have hfx : (xs.filter (fun _ => true)).map (·.1) = allQ k k k := (by rw [← hxs]; congr 1; simp); rw [hfx] at hLL ⊢)
    go_ret
    rw [HE.out]
    exact ⟨a', c', vs, rfl, hLL, hb⟩
  · have HE := Lib.hid (apF_no h)
    have HH := Lib.hid h
    clear h
    go_enter Try.func7, Try.ntmps7
    go_wp2_with (go_at_call 22; refine (listWhere_no n HH.out (.bool true) _).mono ?_; rintro e w1 ⟨rfl, hb⟩)
    go_ret
    rw [HE.out]
    exact ⟨none, 0, [], rfl, OwnLL.nil _ _ _ _, hb⟩
end Go.Proofs.Ythincndannopmaa
