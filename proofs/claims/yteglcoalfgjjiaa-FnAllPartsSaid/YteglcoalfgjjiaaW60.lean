/-
  Walks of the program: all parts with a sum.
-/
import Derived.Test.YteglcoalfgjjiaaW72
namespace Go.Proofs.Yteglcoalfgjjiaa
open Go.RowKit NP
set_option linter.unusedVariables false
set_option linter.unusedSimpArgs false
def apF (n : Int) : List (List Int) := if 0 ≤ n ∧ n ≤ 12 then allQ n.toNat n.toNat n.toNat else []
theorem apF_yes {n : Nat} (h : n ≤ 12) : apF (n : Int) = allQ n n n := by unfold apF; rw [if_pos (by omega)]; simp
theorem apF_no {n : Int} (h : ¬ (0 ≤ n ∧ n ≤ 12)) : apF n = [] := by unfold apF; rw [if_neg h]

theorem all1_any (D : List Int) (W : World) : Calls Try.prog 52 #[.agg (arr D)] W fun e W' => e = .returned (.bool true) ∧ Below W.heap.size W W' := by
  go_enter Try.func52, Try.ntmps52
  go_wp2_with fail
  go_ret
  exact ⟨rfl, (Below.refl _ _).alloc (Nat.le_refl _) _⟩
theorem all1_isK (w : World) : IsK w (.func (.func 52) #[] #[]) (fun _ => true) :=
  ⟨_, _, _, rfl, enters_of Try.func52 (by kernel_rfl) rfl, fun w1 _ L _ => by have := all1_any (pad L) w1; simpa using this⟩
theorem iAllParts_any (n : Int) (w : World) :
    Calls Try.prog 27 #[.int .i64 n] w fun e w' => ∃ (a' : Option Addr) (c' : Nat) (vs : List Value), e = .returned (.slice a' (apF n).length c') ∧ OwnLL w' w.heap.size w'.heap.size 22 3 (.slice a' (apF n).length c') vs (apF n) ∧ Below w.heap.size w w' := by
  by_cases h : 0 ≤ n ∧ n ≤ 12
  · obtain ⟨k, rfl⟩ := Int.eq_ofNat_of_zero_le h.1
    have hk : k ≤ 12 := by omega
    have HE := Lib.hid (apF_yes hk)
    clear h
    go_enter Try.func27, Try.ntmps27
    go_wp2_with (go_at_call 51; refine (listWhere_any k hk _ (fun _ => true) _ (all1_isK _)).mono ?_; rintro e w1 ⟨a', c', vs, rfl, hLL, hb⟩; have hfx : (allQ k k k).filter (fun _ => true) = allQ k k k := (by simp); rw [hfx] at hLL ⊢)
    go_ret
    rw [HE.out]
    exact ⟨a', c', vs, rfl, hLL, hb⟩
  · have HE := Lib.hid (apF_no h)
    have HH := Lib.hid h
    clear h
    go_enter Try.func27, Try.ntmps27
    go_wp2_with (go_at_call 51; refine (listWhere_no n HH.out _ _).mono ?_; rintro e w1 ⟨rfl, hb⟩)
    go_ret
    rw [HE.out]
    exact ⟨none, 0, [], rfl, OwnLL.nil _ _ _ _, hb⟩
end Go.Proofs.Yteglcoalfgjjiaa
