/-
  Walks: Pentagonal of the program, alone.
-/
import Derived.Test.YtdoihndifaebcaaW1
namespace Go.Proofs.Ytdoihndifaebcaa
open Go.RowKit
set_option linter.unusedVariables false
namespace NP
def pnF (k : Int) : Int := if -100 ≤ k ∧ k ≤ 100 then k * (3 * k - 1) / 2 else -1
theorem pn_bd (k : Int) (h1 : -100 ≤ k) (h2 : k ≤ 100) : 0 ≤ k * (3 * k - 1) ∧ k * (3 * k - 1) ≤ 30100 := by
  rcases Int.lt_or_le k 1 with h | h
  · have e : k * (3 * k - 1) = (-k) * (3 * (-k) + 1) := by rw [Int.mul_add, Int.mul_sub, Int.mul_one, Int.mul_one, Int.mul_neg, Int.mul_neg, Int.neg_mul]; omega
    rw [e]
    have a := Int.mul_nonneg (a := -k) (b := 3 * (-k) + 1) (by omega) (by omega)
    have b := Int.mul_le_mul (a := -k) (b := 3 * (-k) + 1) (c := 100) (d := 301) (by omega) (by omega) (by omega) (by omega)
    omega
  · have a := Int.mul_nonneg (a := k) (b := 3 * k - 1) (by omega) (by omega)
    have b := Int.mul_le_mul (a := k) (b := 3 * k - 1) (c := 100) (d := 299) (by omega) (by omega) (by omega) (by omega)
    omega
end NP
open NP

theorem iPentagonal_any (n : Int) (w : World) :
    Calls Try.prog 33 #[.int .i64 n] w fun e w' => e = .returned (.int .i64 (pnF n)) ∧ Below w.heap.size w w' := by
  by_cases h : -100 ≤ n ∧ n ≤ 100
  · have HF : Hid (pnF n = n * (3 * n - 1) / 2) := Lib.hid (by unfold pnF; rw [if_pos h])
    rw [HF.out]
    have g1 : decide (n < -100) = false := decide_eq_false (by omega)
    have g2 : decide (100 < n) = false := decide_eq_false (by omega)
    obtain ⟨h1, h2⟩ := h
    have hb := pn_bd n h1 h2
    obtain ⟨q, hq0, e1, e2, HQ⟩ : ∃ q : Int, (0 ≤ q ∧ q ≤ 30100) ∧ wrap64 (n * (3 * n - 1)) = q ∧ IntKind.i64.wrap (n * (3 * n - 1)) = q ∧ Hid (n * (3 * n - 1) = q) := ⟨_, hb, IntWalk.wrap64_in _ (by omega), IntWalk.i64_in _ (by omega), Lib.hid rfl⟩
    clear hb
    rw [HQ.out]
    go_enter Try.func33, Try.ntmps33
    go_wp2_with fail
    go_ret
    exact ⟨rfl, Below.refl _ _⟩
  · have HF : Hid (pnF n = -1) := Lib.hid (by unfold pnF; rw [if_neg h])
    rw [HF.out]
    by_cases h1 : n < -100
    · have g1 : decide (n < -100) = true := decide_eq_true h1
      clear h h1
      go_enter Try.func33, Try.ntmps33
      go_wp2
      go_ret
      exact ⟨rfl, Below.refl _ _⟩
    · have g1 : decide (n < -100) = false := decide_eq_false h1
      have g2 : decide (100 < n) = true := decide_eq_true (by omega)
      clear h h1
      go_enter Try.func33, Try.ntmps33
      go_wp2
      go_ret
      exact ⟨rfl, Below.refl _ _⟩
end Go.Proofs.Ytdoihndifaebcaa
