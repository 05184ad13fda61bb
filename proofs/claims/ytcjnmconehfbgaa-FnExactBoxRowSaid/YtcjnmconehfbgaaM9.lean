/-
  Plain mathematics of sums over squares and divisors.
-/
import Derived.Test.YtcjnmconehfbgaaM8
namespace Go.Proofs.Ytcjnmconehfbgaa
namespace NP
set_option linter.unusedVariables false
def sqn (n : Int) : Nat → Int
  | 0 => 0
  | m + 1 => sqn n m + ctZ (n - (m : Int) * m) m
def scs (n : Int) : Nat → Int
  | 0 => 0
  | m + 1 => scs n m + (if (n - (m : Int) * m) % 2 = 0 then ctZ ((n - (m : Int) * m) / 2) m else 0)
def isq (n : Int) : Nat := ff (fun k => decide ((k : Int) * k ≤ n)) 7
def sqF (n : Int) : Int := if 0 ≤ n ∧ n ≤ 40 then sqn n (isq n) else -1
def scF (n : Int) : Int := if 0 ≤ n ∧ n ≤ 40 then scs n (isq n) else -1
theorem sq_nn (m : Nat) : 0 ≤ (m : Int) * m := Int.mul_nonneg (by omega) (by omega)
theorem sqn_bd (n : Int) (hn : n ≤ 40) (m : Nat) : 0 ≤ sqn n m ∧ sqn n m ≤ 1099511627776 * m := by
  induction m with
  | zero => simp [sqn]
  | succ m ih =>
    have := sq_nn m
    have := ctZ_bd (n - (m : Int) * m) m (by omega)
    simp only [sqn]
    omega
theorem scs_bd (n : Int) (hn : n ≤ 40) (m : Nat) : 0 ≤ scs n m ∧ scs n m ≤ 1099511627776 * m := by
  induction m with
  | zero => simp [scs]
  | succ m ih =>
    have := sq_nn m
    have := ctZ_bd ((n - (m : Int) * m) / 2) m (by omega)
    simp only [scs]
    split <;> omega
theorem sq_lt (k : Nat) (hk : k < 7) : (k : Int) * k ≤ 36 := by
  have : ∀ k : Nat, k < 7 → (k : Int) * k ≤ 36 := by decide
  exact this k hk
theorem isq_eq {n : Int} (hn : n ≤ 40) {k : Nat} (hk : k ≤ 7) (h : ∀ j, j < k → (j : Int) * j ≤ n) (h2 : k = 7 ∨ n < (k : Int) * k) : isq n = k := by
  unfold isq
  refine ff_eq (fun j hj => decide_eq_true (h j hj)) hk ?_
  rcases h2 with h2 | h2
  · exact .inl h2
  · exact .inr (decide_eq_false (by omega))
/-- the sum of the divisors, up to m -/
def dvs (n : Int) : Nat → Int
  | 0 => 0
  | m + 1 => dvs n m + (if n % ((m : Int) + 1) = 0 then (m : Int) + 1 else 0)
def dvF (n : Int) : Int := if 1 ≤ n ∧ n ≤ 40 then dvs n n.toNat else -1
theorem dvs_bd (n : Int) (m : Nat) (hm : m ≤ 41) : 0 ≤ dvs n m ∧ dvs n m ≤ 50 * m := by
  induction m with
  | zero => simp [dvs]
  | succ m ih =>
    have := ih (by omega)
    simp only [dvs]
    split <;> omega
def pnF (k : Int) : Int := if -100 ≤ k ∧ k ≤ 100 then k * (3 * k - 1) / 2 else -1
theorem pn_bd (k : Int) (h1 : -100 ≤ k) (h2 : k ≤ 100) : 0 ≤ k * (3 * k - 1) ∧ k * (3 * k - 1) ≤ 30100 := by
  rcases Int.lt_or_le k 1 with h | h
  · have e : k * (3 * k - 1) = (-k) * (3 * (-k) + 1) := by rw [Int.mul_add, Int.mul_sub, Int.mul_one, Int.mul_one, Int.mul_neg, Int.mul_neg, Int.neg_mul]; omega
    rw [e]
    have a := Int.mul_nonneg (a := -k) (b := 3 * (-k) + 1) (by omega) (by omega)
    have b := Int.mul_le_mul (a := -k) (b := 3 * (-k) + 1) (c := 100) (d := 301) (by omega) (by omega) (by omega) (by omega)
    omega
  · have a := Int.mul_nonneg (a := k) (b := 3 * k - 1) (by omega) (by omega)
    have b := Int.mul_le_mul (a := k) (b := 3 * k - 1) (c := 100) (d := 299) (by omega) (by omega) (by omega) (by omega)
    omega
end NP
end Go.Proofs.Ytcjnmconehfbgaa
