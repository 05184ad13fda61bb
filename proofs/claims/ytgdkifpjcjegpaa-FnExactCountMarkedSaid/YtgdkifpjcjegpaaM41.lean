/-
  Plain mathematics: the model's table of piles; piles in boxes.
-/
import Derived.Test.YtgdkifpjcjegpaaM40
namespace Go.Proofs.Ytgdkifpjcjegpaa
namespace NP
set_option linter.unusedVariables false
/-- the squares of the divisors up to k -/
def dsq (n : Int) : Nat → Int
  | 0 => 0
  | k + 1 => dsq n k + (if n % ((k : Int) + 1) = 0 then ((k : Int) + 1) * ((k : Int) + 1) else 0)
def pts (T : List Int) (m : Nat) : Nat → Int
  | 0 => 0
  | k + 1 => pts T m k + dsq ((k : Int) + 1) (k + 1) * T.getD (m - (k + 1)) 0
def pltab : Nat → List Int
  | 0 => [1]
  | m + 1 => pltab m ++ [pts (pltab m) (m + 1) (m + 1) / ((m : Int) + 1)]
theorem pltab_len (m : Nat) : (pltab m).length = m + 1 := by
  induction m with
  | zero => rfl
  | succ m ih => show (pltab m ++ [_]).length = _; rw [List.length_append, ih]; rfl
def ptOk (T : List Int) (m : Nat) : Bool := (List.range (m + 2)).all fun k => decide (0 ≤ pts T (m + 1) k) && decide (pts T (m + 1) k ≤ 1099511627776) && decide (0 ≤ dsq ((k : Int) + 1) (k + 1) * T.getD (m + 1 - (k + 1)) 0) && decide (dsq ((k : Int) + 1) (k + 1) * T.getD (m + 1 - (k + 1)) 0 ≤ 1099511627776) && decide (0 ≤ T.getD (m + 1 - (k + 1)) 0) && decide (T.getD (m + 1 - (k + 1)) 0 ≤ 1099511627776)
def ptChk : Nat → Nat → List Int → List Int → Bool
  | 0, _, _, _ => true
  | f + 1, j, T, P => decide (T.getD j 0 = P.getD j 0) && ptOk T j && ptChk f (j + 1) (T ++ [pts T (j + 1) (j + 1) / ((j : Int) + 1)]) (wpEnd (j + 1) (j + 1) P)
theorem ptChk_at : ∀ (f j : Nat), ptChk f j (pltab j) (plrow j) = true → ∀ i, i < f → (pltab (j + i)).getD (j + i) 0 = (plrow (j + i)).getD (j + i) 0 ∧ ptOk (pltab (j + i)) (j + i) = true := by
  intro f
  induction f with
  | zero => intro j _ i hi; omega
  | succ f ih =>
    intro j h i hi
    unfold ptChk at h
    simp only [Bool.and_eq_true, decide_eq_true_eq] at h
    obtain ⟨⟨h1, h2⟩, h3⟩ := h
    have e0 : wpEnd (j + 1) (j + 1) (plrow j) = plrow (j + 1) := by
      have := wpEnd_eq (p := j + 1) (by omega) (j + 1) 0 (plrow j)
      rw [Nat.zero_add] at this
      exact this
    rw [e0] at h3
    cases i with
    | zero => exact ⟨h1, h2⟩
    | succ i =>
      have := ih (j + 1) h3 i (by omega)
      have e : j + (i + 1) = j + 1 + i := by omega
      rw [e]
      exact this
set_option maxRecDepth 100000 in
theorem ptChk_all : ptChk 17 0 (pltab 0) (plrow 0) = true := by decide +kernel
theorem pt_eq {n : Nat} (h : n ≤ 16) : (pltab n).getD n 0 = (plrow n).getD n 0 := by
  have := (ptChk_at 17 0 ptChk_all n (by omega)).1
  simpa using this
theorem pt_bd {m k : Nat} (h : m < 16) (hk : k ≤ m + 1) : (0 ≤ pts (pltab m) (m + 1) k ∧ pts (pltab m) (m + 1) k ≤ 1099511627776) ∧ (0 ≤ dsq ((k : Int) + 1) (k + 1) * (pltab m).getD (m + 1 - (k + 1)) 0 ∧ dsq ((k : Int) + 1) (k + 1) * (pltab m).getD (m + 1 - (k + 1)) 0 ≤ 1099511627776) ∧ 0 ≤ (pltab m).getD (m + 1 - (k + 1)) 0 ∧ (pltab m).getD (m + 1 - (k + 1)) 0 ≤ 1099511627776 := by
  have h1 := (ptChk_at 17 0 ptChk_all m (by omega)).2
  rw [Nat.zero_add] at h1
  unfold ptOk at h1
  have h2 := List.all_eq_true.1 h1 k (by simp; omega)
  simp only [Bool.and_eq_true, decide_eq_true_eq] at h2
  obtain ⟨⟨⟨⟨⟨a, b⟩, c⟩, d⟩, e⟩, f⟩ := h2
  exact ⟨⟨a, b⟩, ⟨c, d⟩, e, f⟩
theorem pltab_at {m i : Nat} (h : i ≤ m) : (pltab m).getD i 0 = (pltab i).getD i 0 := by
  induction m with
  | zero => obtain rfl : i = 0 := by omega
            rfl
  | succ m ih =>
    rcases Nat.lt_or_ge i (m + 1) with h1 | h1
    · rw [← ih (by omega)]
      show (pltab m ++ [_]).getD i 0 = _
      rw [getD_lt (by rw [List.length_append, pltab_len]; simp; omega), getD_lt (by rw [pltab_len]; omega), List.getElem_append_left (by rw [pltab_len]; omega)]
    · obtain rfl : i = m + 1 := by omega
      rfl
theorem dsq_bd (n : Int) (k : Nat) (hk : k ≤ 40) : 0 ≤ dsq n k ∧ dsq n k ≤ 1600 * k := by
  induction k with
  | zero => exact ⟨Int.le_refl _, by simp [dsq]⟩
  | succ k ih =>
    have := ih (by omega)
    simp only [dsq]
    have h1 : ∀ j : Nat, j < 40 → 0 ≤ ((j : Int) + 1) * ((j : Int) + 1) ∧ ((j : Int) + 1) * ((j : Int) + 1) ≤ 1600 := by decide
    have h2 := h1 k (by omega)
    split <;> omega
/-- a number below 17 that divides: its square -/
theorem sq_small (k : Nat) (hk : k ≤ 40) : 0 ≤ (k : Int) * (k : Int) ∧ (k : Int) * (k : Int) ≤ 1600 := by
  have h1 : ∀ j : Nat, j < 41 → 0 ≤ (j : Int) * (j : Int) ∧ (j : Int) * (j : Int) ≤ 1600 := by decide
  exact h1 k (by omega)
/-- the product of the program, a row and all rows -/
def bpR (c i : Nat) (s : Int × Int) : Nat → Int × Int
  | 0 => s
  | k + 1 => ((bpR c i s k).1 * ((i : Int) + k + 1 + c), (bpR c i s k).2 * ((i : Int) + k + 1))
def bpA (b c : Nat) : Nat → Int × Int
  | 0 => (1, 1)
  | i + 1 => bpR c i (bpA b c i) b
def bpF (a b c : Int) : Int := if (0 ≤ a ∧ a ≤ 4) ∧ (0 ≤ b ∧ b ≤ 4) ∧ 0 ≤ c ∧ c ≤ 4 then (bpA b.toNat c.toNat a.toNat).1 / (bpA b.toNat c.toNat a.toNat).2 else -1
theorem bp_all : ∀ b, b < 5 → ∀ c, c < 5 → ∀ i, i < 4 → ∀ k, k < 5 → (1 ≤ (bpR c i (bpA b c i) k).1 ∧ (bpR c i (bpA b c i) k).1 ≤ 1152921504606846976) ∧ 1 ≤ (bpR c i (bpA b c i) k).2 ∧ (bpR c i (bpA b c i) k).2 ≤ 1152921504606846976 := by decide +kernel
/-- the product of the model: divided by what both have at each step -/
def smS (c i k : Nat) (s : Int × Int) : Int × Int :=
  let u := s.1 * (((i : Int) + 1) + ((k : Int) + 1) + c - 1)
  let d := s.2 * (((i : Int) + 1) + ((k : Int) + 1) - 1)
  let g := (Nat.gcd u.toNat d.toNat : Int)
  (u / g, d / g)
def smR (c i : Nat) (s : Int × Int) : Nat → Int × Int
  | 0 => s
  | k + 1 => smS c i k (smR c i s k)
def smA (b c : Nat) : Nat → Int × Int
  | 0 => (1, 1)
  | i + 1 => smR c i (smA b c i) b
theorem sm_all : ∀ b, b < 5 → ∀ c, c < 5 → ∀ i, i < 5 → ∀ k, k < 5 → (1 ≤ (smR c i (smA b c i) k).1 ∧ (smR c i (smA b c i) k).1 ≤ 1152921504606846) ∧ 1 ≤ (smR c i (smA b c i) k).2 ∧ (smR c i (smA b c i) k).2 ≤ 1152921504606846 := by decide +kernel
theorem sm_bp : ∀ b, b < 5 → ∀ c, c < 5 → ∀ a, a < 5 → (smA b c a).1 / (smA b c a).2 = (bpA b c a).1 / (bpA b c a).2 := by decide +kernel
theorem sm_step {b c i k : Nat} (hb : b < 5) (hc : c < 5) (hi : i < 5) (hk : k < 5) : let s := smR c i (smA b c i) k; (1 ≤ s.1 * (((i : Int) + 1) + ((k : Int) + 1) + c - 1) ∧ s.1 * (((i : Int) + 1) + ((k : Int) + 1) + c - 1) ≤ 1152921504606846976) ∧ 1 ≤ s.2 * (((i : Int) + 1) + ((k : Int) + 1) - 1) ∧ s.2 * (((i : Int) + 1) + ((k : Int) + 1) - 1) ≤ 1152921504606846976 := by
  have h := sm_all b hb c hc i hi k hk
  obtain ⟨⟨h1, h2⟩, h3, h4⟩ := h
  have a1 : (1 : Int) ≤ ((i : Int) + 1) + ((k : Int) + 1) + c - 1 := by omega
  have a2 : ((i : Int) + 1) + ((k : Int) + 1) + c - 1 ≤ 16 := by omega
  have a3 : (1 : Int) ≤ ((i : Int) + 1) + ((k : Int) + 1) - 1 := by omega
  have a4 : ((i : Int) + 1) + ((k : Int) + 1) - 1 ≤ 16 := by omega
  refine ⟨⟨?_, ?_⟩, ?_, ?_⟩
  · have := Int.mul_le_mul h1 a1 (by omega) (by omega); omega
  · have := Int.mul_le_mul h2 a2 (by omega) (by omega); omega
  · have := Int.mul_le_mul h3 a3 (by omega) (by omega); omega
  · have := Int.mul_le_mul h4 a4 (by omega) (by omega); omega
end NP
end Go.Proofs.Ytgdkifpjcjegpaa
