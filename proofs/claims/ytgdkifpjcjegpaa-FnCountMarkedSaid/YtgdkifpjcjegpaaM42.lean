/-
  Plain mathematics: tables of marked parts and of piles, and what the promises say of them.
-/
import Derived.Test.YtgdkifpjcjegpaaM41
namespace Go.Proofs.Ytgdkifpjcjegpaa
namespace NP
set_option linter.unusedVariables false
def mkDg : Nat → Nat → List Int → List Int
  | 0, _, _ => []
  | f + 1, j, M => M.getD j 0 :: mkDg f (j + 1) (worow (nrI (j + 1) M 41) (j + 1) 1)
theorem mkDg_at : ∀ (f j : Nat), ∀ i, i < f → (mkDg f j (mkrow j)).getD i 0 = (mkrow (j + i)).getD (j + i) 0 := by
  intro f
  induction f with
  | zero => intro j i hi; omega
  | succ f ih =>
    intro j i hi
    unfold mkDg
    rw [← wrow_nrI _ _ (by omega), show worow (wrow (mkrow j) (j + 1)) (j + 1) 1 = mkrow (j + 1) from rfl]
    cases i with
    | zero => rfl
    | succ i =>
      have := ih (j + 1) i (by omega)
      have e : j + (i + 1) = j + 1 + i := by omega
      rw [e, ← this]
      rfl
def mkV : List Int := [1, 2, 4, 8, 14, 24, 40, 64, 100, 154, 232, 344, 504, 728, 1040, 1472, 2062, 2864, 3948, 5400, 7336, 9904, 13288, 17728, 23528, 31066, 40824, 53408, 69568, 90248, 116624, 150144, 192612, 246256, 313808, 398640, 504886, 637592, 802936, 1008448, 1263272]
set_option maxRecDepth 100000 in
theorem mkV_eq : mkDg 41 0 (mkrow 0) = mkV := by decide +kernel
theorem mkF_val {n : Nat} (h : n ≤ 40) : mkF n = mkV.getD n 0 := by
  have := mkDg_at 41 0 n (by omega)
  rw [mkV_eq, Nat.zero_add] at this
  unfold mkF
  rw [if_pos (by omega), Int.toNat_natCast, this]
/-- the law's sum: less twice those of squares, by turns -/
def lms (n : Nat) : Nat → Int
  | 0 => mkV.getD n 0
  | k + 1 => lms n k + (if k % 2 = 0 then -2 else 2) * mkV.getD (n - (k + 1) * (k + 1)) 0
def lmk (n : Nat) : Nat := if n < 1 then 0 else if n < 4 then 1 else if n < 9 then 2 else if n < 16 then 3 else if n < 25 then 4 else if n < 36 then 5 else 6
theorem lmk_in : ∀ n, n < 41 → ∀ k, k < 8 → (((k + 1) * (k + 1) ≤ n ↔ k < lmk n)) ∧ lmk n ≤ 6 := by decide
theorem lms_end : ∀ n, n < 41 → lms n (lmk n) = if n = 0 then 1 else 0 := by decide +kernel
theorem lms_bd : ∀ n, n < 41 → ∀ k, k < 8 → -1099511627776 ≤ lms n k ∧ lms n k ≤ 1099511627776 := by decide +kernel
theorem mkV_bd : ∀ n, n < 42 → 0 ≤ mkV.getD n 0 ∧ mkV.getD n 0 ≤ 1099511627 := by decide +kernel
def plDg : Nat → Nat → List Int → List Int
  | 0, _, _ => []
  | f + 1, j, M => M.getD j 0 :: plDg f (j + 1) (wpEnd (j + 1) (j + 1) M)
theorem plDg_at : ∀ (f j : Nat), ∀ i, i < f → (plDg f j (plrow j)).getD i 0 = (plrow (j + i)).getD (j + i) 0 := by
  intro f
  induction f with
  | zero => intro j i hi; omega
  | succ f ih =>
    intro j i hi
    have e0 : wpEnd (j + 1) (j + 1) (plrow j) = plrow (j + 1) := by
      have := wpEnd_eq (p := j + 1) (by omega) (j + 1) 0 (plrow j)
      rw [Nat.zero_add] at this
      exact this
    unfold plDg
    rw [e0]
    cases i with
    | zero => rfl
    | succ i =>
      have := ih (j + 1) i (by omega)
      have e : j + (i + 1) = j + 1 + i := by omega
      rw [e, ← this]
      rfl
def plV : List Int := [1, 1, 3, 6, 13, 24, 48, 86, 160, 282, 500, 859, 1479, 2485, 4167, 6879, 11297]
set_option maxRecDepth 100000 in
theorem plV_eq : plDg 17 0 (plrow 0) = plV := by decide +kernel
theorem plF_val {n : Nat} (h : n ≤ 16) : plF n = plV.getD n 0 := by
  have := plDg_at 17 0 n (by omega)
  rw [plV_eq, Nat.zero_add] at this
  unfold plF
  rw [if_pos (by omega), Int.toNat_natCast, this]
theorem pl_law : ∀ n, n < 17 → 0 ≤ plV.getD n 0 ∧ ((ptab.getD n 0 : Nat) : Int) ≤ plV.getD n 0 ∧ plV.getD (n - 1) 0 ≤ plV.getD n 0 ∧ (2 ≤ n → ((ptab.getD n 0 : Nat) : Int) < plV.getD n 0) := by decide +kernel
end NP
end Go.Proofs.Ytgdkifpjcjegpaa
