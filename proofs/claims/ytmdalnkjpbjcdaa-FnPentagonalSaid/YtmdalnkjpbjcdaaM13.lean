/-
  Plain mathematics: the promises of counts, by tables.
-/
import Derived.Test.YtmdalnkjpbjcdaaM12
namespace Go.Proofs.Ytmdalnkjpbjcdaa
namespace NP
set_option linter.unusedVariables false
theorem sd_small (n : Nat) (h : n ≤ 40) : -1 ≤ sdF n ∧ sdF n ≤ 1 := by
  rw [sd_tab n h]
  have : ∀ n : Nat, n < 41 → -1 ≤ stab.getD n 0 ∧ stab.getD n 0 ≤ 1 := by decide +kernel
  exact this n (by omega)
theorem cp_bd (n : Int) (h0 : 0 ≤ n) (h : n ≤ 40) : 1 ≤ cpF n ∧ cpF n ≤ 1099511627776 := by
  obtain ⟨m, rfl⟩ := Int.eq_ofNat_of_zero_le h0
  rw [cp_tab m (by omega)]
  have : ∀ m : Nat, m < 41 → 1 ≤ ((ptab.getD m 0 : Nat) : Int) ∧ ((ptab.getD m 0 : Nat) : Int) ≤ 1099511627776 := by decide +kernel
  exact this m (by omega)
/-- signs times counts -/
def csm (n : Nat) : Nat → Int
  | 0 => 0
  | k + 1 => csm n k + sdF k * cpF ((n : Int) - k)
def csT (n : Nat) : Nat → Int
  | 0 => 0
  | k + 1 => csT n k + stab.getD k 0 * ((ptab.getD (n - k) 0 : Nat) : Int)
theorem csm_T (n : Nat) (hn : n ≤ 40) (k : Nat) (hk : k ≤ n + 1) : csm n k = csT n k := by
  induction k with
  | zero => rfl
  | succ k ih =>
    simp only [csm, csT]
    rw [ih (by omega), sd_tab k (by omega)]
    have e : (n : Int) - k = ((n - k : Nat) : Int) := by omega
    rw [e, cp_tab _ (by omega)]
theorem csm_end (n : Nat) (hn : n ≤ 40) : csm n (n + 1) = if n = 0 then 1 else 0 := by
  rw [csm_T n hn _ (Nat.le_refl _)]
  have : ∀ n : Nat, n < 41 → csT n (n + 1) = if n = 0 then 1 else 0 := by decide +kernel
  exact this n (by omega)
theorem prod_bd {x y : Int} (hx : -1 ≤ x ∧ x ≤ 1) (hy : 1 ≤ y ∧ y ≤ 1099511627776) : -1099511627776 ≤ x * y ∧ x * y ≤ 1099511627776 := by
  have : x = -1 ∨ x = 0 ∨ x = 1 := by omega
  rcases this with rfl | rfl | rfl
  · omega
  · rw [Int.zero_mul]; omega
  · omega
theorem csm_bd (n : Nat) (hn : n ≤ 40) (k : Nat) (hk : k ≤ n + 1) : -1099511627776 * (k : Int) ≤ csm n k ∧ csm n k ≤ 1099511627776 * (k : Int) := by
  induction k with
  | zero => simp [csm]
  | succ k ih =>
    have h1 := ih (by omega)
    have h2 := prod_bd (sd_small k (by omega)) (cp_bd ((n : Int) - k) (by omega) (by omega))
    simp only [csm]
    omega
/-- divisors times counts -/
def dsm (n : Nat) : Nat → Int
  | 0 => 0
  | k + 1 => dsm n k + dvF ((k : Int) + 1) * cpF ((n : Int) - ((k : Int) + 1))
def dtab : List Int := (List.range 41).map fun (n : Nat) => dvs n n
theorem dv_tab (n : Nat) (h1 : 1 ≤ n) (h : n ≤ 40) : dvF n = dtab.getD n 0 := by
  unfold dvF
  rw [if_pos (by omega), getD_lt (by simp [dtab]; omega)]
  simp [dtab]
def dsT (n : Nat) : Nat → Int
  | 0 => 0
  | k + 1 => dsT n k + dtab.getD (k + 1) 0 * ((ptab.getD (n - (k + 1)) 0 : Nat) : Int)
theorem dsm_T (n : Nat) (hn : n ≤ 40) (k : Nat) (hk : k ≤ n) : dsm n k = dsT n k := by
  induction k with
  | zero => rfl
  | succ k ih =>
    simp only [dsm, dsT]
    have e0 : (k : Int) + 1 = ((k + 1 : Nat) : Int) := by omega
    rw [ih (by omega), e0, dv_tab (k + 1) (by omega) (by omega)]
    have e : (n : Int) - ((k + 1 : Nat) : Int) = ((n - (k + 1) : Nat) : Int) := by omega
    rw [e, cp_tab _ (by omega)]
theorem dv_bd (n : Nat) (h1 : 1 ≤ n) (h : n ≤ 40) : (n : Int) ≤ dvF n ∧ dvF n ≤ 1000 := by
  rw [dv_tab n h1 h]
  have : ∀ n : Nat, n < 41 → 1 ≤ n → (n : Int) ≤ dtab.getD n 0 ∧ dtab.getD n 0 ≤ 1000 := by decide +kernel
  exact this n (by omega) h1
theorem dsm_end (n : Nat) (h1 : 1 ≤ n) (hn : n ≤ 40) : dsm n n = (n : Int) * cpF n := by
  rw [dsm_T n hn n (Nat.le_refl _), cp_tab n hn]
  have : ∀ n : Nat, n < 41 → dsT n n = (n : Int) * ((ptab.getD n 0 : Nat) : Int) := by decide +kernel
  exact this n (by omega)
theorem prod_bd2 {x y : Int} (hx : 0 ≤ x ∧ x ≤ 1000) (hy : 1 ≤ y ∧ y ≤ 1099511627776) : 0 ≤ x * y ∧ x * y ≤ 1099511627776000 := by
  have a := Int.mul_nonneg hx.1 (by omega : 0 ≤ y)
  have b := Int.mul_le_mul hx.2 hy.2 (by omega) (by omega)
  omega
theorem dsm_bd (n : Nat) (hn : n ≤ 40) (k : Nat) (hk : k ≤ n) : 0 ≤ dsm n k ∧ dsm n k ≤ 1099511627776000 * (k : Int) := by
  induction k with
  | zero => simp [dsm]
  | succ k ih =>
    have h1 := ih (by omega)
    have e0 : (k : Int) + 1 = ((k + 1 : Nat) : Int) := by omega
    have h3 := dv_bd (k + 1) (by omega) (by omega)
    have h2 := prod_bd2 (x := dvF ((k : Int) + 1)) (y := cpF ((n : Int) - ((k : Int) + 1))) (by rw [e0]; omega) (cp_bd _ (by omega) (by omega))
    simp only [dsm]
    omega
/-- pentagonal numbers have signs -/
theorem pn_sign (k : Int) (h1 : -100 ≤ k) (h2 : k ≤ 100) (h : pnF k ≤ 40) : sdF (pnF k) = if k.tmod 2 = 0 then 1 else -1 := by
  obtain ⟨m, hm⟩ : ∃ m : Nat, (m : Int) = k + 100 := ⟨(k + 100).toNat, by omega⟩
  have hk : k = (m : Int) - 100 := by omega
  have key : ∀ m : Nat, m < 201 → ((m : Int) - 100) * (3 * ((m : Int) - 100) - 1) / 2 ≤ 40 → stab.getD (((m : Int) - 100) * (3 * ((m : Int) - 100) - 1) / 2).toNat 0 = if ((m : Int) - 100).tmod 2 = 0 then 1 else -1 := by decide +kernel
  have hp : pnF k = k * (3 * k - 1) / 2 := by unfold pnF; rw [if_pos ⟨h1, h2⟩]
  have hb := pn_bd k h1 h2
  have h0 : 0 ≤ pnF k := by rw [hp]; omega
  have e : sdF (pnF k) = stab.getD (pnF k).toNat 0 := by
    have := sd_tab (pnF k).toNat (by omega)
    rw [← this]
    congr 1
    omega
  rw [e, hp, hk]
  rw [hp, hk] at h
  exact key m (by omega) h
/-- whether one of the first pentagonal numbers is n -/
def met (n : Int) : Nat → Bool
  | 0 => false
  | j + 1 => met n j || (pnF ((j : Int) - 6) == n)
theorem met_end (n : Nat) (hn : n ≤ 40) : (met n 13 == (sdF n != 0)) = true := by
  rw [sd_tab n hn]
  have : ∀ n : Nat, n < 41 → (met (n : Int) 13 == (stab.getD n 0 != 0)) = true := by decide +kernel
  exact this n (by omega)
end NP
end Go.Proofs.Ytmdalnkjpbjcdaa
