/-
  Plain mathematics: tables of counts, signs and divisors up to 40, and what the promises say of them.
-/
import Derived.Test.YtgdkifpjcjegpaaM10
namespace Go.Proofs.Ytgdkifpjcjegpaa
namespace NP
set_option linter.unusedVariables false
theorem ct_ge (n k : Nat) (h : n ≤ k) : ct n k = ct n n := by
  induction k with
  | zero => obtain rfl : n = 0 := by omega
            rfl
  | succ k ih =>
    rcases Nat.lt_or_ge k n with h1 | h1
    · obtain rfl : n = k + 1 := by omega
      rfl
    · rw [ct_big n (k + 1) (by omega) (by omega), Nat.add_sub_cancel]
      exact ih h1
theorem ctZ_ge (n k : Int) (h0 : 0 ≤ n) (h : n ≤ k) : ctZ n k = ctZ n n := by
  obtain ⟨a, rfl⟩ := Int.eq_ofNat_of_zero_le h0
  obtain ⟨b, rfl⟩ := Int.eq_ofNat_of_zero_le (by omega : 0 ≤ k)
  rw [ctZ_nat, ctZ_nat, ct_ge a b (by omega)]
/-- a row of counts out of the one ahead -/
def nrow (p : Nat) (old : List Nat) (n : Nat) : List Nat := (List.range n).foldl (fun acc s => acc ++ [old.getD s 0 + (if s < p then 0 else acc.getD (s - p) 0)]) []
theorem nrow_succ (p : Nat) (old : List Nat) (n : Nat) : nrow p old (n + 1) = nrow p old n ++ [old.getD n 0 + (if n < p then 0 else (nrow p old n).getD (n - p) 0)] := by
  unfold nrow
  rw [List.range_succ, List.foldl_append]
  rfl
def crowN (k : Nat) : List Nat := (List.range 41).map fun s => ct s k
theorem crowN_getD (k s : Nat) (h : s < 41) : (crowN k).getD s 0 = ct s k := by
  rw [List.getD_eq_getElem?_getD, List.getElem?_eq_getElem (by simp [crowN]; exact h), Option.getD_some]
  simp [crowN]
theorem nrow_crow (k : Nat) (n : Nat) (hn : n ≤ 41) : nrow (k + 1) (crowN k) n = (List.range n).map fun s => ct s (k + 1) := by
  induction n with
  | zero => rfl
  | succ n ih =>
    rw [nrow_succ, ih (by omega), List.range_succ, List.map_append]
    congr 1
    rw [crowN_getD k n (by omega)]
    simp only [List.map_cons, List.map_nil]
    congr 1
    split
    · rename_i h
      rw [ct_big n (k + 1) (by omega) h]; rfl
    · rename_i h
      rw [List.getD_eq_getElem?_getD, List.getElem?_eq_getElem (by simp; omega), Option.getD_some, ct_rec n (k + 1) (by omega) (by omega)]
      simp
def rowc : Nat → List Nat
  | 0 => 1 :: List.replicate 40 0
  | k + 1 => nrow (k + 1) (rowc k) 41
theorem rowc_eq (k : Nat) : rowc k = crowN k := by
  induction k with
  | zero =>
    have e : ∀ n, (List.range (n + 1)).map (fun s => ct s 0) = 1 :: List.replicate n 0 := by
      intro n
      induction n with
      | zero => simp [ct_zero]
      | succ n ih => rw [List.range_succ, List.map_append, ih, List.replicate_succ', List.map_cons, List.map_nil, ct_none _ (by omega)]; rfl
    exact (e 40).symm
  | succ k ih =>
    show nrow (k + 1) (rowc k) 41 = _
    rw [ih, nrow_crow k 41 (Nat.le_refl _)]
    rfl
def ptab : List Nat := [1, 1, 2, 3, 5, 7, 11, 15, 22, 30, 42, 56, 77, 101, 135, 176, 231, 297, 385, 490, 627, 792, 1002, 1255, 1575, 1958, 2436, 3010, 3718, 4565, 5604, 6842, 8349, 10143, 12310, 14883, 17977, 21637, 26015, 31185, 37338]
theorem ptab_ok : rowc 40 = ptab := by decide +kernel
theorem cp_tab (n : Nat) (h : n ≤ 40) : cpF n = ((ptab.getD n 0 : Nat) : Int) := by
  unfold cpF
  rw [if_pos (by omega), ctZ_nat, ← ct_ge n 40 h, ← ptab_ok, rowc_eq, crowN_getD 40 n (by omega)]
def stab : List Int := [1, -1, -1, 0, 0, 1, 0, 1, 0, 0, 0, 0, -1, 0, 0, -1, 0, 0, 0, 0, 0, 0, 1, 0, 0, 0, 1, 0, 0, 0, 0, 0, 0, 0, 0, -1, 0, 0, 0, 0, -1]
theorem srow_keep (s d : Nat) (h : s ≤ d) (h41 : s < 41) : (srow d).getD s 0 = (srow s).getD s 0 := by
  induction d with
  | zero => obtain rfl : s = 0 := by omega
            rfl
  | succ d ih =>
    rcases Nat.lt_or_ge d s with h1 | h1
    · obtain rfl : s = d + 1 := by omega
      rfl
    · rw [show srow (d + 1) = worow (srow d) (d + 1) (-1) from rfl, worow_getD _ _ _ _ h41]
      unfold wo
      rw [if_pos (by omega)]
      exact ih h1
theorem stab_ok : srow 40 = stab := by decide +kernel
theorem sd_tab (n : Nat) (h : n ≤ 40) : sdF n = stab.getD n 0 := by
  unfold sdF
  rw [if_pos (by omega), Int.toNat_natCast, ← srow_keep n 40 h (by omega), stab_ok]
end NP
end Go.Proofs.Ytgdkifpjcjegpaa
