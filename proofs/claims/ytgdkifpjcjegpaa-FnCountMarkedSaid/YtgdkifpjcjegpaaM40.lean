/-
  Plain mathematics: counts of marked parts and of piles, by tables.
-/
import Derived.Test.YtgdkifpjcjegpaaM22
import Derived.Test.YtgdkifpjcjegpaaM12
namespace Go.Proofs.Ytgdkifpjcjegpaa
namespace NP
set_option linter.unusedVariables false
/-- a row when a further number may come, by one pass -/
def nrI (p : Nat) (D : List Int) (n : Nat) : List Int := (List.range n).foldl (fun acc s => acc ++ [D.getD s 0 + (if s < p then 0 else acc.getD (s - p) 0)]) []
theorem nrI_succ (p : Nat) (D : List Int) (n : Nat) : nrI p D (n + 1) = nrI p D n ++ [D.getD n 0 + (if n < p then 0 else (nrI p D n).getD (n - p) 0)] := by
  unfold nrI
  rw [List.range_succ, List.foldl_append]
  rfl
theorem nrI_eq (p : Nat) (D : List Int) (hp : 1 ≤ p) (n : Nat) : nrI p D n = (List.range n).map (wv D p) := by
  induction n with
  | zero => rfl
  | succ n ih =>
    rw [nrI_succ, ih, List.range_succ, List.map_append]
    congr 1
    simp only [List.map_cons, List.map_nil]
    congr 1
    split
    · rename_i h
      rw [wv_low _ _ _ h]; omega
    · rename_i h
      rw [getD_lt (L := (List.range n).map (wv D p)) (by simp; omega), wv_high _ _ _ hp (by omega)]
      simp
theorem wrow_nrI (D : List Int) (p : Nat) (hp : 1 ≤ p) : wrow D p = nrI p D 41 := (nrI_eq p D hp 41).symm
/-- the counts of marked parts, none greater than k -/
def mkrow : Nat → List Int
  | 0 => 1 :: List.replicate 40 0
  | k + 1 => worow (wrow (mkrow k) (k + 1)) (k + 1) 1
theorem mkrow_len (k : Nat) : (mkrow k).length = 41 := by
  cases k with
  | zero => rfl
  | succ k => exact worow_len _ _ _
def okR (D : List Int) : Bool := D.all fun x => decide (0 ≤ x) && decide (x ≤ 1099511627776)
theorem okR_get {D : List Int} (h : okR D = true) (s : Nat) : 0 ≤ D.getD s 0 ∧ D.getD s 0 ≤ 1099511627776 := by
  rcases Nat.lt_or_ge s D.length with h1 | h1
  · have := List.all_eq_true.1 h (D.getD s 0) (by rw [getD_lt h1]; exact List.getElem_mem _)
    simpa using this
  · rw [getD_ge h1]; omega
/-- the different parts, none greater than k -/
def orow : Nat → List Int
  | 0 => 1 :: List.replicate 40 0
  | k + 1 => worow (orow k) (k + 1) 1
theorem orow_len (k : Nat) : (orow k).length = 41 := by
  cases k with
  | zero => rfl
  | succ k => exact worow_len _ _ _
/-- the sum of products: marked ones of k, others of what is left -/
def mkS (O C : List Int) (n : Nat) : Nat → Int
  | 0 => 0
  | k + 1 => mkS O C n k + O.getD k 0 * C.getD (n - k) 0
def mkOk (O C M : List Int) (n : Nat) : Bool := ((List.range (n + 2)).all fun k => decide (0 ≤ mkS O C n k) && decide (mkS O C n k ≤ 1099511627776)) && ((List.range (n + 1)).all fun k => decide (0 ≤ O.getD k 0 * C.getD (n - k) 0) && decide (O.getD k 0 * C.getD (n - k) 0 ≤ 1099511627776)) && decide (mkS O C n (n + 1) = M.getD n 0)
def mkChk : Nat → Nat → List Int → List Int → List Int → Bool
  | 0, _, _, _, _ => true
  | f + 1, j, O, C, M => okR M && okR (nrI (j + 1) M 41) && okR O && mkOk O C M j && mkChk f (j + 1) (worow O (j + 1) 1) (nrI (j + 1) C 41) (worow (nrI (j + 1) M 41) (j + 1) 1)
theorem mkChk_at : ∀ (f j : Nat), mkChk f j (orow j) (crow j) (mkrow j) = true → ∀ i, i < f → okR (mkrow (j + i)) = true ∧ okR (wrow (mkrow (j + i)) (j + i + 1)) = true ∧ okR (orow (j + i)) = true ∧ mkOk (orow (j + i)) (crow (j + i)) (mkrow (j + i)) (j + i) = true := by
  intro f
  induction f with
  | zero => intro j _ i hi; omega
  | succ f ih =>
    intro j h i hi
    unfold mkChk at h
    simp only [Bool.and_eq_true] at h
    obtain ⟨⟨⟨⟨h1, h2⟩, h3⟩, h4⟩, h5⟩ := h
    rw [← wrow_nrI _ _ (by omega)] at h2 h5
    rw [← wrow_nrI _ _ (by omega), wrow_crow] at h5
    cases i with
    | zero => exact ⟨h1, h2, h3, h4⟩
    | succ i =>
      have := ih (j + 1) h5 i (by omega)
      have e : j + (i + 1) = j + 1 + i := by omega
      rw [e]
      exact this
set_option maxRecDepth 100000 in
theorem mkChk_all : mkChk 41 0 (orow 0) (1 :: List.replicate 40 0) (mkrow 0) = true := by decide +kernel
theorem mk_all {j : Nat} (h : j ≤ 40) : okR (mkrow j) = true ∧ okR (wrow (mkrow j) (j + 1)) = true ∧ okR (orow j) = true ∧ mkOk (orow j) (crow j) (mkrow j) j = true := by
  have := mkChk_at 41 0 (by rw [crow_zero]; exact mkChk_all) j (by omega)
  simpa using this
theorem mkrow_bd {j : Nat} (h : j ≤ 40) : ∀ s, s < 41 → (0 ≤ (mkrow j).getD s 0 ∧ (mkrow j).getD s 0 ≤ 1099511627776) ∧ 0 ≤ wv (mkrow j) (j + 1) s ∧ wv (mkrow j) (j + 1) s ≤ 1099511627776 := fun s hs => by
  have h1 := mk_all h
  refine ⟨okR_get h1.1 s, ?_⟩
  have h2 := okR_get h1.2.1 s
  rwa [getD_lt (by rw [wrow_len]; exact hs), show (wrow (mkrow j) (j + 1))[s]'(by rw [wrow_len]; exact hs) = wv (mkrow j) (j + 1) s by simp [wrow]] at h2
theorem wmk_bd {j : Nat} (h : j ≤ 40) (s : Nat) : -1099511627776 ≤ (wrow (mkrow j) (j + 1)).getD s 0 ∧ (wrow (mkrow j) (j + 1)).getD s 0 ≤ 1099511627776 := by
  have := okR_get (mk_all h).2.1 s
  omega
theorem mkS_bd {n : Nat} (h : n ≤ 40) {k : Nat} (hk : k ≤ n + 1) : 0 ≤ mkS (orow n) (crow n) n k ∧ mkS (orow n) (crow n) n k ≤ 1099511627776 := by
  have h1 := (mk_all h).2.2.2
  unfold mkOk at h1
  simp only [Bool.and_eq_true] at h1
  have := List.all_eq_true.1 h1.1.1 k (by simp; omega)
  simpa using this
theorem mkT_bd {n : Nat} (h : n ≤ 40) {k : Nat} (hk : k ≤ n) : 0 ≤ (orow n).getD k 0 * (crow n).getD (n - k) 0 ∧ (orow n).getD k 0 * (crow n).getD (n - k) 0 ≤ 1099511627776 := by
  have h1 := (mk_all h).2.2.2
  unfold mkOk at h1
  simp only [Bool.and_eq_true] at h1
  have := List.all_eq_true.1 h1.1.2 k (by simp; omega)
  simpa using this
theorem mkS_end {n : Nat} (h : n ≤ 40) : mkS (orow n) (crow n) n (n + 1) = (mkrow n).getD n 0 := by
  have h1 := (mk_all h).2.2.2
  unfold mkOk at h1
  simp only [Bool.and_eq_true] at h1
  exact of_decide_eq_true h1.2
def mkF (n : Int) : Int := if 0 ≤ n ∧ n ≤ 40 then (mkrow n.toNat).getD n.toNat 0 else -1
/-- the numbers from 1 up -/
def upto (n : Nat) : List Int := (List.range n).map fun (j : Nat) => (j : Int) + 1
theorem upto_len (n : Nat) : (upto n).length = n := by simp [upto]
theorem upto_get (n j : Nat) (h : j < (upto n).length) : (upto n)[j] = (j : Int) + 1 := by simp [upto]
theorem upto_stB {n : Nat} (h : n ≤ 40) : stB (upto n) = true := (stB_iff _).2 fun i hi => by
  rw [getD_lt hi, upto_get]
  rw [upto_len] at hi
  refine ⟨by omega, by omega, fun h0 => ?_⟩
  rw [getD_lt (by rw [upto_len]; omega), upto_get]
  omega
theorem setRows_upto (n : Nat) : setRows true (upto n) = orow n := by
  induction n with
  | zero => exact crow_zero
  | succ n ih =>
    have e : upto (n + 1) = upto n ++ [(n : Int) + 1] := by unfold upto; rw [List.range_succ, List.map_append]; rfl
    rw [e]
    unfold setRows at ih ⊢
    rw [List.foldl_append, ih]
    show mrow true (orow n) ((n : Int) + 1).toNat = _
    have e2 : ((n : Int) + 1).toNat = n + 1 := by omega
    rw [e2, mrow_once]
    rfl
theorem cntF_upto {n k : Nat} (hn : n ≤ 40) (hk : k ≤ 40) : cntF true (upto n) k = (orow n).getD k 0 := by
  rw [cntF_in true (upto_stB hn) (by omega) (by omega), setRows_upto]
  rfl
theorem crow_diag {n k : Nat} (hn : n ≤ 40) (hk : k ≤ n) : (crow n).getD (n - k) 0 = ctZ ((n : Int) - k) ((n : Int) - k) := by
  have e : (n : Int) - k = ((n - k : Nat) : Int) := by omega
  rw [e, crow_getD _ _ (by omega), ctZ_nat, ct_ge (n - k) n (by omega)]
/-- the counts of piles: parts in as many colors as they tell -/
def wpow (D : List Int) (p : Nat) : Nat → List Int
  | 0 => D
  | i + 1 => wrow (wpow D p i) p
def plrow : Nat → List Int
  | 0 => 1 :: List.replicate 40 0
  | k + 1 => wpow (plrow k) (k + 1) (k + 1)
theorem wpow_len {D : List Int} (h : D.length = 41) (p i : Nat) : (wpow D p i).length = 41 := by
  cases i with
  | zero => exact h
  | succ i => exact wrow_len _ _
theorem plrow_len (k : Nat) : (plrow k).length = 41 := by
  induction k with
  | zero => rfl
  | succ k ih => exact wpow_len ih _ _
def wpChk : Nat → Nat → List Int → Bool
  | 0, _, D => okR D
  | f + 1, p, D => okR D && wpChk f p (nrI p D 41)
def wpEnd : Nat → Nat → List Int → List Int
  | 0, _, D => D
  | f + 1, p, D => wpEnd f p (nrI p D 41)
theorem wpEnd_eq {p : Nat} (hp : 1 ≤ p) : ∀ (f i : Nat) (D : List Int), wpEnd f p (wpow D p i) = wpow D p (i + f) := by
  intro f
  induction f with
  | zero => intro i D; rfl
  | succ f ih =>
    intro i D
    show wpEnd f p (nrI p (wpow D p i) 41) = _
    rw [← wrow_nrI _ _ hp, show wrow (wpow D p i) p = wpow D p (i + 1) from rfl, ih]
    congr 1
    omega
theorem wpChk_at {p : Nat} (hp : 1 ≤ p) : ∀ (f i : Nat) (D : List Int), wpChk f p (wpow D p i) = true → ∀ j, j ≤ f → okR (wpow D p (i + j)) = true := by
  intro f
  induction f with
  | zero =>
    intro i D h j hj
    obtain rfl : j = 0 := by omega
    exact h
  | succ f ih =>
    intro i D h j hj
    unfold wpChk at h
    rw [Bool.and_eq_true, ← wrow_nrI _ _ hp] at h
    cases j with
    | zero => exact h.1
    | succ j =>
      have := ih (i + 1) D h.2 j (by omega)
      have e : i + (j + 1) = i + 1 + j := by omega
      rw [e]
      exact this
def plChk : Nat → Nat → List Int → Bool
  | 0, _, _ => true
  | f + 1, j, D => wpChk (j + 1) (j + 1) D && plChk f (j + 1) (wpEnd (j + 1) (j + 1) D)
theorem plChk_at : ∀ (f j : Nat), plChk f j (plrow j) = true → ∀ i, i < f → wpChk (j + i + 1) (j + i + 1) (plrow (j + i)) = true := by
  intro f
  induction f with
  | zero => intro j _ i hi; omega
  | succ f ih =>
    intro j h i hi
    unfold plChk at h
    rw [Bool.and_eq_true] at h
    have e0 : wpEnd (j + 1) (j + 1) (plrow j) = plrow (j + 1) := by
      have := wpEnd_eq (p := j + 1) (by omega) (j + 1) 0 (plrow j)
      rw [Nat.zero_add] at this
      exact this
    rw [e0] at h
    cases i with
    | zero => exact h.1
    | succ i =>
      have := ih (j + 1) h.2 i (by omega)
      have e : j + (i + 1) = j + 1 + i := by omega
      rw [e]
      exact this
set_option maxRecDepth 100000 in
theorem plChk_all : plChk 16 0 (plrow 0) = true := by decide +kernel
theorem pl_ok {j i : Nat} (hj : j < 16) (hi : i ≤ j + 1) : okR (wpow (plrow j) (j + 1) i) = true := by
  have h := plChk_at 16 0 plChk_all j hj
  rw [Nat.zero_add] at h
  have := wpChk_at (p := j + 1) (by omega) (j + 1) 0 (plrow j) h i hi
  rwa [Nat.zero_add] at this
theorem wpow_bd {j i : Nat} (hj : j < 16) (hi : i < j + 1) : ∀ s, s < 41 → (0 ≤ (wpow (plrow j) (j + 1) i).getD s 0 ∧ (wpow (plrow j) (j + 1) i).getD s 0 ≤ 1099511627776) ∧ 0 ≤ wv (wpow (plrow j) (j + 1) i) (j + 1) s ∧ wv (wpow (plrow j) (j + 1) i) (j + 1) s ≤ 1099511627776 := fun s hs => by
  refine ⟨okR_get (pl_ok hj (by omega)) s, ?_⟩
  have h2 := okR_get (pl_ok hj (i := i + 1) (by omega)) s
  rw [show wpow (plrow j) (j + 1) (i + 1) = wrow (wpow (plrow j) (j + 1) i) (j + 1) from rfl] at h2
  rwa [getD_lt (by rw [wrow_len]; exact hs), show (wrow (wpow (plrow j) (j + 1) i) (j + 1))[s]'(by rw [wrow_len]; exact hs) = wv (wpow (plrow j) (j + 1) i) (j + 1) s by simp [wrow]] at h2
def plF (n : Int) : Int := if 0 ≤ n ∧ n ≤ 16 then (plrow n.toNat).getD n.toNat 0 else -1
end NP
end Go.Proofs.Ytgdkifpjcjegpaa
