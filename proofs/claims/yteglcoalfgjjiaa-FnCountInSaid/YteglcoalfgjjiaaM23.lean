/-
  Plain mathematics of parts of a set: the last one; all numbers; odd ones.
-/
import Derived.Test.YteglcoalfgjjiaaM22
namespace Go.Proofs.Yteglcoalfgjjiaa
namespace NP
set_option linter.unusedVariables false
/-- from 1 on by steps -/
def rsL (st k : Nat) : List Int := (List.range k).map fun (i : Nat) => (1 : Int) + (st : Int) * (i : Int)
theorem rsL_len (st k : Nat) : (rsL st k).length = k := by simp [rsL]
theorem rsL_succ (st k : Nat) : rsL st (k + 1) = rsL st k ++ [(1 : Int) + (st : Int) * (k : Int)] := by unfold rsL; rw [List.range_succ, List.map_append]; rfl
theorem rsL_getD (st k i : Nat) (h : i < k) : (rsL st k).getD i 0 = 1 + (st : Int) * (i : Int) := by rw [getD_lt (by rw [rsL_len]; exact h)]; simp [rsL]
theorem setRows_append (once : Bool) (A : List Int) (x : Int) : setRows once (A ++ [x]) = mrow once (setRows once A) x.toNat := by
  unfold setRows; rw [List.foldl_append]; rfl
theorem stB_all (k : Nat) (hk : k ≤ 40) : stB (rsL 1 k) = true := (stB_iff _).2 fun i hi => by
  rw [rsL_len] at hi
  rw [rsL_getD 1 k i hi]
  refine ⟨by omega, by omega, fun h0 => ?_⟩
  rw [rsL_getD 1 k (i - 1) (by omega)]
  omega
theorem stB_odd (k : Nat) (hk : 2 * k ≤ 41) : stB (rsL 2 k) = true := (stB_iff _).2 fun i hi => by
  rw [rsL_len] at hi
  rw [rsL_getD 2 k i hi]
  refine ⟨by omega, by omega, fun h0 => ?_⟩
  rw [rsL_getD 2 k (i - 1) (by omega)]
  omega
theorem rows_all (k : Nat) : setRows false (rsL 1 k) = crow k := by
  induction k with
  | zero => rfl
  | succ k ih =>
    rw [rsL_succ, setRows_append, ih]
    have e : ((1 : Int) + ((1 : Nat) : Int) * (k : Int)).toNat = k + 1 := by omega
    rw [e, mrow_many, wrow_crow]
theorem cntS_all (n : Nat) (h : n ≤ 40) : cntF false (rsL 1 n) n = cpF n := by
  rw [cntF_in false (stB_all n h) (by omega) (by omega), rows_all, Int.toNat_natCast, crow_getD _ _ (by omega), ← ctZ_nat]
  unfold cpF
  rw [if_pos (by omega)]
/-- a row of counts, reckoned place by place -/
def irow (p : Nat) (D : List Int) (n : Nat) : List Int := (List.range n).foldl (fun acc s => acc ++ [D.getD s 0 + (if s < p then 0 else acc.getD (s - p) 0)]) []
theorem irow_succ (p : Nat) (D : List Int) (n : Nat) : irow p D (n + 1) = irow p D n ++ [D.getD n 0 + (if n < p then 0 else (irow p D n).getD (n - p) 0)] := by
  unfold irow
  rw [List.range_succ, List.foldl_append]
  rfl
theorem irow_eq (p : Nat) (hp : 1 ≤ p) (D : List Int) (n : Nat) : irow p D n = (List.range n).map (wv D p) := by
  induction n with
  | zero => rfl
  | succ n ih =>
    rw [irow_succ, ih, List.range_succ, List.map_append]
    congr 1
    simp only [List.map_cons, List.map_nil]
    congr 1
    split
    · rename_i h
      rw [wv_low _ _ _ h]; omega
    · rename_i h
      have e : ((List.range n).map (wv D p)).getD (n - p) 0 = wv D p (n - p) := by
        rw [List.getD_eq_getElem?_getD, List.getElem?_eq_getElem (by simp; omega), Option.getD_some]; simp
      rw [wv_high _ _ _ hp (by omega), e]
def erow : Nat → List Int
  | 0 => 1 :: List.replicate 40 0
  | k + 1 => worow (erow k) (k + 1) 1
def orow : Nat → List Int
  | 0 => 1 :: List.replicate 40 0
  | k + 1 => irow (2 * k + 1) (orow k) 41
theorem rows_once (k : Nat) : setRows true (rsL 1 k) = erow k := by
  induction k with
  | zero => exact crow_zero
  | succ k ih =>
    rw [rsL_succ, setRows_append, ih]
    have e : ((1 : Int) + ((1 : Nat) : Int) * (k : Int)).toNat = k + 1 := by omega
    rw [e, mrow_once]
    rfl
theorem rows_odd (k : Nat) : setRows false (rsL 2 k) = orow k := by
  induction k with
  | zero => exact crow_zero
  | succ k ih =>
    rw [rsL_succ, setRows_append, ih]
    have e : ((1 : Int) + ((2 : Nat) : Int) * (k : Int)).toNat = 2 * k + 1 := by omega
    rw [e, mrow_many, orow, irow_eq _ (by omega)]
    rfl
theorem erow_keep (s d : Nat) (h : s ≤ d) (h41 : s < 41) : (erow d).getD s 0 = (erow s).getD s 0 := by
  induction d with
  | zero => obtain rfl : s = 0 := by omega
            rfl
  | succ d ih =>
    rcases Nat.lt_or_ge d s with h1 | h1
    · obtain rfl : s = d + 1 := by omega
      rfl
    · rw [show erow (d + 1) = worow (erow d) (d + 1) 1 from rfl, worow_getD _ _ _ _ h41]
      unfold wo
      rw [if_pos (by omega)]
      exact ih h1
theorem orow_keep (s : Nat) (h41 : s < 41) (d : Nat) : ∀ j, s < 2 * j + 1 → (orow (j + d)).getD s 0 = (orow j).getD s 0 := by
  induction d with
  | zero => intro j _; rfl
  | succ d ih =>
    intro j hj
    rw [show j + (d + 1) = (j + d) + 1 by omega, orow, irow_eq _ (by omega)]
    have e : ((List.range 41).map (wv (orow (j + d)) (2 * (j + d) + 1))).getD s 0 = wv (orow (j + d)) (2 * (j + d) + 1) s := by
      rw [getD_lt (by simp; exact h41)]; simp
    rw [e, wv_low _ _ _ (by omega)]
    exact ih j hj
theorem euler_tab : erow 40 = orow 20 := by decide +kernel
theorem euler (n : Nat) (h : n ≤ 40) : cntF true (rsL 1 n) n = cntF false (rsL 2 ((n + 1) / 2)) n := by
  rw [cntF_in true (stB_all n h) (by omega) (by omega), cntF_in false (stB_odd _ (by omega)) (by omega) (by omega), rows_once, rows_odd, Int.toNat_natCast, ← erow_keep n 40 h (by omega), euler_tab]
  have := orow_keep n (by omega) (20 - (n + 1) / 2) ((n + 1) / 2) (by omega)
  rw [← this]
  congr 2
  omega
/-- the last number of the set comes or not -/
theorem cnt_last (once : Bool) {S : List Int} (hs : stB S = true) (h0 : 0 < S.length) {n : Int} (hn : 0 ≤ n) (hn40 : n ≤ 40) :
    cntF once S n = cntF once (S.take (S.length - 1)) n + max (cntF once (if once then S.take (S.length - 1) else S) (n - S[S.length - 1]'(by omega))) 0 := by
  have hl : S.length - 1 < S.length := by omega
  have hst : stB (S.take (S.length - 1)) = true := (stB_iff _).2 fun i hi => by
    have hi2 : i < S.length - 1 := by simp at hi; omega
    have h1 := (stB_iff S).1 hs i (by omega)
    rw [getD_take, getD_take, if_pos hi2, if_pos (by omega)]
    exact h1
  have hx := (stB_iff S).1 hs (S.length - 1) hl
  rw [getD_lt hl] at hx
  have hbd := setRows_step hs once hl
  have hsu := setRows_succ once hl
  rw [show S.length - 1 + 1 = S.length by omega, List.take_of_length_le (Nat.le_refl _)] at hsu
  obtain ⟨N, rfl⟩ := Int.eq_ofNat_of_zero_le hn
  obtain ⟨p, hp⟩ : ∃ p : Nat, S[S.length - 1] = (p : Int) := ⟨S[S.length - 1].toNat, by omega⟩
  rw [hp] at hx hsu ⊢
  rw [hp] at hbd
  have e1 : ((p : Int)).toNat = p := by omega
  rw [e1] at hsu hbd
  have hA := cntF_in once hs (n := (N : Int)) hn hn40
  have hB := cntF_in once hst (n := (N : Int)) hn hn40
  rw [Int.toNat_natCast] at hA hB
  rw [hA, hB, hsu, mrow_getD _ _ _ _ (by omega)]
  rcases Nat.lt_or_ge N p with h1 | h1
  · have hz : ∀ X, cntF once X ((N : Int) - (p : Int)) = -1 := fun X => cntF_out once (fun h => by omega)
    rw [hz]
    unfold nv
    cases once with
    | false => simp only [Bool.false_eq_true, if_false]; rw [wv_low _ _ _ h1]; omega
    | true => simp only [if_true]; unfold wo; rw [if_pos h1]; omega
  · have eq : ((N : Int) - (p : Int)) = ((N - p : Nat) : Int) := by omega
    rw [eq]
    have hb2 := hbd (N - p) (by omega)
    cases once with
    | false =>
      simp only [Bool.false_eq_true, if_false]
      rw [cntF_in false hs (by omega) (by omega), Int.toNat_natCast, hsu, mrow_getD _ _ _ _ (by omega)]
      unfold nv
      simp only [Bool.false_eq_true, if_false]
      rw [wv_high _ _ _ (by omega) h1]
      omega
    | true =>
      simp only [if_true]
      rw [cntF_in true hst (by omega) (by omega), Int.toNat_natCast]
      unfold nv
      simp only [if_true]
      unfold wo
      rw [if_neg (by omega)]
      omega
theorem cnt_empty (once : Bool) {n : Int} (hn : 0 ≤ n) (hn40 : n ≤ 40) : cntF once [] n = if n = 0 then 1 else 0 := by
  rw [cntF_in once (S := []) (by decide) hn hn40]
  obtain ⟨N, rfl⟩ := Int.eq_ofNat_of_zero_le hn
  rw [Int.toNat_natCast]
  show (crow 0).getD N 0 = _
  rw [crow_getD _ _ (by omega)]
  rcases Nat.eq_zero_or_pos N with h0 | h0
  · subst h0; rw [ct_zero]; rfl
  · rw [ct_none _ h0, if_neg (by omega)]; rfl
theorem cntF_bd (once : Bool) (S : List Int) (n : Int) : -1 ≤ cntF once S n ∧ cntF once S n ≤ 1099511627776 := by
  unfold cntF
  split
  · rename_i h
    have h1 := setRows_bd h.1 once S.length (Nat.le_refl _)
    rw [List.take_of_length_le (Nat.le_refl _)] at h1
    have h2 := h1 n.toNat (by omega)
    have h3 := crow_bd40 (lastOf S S.length) n.toNat (by omega)
    omega
  · omega
end NP
end Go.Proofs.Yteglcoalfgjjiaa
