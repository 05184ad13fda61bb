/-
  Plain mathematics of parts of a set.
-/
import Derived.Test.YtgdkifpjcjegpaaM10
import Derived.Test.YtgdkifpjcjegpaaM21
namespace Go.Proofs.Ytgdkifpjcjegpaa
namespace NP
set_option linter.unusedVariables false
/-- D is at least 0 and at most E -/
def leR (D E : List Int) : Prop := ∀ s, s < 41 → 0 ≤ D.getD s 0 ∧ D.getD s 0 ≤ E.getD s 0
theorem wv_leR {D E : List Int} (h : leR D E) {p : Nat} (hp : 1 ≤ p) (s : Nat) (hs : s < 41) : 0 ≤ wv D p s ∧ wv D p s ≤ wv E p s := by
  induction s using Nat.strongRecOn with
  | _ s ih =>
    have h0 := h s hs
    rcases Nat.lt_or_ge s p with h1 | h1
    · rw [wv_low _ _ _ h1, wv_low _ _ _ h1]; exact h0
    · rw [wv_high _ _ _ hp h1, wv_high _ _ _ hp h1]
      have := ih (s - p) (by omega) (by omega)
      omega
theorem wv_ge {D E : List Int} (h : leR D E) {p : Nat} (hp : 1 ≤ p) (s : Nat) (hs : s < 41) : D.getD s 0 ≤ wv D p s := by
  rcases Nat.lt_or_ge s p with h1 | h1
  · rw [wv_low _ _ _ h1]; exact Int.le_refl _
  · rw [wv_high _ _ _ hp h1]
    have := (wv_leR h hp (s - p) (by omega)).1
    omega
/-- what a further number p makes of the counts: once, or again and again -/
def nv (once : Bool) (D : List Int) (p s : Nat) : Int := if once then wo D p 1 s else wv D p s
def mrow (once : Bool) (D : List Int) (p : Nat) : List Int := (List.range 41).map (nv once D p)
theorem mrow_len (once : Bool) (D : List Int) (p : Nat) : (mrow once D p).length = 41 := by simp [mrow]
theorem mrow_getD (once : Bool) (D : List Int) (p s : Nat) (h : s < 41) : (mrow once D p).getD s 0 = nv once D p s := by
  rw [getD_lt (by rw [mrow_len]; exact h)]; simp [mrow]
theorem mrow_many (D : List Int) (p : Nat) : mrow false D p = wrow D p := rfl
theorem mrow_once (D : List Int) (p : Nat) : mrow true D p = worow D p 1 := rfl
theorem nv_bd {D E : List Int} (h : leR D E) {p : Nat} (hp : 1 ≤ p) (once : Bool) (s : Nat) (hs : s < 41) : 0 ≤ nv once D p s ∧ nv once D p s ≤ wv D p s := by
  have h1 := wv_leR h hp s hs
  unfold nv
  cases once with
  | false => exact ⟨h1.1, Int.le_refl _⟩
  | true =>
    simp only [if_true]
    unfold wo
    have h2 := h s hs
    split
    · rename_i h3
      rw [wv_low _ _ _ h3]
      exact ⟨h2.1, Int.le_refl _⟩
    · rename_i h3
      have h4 := h (s - p) (by omega)
      have h5 := wv_ge h hp (s - p) (by omega)
      rw [wv_high _ _ _ hp (by omega)]
      omega
theorem crow_leR {j k : Nat} (h : j ≤ k) : leR (crow j) (crow k) := fun s hs => by
  rw [crow_getD _ _ hs, crow_getD _ _ hs, ← ctZ_nat, ← ctZ_nat]
  exact ⟨(ctZ_bd _ _ (by omega)).1, ctZ_le (by omega) (by omega) (by omega)⟩
theorem leR_trans {A B C : List Int} (h : leR A B) (k : leR B C) : leR A C := fun s hs => ⟨(h s hs).1, Int.le_trans (h s hs).2 (k s hs).2⟩
theorem mrow_leR {D : List Int} {p : Nat} (h : leR D (crow p)) (once : Bool) : leR (mrow once D (p + 1)) (crow (p + 1)) := fun s hs => by
  rw [mrow_getD _ _ _ _ hs, crow_getD _ _ hs]
  have h1 := nv_bd h (p := p + 1) (by omega) once s hs
  have h2 := (wv_leR h (p := p + 1) (by omega) s hs).2
  rw [wv_crow _ _ hs] at h2
  omega
/-- ascending numbers in 1..40 -/
def stB (S : List Int) : Bool := decide (∀ i, i < S.length → (1 ≤ S.getD i 0 ∧ S.getD i 0 ≤ 40 ∧ (0 < i → S.getD (i - 1) 0 < S.getD i 0)))
theorem stB_iff (S : List Int) : stB S = true ↔ ∀ i, i < S.length → (1 ≤ S.getD i 0 ∧ S.getD i 0 ≤ 40 ∧ (0 < i → S.getD (i - 1) 0 < S.getD i 0)) := by simp [stB]
theorem stB_at {S : List Int} {i : Nat} (hi : i < S.length) (h : ¬ (1 ≤ S.getD i 0 ∧ S.getD i 0 ≤ 40 ∧ (0 < i → S.getD (i - 1) 0 < S.getD i 0))) : stB S = false := by
  cases hd : stB S with
  | false => rfl
  | true => exact absurd ((stB_iff S).1 hd i hi) h
theorem stB_ge {S : List Int} (h : stB S = true) : ∀ i, i < S.length → ((i : Int) + 1 ≤ S.getD i 0) := by
  intro i
  induction i with
  | zero => intro hi; have := ((stB_iff S).1 h 0 hi).1; omega
  | succ i ih =>
    intro hi
    have h1 := ih (by omega)
    have h2 := ((stB_iff S).1 h (i + 1) hi).2.2 (by omega)
    simp only [Nat.add_sub_cancel] at h2
    omega
theorem stB_len {S : List Int} (h : stB S = true) : S.length ≤ 40 := by
  rcases Nat.eq_zero_or_pos S.length with h0 | h0
  · omega
  · have h1 := stB_ge h (S.length - 1) (by omega)
    have h2 := ((stB_iff S).1 h (S.length - 1) (by omega)).2.1
    omega
def setRows (once : Bool) (S : List Int) : List Int := S.foldl (fun D x => mrow once D x.toNat) (crow 0)
theorem setRows_succ (once : Bool) {S : List Int} {i : Nat} (h : i < S.length) : setRows once (S.take (i + 1)) = mrow once (setRows once (S.take i)) S[i].toNat := by
  unfold setRows
  rw [List.take_succ_eq_append_getElem h, List.foldl_append]; rfl
theorem setRows_len (once : Bool) (S : List Int) : (setRows once S).length = 41 := by
  unfold setRows
  have : ∀ (S D : List Int), D.length = 41 → (S.foldl (fun D x => mrow once D x.toNat) D).length = 41 := by
    intro S
    induction S with
    | nil => intro D h; exact h
    | cons x r ih => intro D h; exact ih _ (mrow_len _ _ _)
  exact this S _ (crow_len 0)
/-- the last one of the first i -/
def lastOf (S : List Int) (i : Nat) : Nat := if i = 0 then 0 else (S.getD (i - 1) 0).toNat
theorem setRows_bd {S : List Int} (h : stB S = true) (once : Bool) : ∀ i, i ≤ S.length → leR (setRows once (S.take i)) (crow (lastOf S i)) := by
  intro i
  induction i with
  | zero => intro _; exact crow_leR (Nat.le_refl _)
  | succ i ih =>
    intro hi
    have h1 := (stB_iff S).1 h i (by omega)
    have h2 := ih (by omega)
    have h3 : lastOf S i ≤ S[i].toNat - 1 := by
      unfold lastOf
      rw [getD_lt (by omega)] at h1
      split
      · omega
      · have := h1.2.2 (by omega); omega
    have h4 := mrow_leR (leR_trans h2 (crow_leR h3)) once
    rw [getD_lt (by omega)] at h1
    have e : S[i].toNat - 1 + 1 = S[i].toNat := by omega
    rw [e] at h4
    rw [setRows_succ once (by omega)]
    have e2 : lastOf S (i + 1) = S[i].toNat := by unfold lastOf; rw [if_neg (by omega), Nat.add_sub_cancel, getD_lt (by omega)]
    rw [e2]
    exact h4
theorem crow_bd40 (k s : Nat) (hs : s < 41) : (crow k).getD s 0 ≤ 1099511627776 := by
  rw [crow_getD _ _ hs, ← ctZ_nat]; exact (ctZ_bd _ _ (by omega)).2
/-- the bounds that a step wants -/
theorem setRows_step {S : List Int} (h : stB S = true) (once : Bool) {i : Nat} (hi : i < S.length) : ∀ s, s < 41 → (0 ≤ (setRows once (S.take i)).getD s 0 ∧ (setRows once (S.take i)).getD s 0 ≤ 1099511627776) ∧ 0 ≤ wv (setRows once (S.take i)) S[i].toNat s ∧ wv (setRows once (S.take i)) S[i].toNat s ≤ 1099511627776 := fun s hs => by
  have h1 := (stB_iff S).1 h i hi
  rw [getD_lt hi] at h1
  have h2 := setRows_bd h once i (by omega)
  have h3 : lastOf S i ≤ S[i].toNat - 1 := by
    unfold lastOf
    split
    · omega
    · have := h1.2.2 (by omega); omega
  have h4 := leR_trans h2 (crow_leR h3)
  have h5 := wv_leR h4 (p := S[i].toNat) (by omega) s hs
  have h6 := wv_crow (S[i].toNat - 1) s hs
  have e : S[i].toNat - 1 + 1 = S[i].toNat := by omega
  rw [e] at h6
  have h7 := h4 s hs
  have h8 := crow_bd40 (S[i].toNat - 1) s hs
  have h9 := crow_bd40 S[i].toNat s hs
  rw [crow_getD _ _ hs] at h9
  omega
def cntF (once : Bool) (S : List Int) (n : Int) : Int := if stB S = true ∧ 0 ≤ n ∧ n ≤ 40 then (setRows once S).getD n.toNat 0 else -1
theorem cntF_in (once : Bool) {S : List Int} {n : Int} (h : stB S = true) (h0 : 0 ≤ n) (h1 : n ≤ 40) : cntF once S n = (setRows once S).getD n.toNat 0 := by unfold cntF; rw [if_pos ⟨h, h0, h1⟩]
theorem cntF_out (once : Bool) {S : List Int} {n : Int} (h : ¬ (stB S = true ∧ 0 ≤ n ∧ n ≤ 40)) : cntF once S n = -1 := by unfold cntF; rw [if_neg h]
/-- the model's table: which places are new -/
def prD (once : Bool) (n k s : Nat) : Bool := if once then decide (n < s + k) else decide (s < k)
def tmD (once : Bool) (D : List Int) (n p k : Nat) : List Int := (List.range (n + 1)).map fun s => if prD once n k s then nv once D p s else D.getD s 0
theorem tmD_len (once : Bool) (D : List Int) (n p k : Nat) : (tmD once D n p k).length = n + 1 := by simp [tmD]
theorem tmD_get (once : Bool) (D : List Int) (n p k s : Nat) (h : s < (tmD once D n p k).length) : (tmD once D n p k)[s] = if prD once n k s then nv once D p s else D.getD s 0 := by simp [tmD]
def xD (once : Bool) (n k : Nat) : Nat := if once then n - k else k
theorem prD_next (once : Bool) {n k s : Nat} (hk : k ≤ n) (hs : s ≤ n) : prD once n (k + 1) s = (prD once n k s || decide (s = xD once n k)) := by
  unfold prD xD
  cases once with
  | false =>
    simp only [Bool.false_eq_true, if_false]
    rw [← Bool.decide_or]
    exact decide_eq_decide.2 (by omega)
  | true =>
    simp only [if_true]
    rw [← Bool.decide_or]
    exact decide_eq_decide.2 (by omega)
theorem prD_at (once : Bool) {n k : Nat} (hk : k ≤ n) : prD once n k (xD once n k) = false := by
  unfold prD xD
  cases once with
  | false => simp
  | true => simp only [if_true]; exact decide_eq_false (by omega)
theorem xD_le (once : Bool) {n k : Nat} (hk : k ≤ n) : xD once n k ≤ n := by unfold xD; split <;> omega
/-- the number is put in -/
theorem tmD_set (once : Bool) (D : List Int) {n p k : Nat} (hk : k ≤ n) : (tmD once D n p k).set (xD once n k) (nv once D p (xD once n k)) = tmD once D n p (k + 1) := by
  apply List.ext_getElem
  · rw [List.length_set, tmD_len, tmD_len]
  · intro s h1 h2
    have hs : s ≤ n := by rw [tmD_len] at h2; omega
    by_cases hx : xD once n k = s
    · subst hx
      rw [List.getElem_set_self, tmD_get, prD_next once hk hs, decide_eq_true rfl, Bool.or_true, if_pos rfl]
    · rw [List.getElem_set_ne hx, tmD_get, tmD_get, prD_next once hk hs, decide_eq_false (fun e => hx e.symm), Bool.or_false]
theorem tmD_same (once : Bool) (D : List Int) {n p k : Nat} (hk : k ≤ n) (hp : xD once n k < p) : tmD once D n p k = tmD once D n p (k + 1) := by
  rw [← tmD_set once D hk]
  have hx := xD_le once hk
  have hl : xD once n k < (tmD once D n p k).length := by rw [tmD_len]; omega
  have e : (tmD once D n p k)[xD once n k] = nv once D p (xD once n k) := by
    rw [tmD_get, prD_at once hk]
    unfold nv
    cases once with
    | false => simp only [Bool.false_eq_true, if_false]; rw [wv_low _ _ _ hp]
    | true => simp only [Bool.false_eq_true, if_false, if_true]; unfold wo; rw [if_pos hp]
  rw [← e, List.set_getElem_self]
theorem tmD_val (once : Bool) (D : List Int) {n p k : Nat} (hk : k ≤ n) (hp1 : 1 ≤ p) (hp : p ≤ xD once n k) : nv once D p (xD once n k) = D.getD (xD once n k) 0 + (if prD once n k (xD once n k - p) then nv once D p (xD once n k - p) else D.getD (xD once n k - p) 0) := by
  unfold nv prD xD at *
  cases once with
  | false =>
    simp only [Bool.false_eq_true, if_false] at *
    rw [decide_eq_true (by omega), wv_high _ _ _ hp1 hp]
    simp
  | true =>
    simp only [if_true] at *
    rw [decide_eq_false (by omega)]
    conv => lhs; unfold wo
    rw [if_neg (by omega)]
    simp
theorem tmD_zero (once : Bool) {D : List Int} (n p : Nat) : tmD once D n p 0 = (List.range (n + 1)).map fun s => D.getD s 0 := by
  unfold tmD
  apply List.map_congr_left
  intro s hs
  rw [List.mem_range] at hs
  have : prD once n 0 s = false := by
    unfold prD
    cases once with
    | false => simp
    | true => simp only [if_true]; exact decide_eq_false (by omega)
  rw [this]
  simp
theorem tmD_end (once : Bool) {D : List Int} (n p : Nat) (hn : n ≤ 40) : tmD once D n p (n + 1) = (List.range (n + 1)).map fun s => (mrow once D p).getD s 0 := by
  unfold tmD
  apply List.map_congr_left
  intro s hs
  rw [List.mem_range] at hs
  have : prD once n (n + 1) s = true := by
    unfold prD
    cases once with
    | false => simp only [Bool.false_eq_true, if_false]; exact decide_eq_true hs
    | true => simp only [if_true]; exact decide_eq_true (by omega)
  rw [this, mrow_getD _ _ _ _ (by omega)]
  simp
def cutR (D : List Int) (n : Nat) : List Int := (List.range (n + 1)).map fun s => D.getD s 0
theorem cutR_len (D : List Int) (n : Nat) : (cutR D n).length = n + 1 := by simp [cutR]
theorem cutR_get (D : List Int) (n s : Nat) (h : s < (cutR D n).length) : (cutR D n)[s] = D.getD s 0 := by simp [cutR]
theorem rep_getD (m t : Nat) : (List.replicate m (0 : Int)).getD t 0 = 0 := by
  rw [List.getD_eq_getElem?_getD, List.getElem?_replicate]
  split <;> rfl
theorem cutR_start (n : Nat) (hn : n ≤ 40) : (List.replicate (n + 1) (0 : Int)).set 0 1 = cutR (crow 0) n := by
  apply List.ext_getElem
  · rw [cutR_len]; simp
  · intro s h1 h2
    have hs : s < 41 := by rw [cutR_len] at h2; omega
    rw [cutR_get, crow_zero]
    rcases Nat.eq_zero_or_pos s with h0 | h0
    · subst h0; simp
    · rw [List.getElem_set_ne (by omega), List.getElem_replicate]
      obtain ⟨t, rfl⟩ : ∃ t, s = t + 1 := ⟨s - 1, by omega⟩
      rw [List.getD_cons_succ, rep_getD]
end NP
end Go.Proofs.Ytgdkifpjcjegpaa
