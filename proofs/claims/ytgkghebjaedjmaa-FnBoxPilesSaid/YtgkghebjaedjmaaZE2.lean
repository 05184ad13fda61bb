/-
  Plain mathematics of parts of a set. Plain mathematics: tables of counts, signs and divisors up to 40, and what the promises say of them. Plain mathematics: counts of marked parts and of piles, by tables. Walks: corners of the model and of the program. Walks: cells taken away and put, of the model and of the program. Walks of the model: two lists the same. Walks of the model: piles: summed, turned, in layers, even. All piles with a sum: as many as are counted, each a pile with the sum, no two next to each other are one. Plain mathematics: the model's table of piles; piles in boxes. Walks: draws of boxes. Walks: whether the sides of a box are in limits.
-/
import Derived.Test.YtgkghebjaedjmaaZC1
import Derived.Test.YtgkghebjaedjmaaZC2
import Derived.Test.YtgkghebjaedjmaaZC3
import Derived.Test.YtgkghebjaedjmaaZC4
import Derived.Test.YtgkghebjaedjmaaZC5
import Derived.Test.YtgkghebjaedjmaaZC6
import Derived.Test.YtgkghebjaedjmaaZC7
import Derived.Test.YtgkghebjaedjmaaZC8
import Derived.Test.YtgkghebjaedjmaaZC9
import Derived.Test.YtgkghebjaedjmaaZE1
import Derived.Deep.QuietTactic
import Derived.BigQuiet
import Derived.OwnWalk
import Derived.Test.YtgkghebjaedjmaaProg
namespace Go.Proofs.Ytgkghebjaedjmaa
namespace NP
set_option linter.unusedVariables false
/-- D is at least 0 and at most E -/
def leR (D E : List Int) : Prop := ∀ s, s < 41 → 0 ≤ D.getD s 0 ∧ D.getD s 0 ≤ E.getD s 0
theorem wv_leR {D E : List Int} (h : leR D E) {p : Nat} (hp : 1 ≤ p) (s : Nat) (hs : s < 41) : 0 ≤ wv D p s ∧ wv D p s ≤ wv E p s := by
  induction s using Nat.strongRecOn with
  | _ s ih =>
    have h0 := h s hs
    rcases Nat.lt_or_ge s p with h1 | h1
    · rw [wv_low _ _ _ h1, wv_low _ _ _ h1]; exact h0
    · rw [wv_high _ _ _ hp h1, wv_high _ _ _ hp h1]
      have := ih (s - p) (by omega) (by omega)
      omega
theorem wv_ge {D E : List Int} (h : leR D E) {p : Nat} (hp : 1 ≤ p) (s : Nat) (hs : s < 41) : D.getD s 0 ≤ wv D p s := by
  rcases Nat.lt_or_ge s p with h1 | h1
  · rw [wv_low _ _ _ h1]; exact Int.le_refl _
  · rw [wv_high _ _ _ hp h1]
    have := (wv_leR h hp (s - p) (by omega)).1
    omega
/-- what a further number p makes of the counts: once, or again and again -/
def nv (once : Bool) (D : List Int) (p s : Nat) : Int := if once then wo D p 1 s else wv D p s
def mrow (once : Bool) (D : List Int) (p : Nat) : List Int := (List.range 41).map (nv once D p)
theorem mrow_len (once : Bool) (D : List Int) (p : Nat) : (mrow once D p).length = 41 := by simp [mrow]
theorem mrow_getD (once : Bool) (D : List Int) (p s : Nat) (h : s < 41) : (mrow once D p).getD s 0 = nv once D p s := by
  rw [getD_lt (by rw [mrow_len]; exact h)]; simp [mrow]
theorem mrow_many (D : List Int) (p : Nat) : mrow false D p = wrow D p := rfl
theorem mrow_once (D : List Int) (p : Nat) : mrow true D p = worow D p 1 := rfl
theorem nv_bd {D E : List Int} (h : leR D E) {p : Nat} (hp : 1 ≤ p) (once : Bool) (s : Nat) (hs : s < 41) : 0 ≤ nv once D p s ∧ nv once D p s ≤ wv D p s := by
  have h1 := wv_leR h hp s hs
  unfold nv
  cases once with
  | false => exact ⟨h1.1, Int.le_refl _⟩
  | true =>
    simp only [if_true]
    unfold wo
    have h2 := h s hs
    split
    · rename_i h3
      rw [wv_low _ _ _ h3]
      exact ⟨h2.1, Int.le_refl _⟩
    · rename_i h3
      have h4 := h (s - p) (by omega)
      have h5 := wv_ge h hp (s - p) (by omega)
      rw [wv_high _ _ _ hp (by omega)]
      omega
theorem crow_leR {j k : Nat} (h : j ≤ k) : leR (crow j) (crow k) := fun s hs => by
  rw [crow_getD _ _ hs, crow_getD _ _ hs, ← ctZ_nat, ← ctZ_nat]
  exact ⟨(ctZ_bd _ _ (by omega)).1, ctZ_le (by omega) (by omega) (by omega)⟩
theorem leR_trans {A B C : List Int} (h : leR A B) (k : leR B C) : leR A C := fun s hs => ⟨(h s hs).1, Int.le_trans (h s hs).2 (k s hs).2⟩
theorem mrow_leR {D : List Int} {p : Nat} (h : leR D (crow p)) (once : Bool) : leR (mrow once D (p + 1)) (crow (p + 1)) := fun s hs => by
  rw [mrow_getD _ _ _ _ hs, crow_getD _ _ hs]
  have h1 := nv_bd h (p := p + 1) (by omega) once s hs
  have h2 := (wv_leR h (p := p + 1) (by omega) s hs).2
  rw [wv_crow _ _ hs] at h2
  omega
/-- ascending numbers in 1..40 -/
def stB (S : List Int) : Bool := decide (∀ i, i < S.length → (1 ≤ S.getD i 0 ∧ S.getD i 0 ≤ 40 ∧ (0 < i → S.getD (i - 1) 0 < S.getD i 0)))
theorem stB_iff (S : List Int) : stB S = true ↔ ∀ i, i < S.length → (1 ≤ S.getD i 0 ∧ S.getD i 0 ≤ 40 ∧ (0 < i → S.getD (i - 1) 0 < S.getD i 0)) := by simp [stB]
theorem stB_at {S : List Int} {i : Nat} (hi : i < S.length) (h : ¬ (1 ≤ S.getD i 0 ∧ S.getD i 0 ≤ 40 ∧ (0 < i → S.getD (i - 1) 0 < S.getD i 0))) : stB S = false := by
  cases hd : stB S with
  | false => rfl
  | true => exact absurd ((stB_iff S).1 hd i hi) h
theorem stB_ge {S : List Int} (h : stB S = true) : ∀ i, i < S.length → ((i : Int) + 1 ≤ S.getD i 0) := by
  intro i
  induction i with
  | zero => intro hi; have := ((stB_iff S).1 h 0 hi).1; omega
  | succ i ih =>
    intro hi
    have h1 := ih (by omega)
    have h2 := ((stB_iff S).1 h (i + 1) hi).2.2 (by omega)
    simp only [Nat.add_sub_cancel] at h2
    omega
theorem stB_len {S : List Int} (h : stB S = true) : S.length ≤ 40 := by
  rcases Nat.eq_zero_or_pos S.length with h0 | h0
  · omega
  · have h1 := stB_ge h (S.length - 1) (by omega)
    have h2 := ((stB_iff S).1 h (S.length - 1) (by omega)).2.1
    omega
def setRows (once : Bool) (S : List Int) : List Int := S.foldl (fun D x => mrow once D x.toNat) (crow 0)
theorem setRows_succ (once : Bool) {S : List Int} {i : Nat} (h : i < S.length) : setRows once (S.take (i + 1)) = mrow once (setRows once (S.take i)) S[i].toNat := by
  unfold setRows
  rw [List.take_succ_eq_append_getElem h, List.foldl_append]; rfl
theorem setRows_len (once : Bool) (S : List Int) : (setRows once S).length = 41 := by
  unfold setRows
  have : ∀ (S D : List Int), D.length = 41 → (S.foldl (fun D x => mrow once D x.toNat) D).length = 41 := by
    intro S
    induction S with
    | nil => intro D h; exact h
    | cons x r ih => intro D h; exact ih _ (mrow_len _ _ _)
  exact this S _ (crow_len 0)
/-- the last one of the first i -/
def lastOf (S : List Int) (i : Nat) : Nat := if i = 0 then 0 else (S.getD (i - 1) 0).toNat
theorem setRows_bd {S : List Int} (h : stB S = true) (once : Bool) : ∀ i, i ≤ S.length → leR (setRows once (S.take i)) (crow (lastOf S i)) := by
  intro i
  induction i with
  | zero => intro _; exact crow_leR (Nat.le_refl _)
  | succ i ih =>
    intro hi
    have h1 := (stB_iff S).1 h i (by omega)
    have h2 := ih (by omega)
    have h3 : lastOf S i ≤ S[i].toNat - 1 := by
      unfold lastOf
      rw [getD_lt (by omega)] at h1
      split
      · omega
      · have := h1.2.2 (by omega); omega
    have h4 := mrow_leR (leR_trans h2 (crow_leR h3)) once
    rw [getD_lt (by omega)] at h1
    have e : S[i].toNat - 1 + 1 = S[i].toNat := by omega
    rw [e] at h4
    rw [setRows_succ once (by omega)]
    have e2 : lastOf S (i + 1) = S[i].toNat := by unfold lastOf; rw [if_neg (by omega), Nat.add_sub_cancel, getD_lt (by omega)]
    rw [e2]
    exact h4
theorem crow_bd40 (k s : Nat) (hs : s < 41) : (crow k).getD s 0 ≤ 1099511627776 := by
  rw [crow_getD _ _ hs, ← ctZ_nat]; exact (ctZ_bd _ _ (by omega)).2
/-- the bounds that a step wants -/
theorem setRows_step {S : List Int} (h : stB S = true) (once : Bool) {i : Nat} (hi : i < S.length) : ∀ s, s < 41 → (0 ≤ (setRows once (S.take i)).getD s 0 ∧ (setRows once (S.take i)).getD s 0 ≤ 1099511627776) ∧ 0 ≤ wv (setRows once (S.take i)) S[i].toNat s ∧ wv (setRows once (S.take i)) S[i].toNat s ≤ 1099511627776 := fun s hs => by
  have h1 := (stB_iff S).1 h i hi
  rw [getD_lt hi] at h1
  have h2 := setRows_bd h once i (by omega)
  have h3 : lastOf S i ≤ S[i].toNat - 1 := by
    unfold lastOf
    split
    · omega
    · have := h1.2.2 (by omega); omega
  have h4 := leR_trans h2 (crow_leR h3)
  have h5 := wv_leR h4 (p := S[i].toNat) (by omega) s hs
  have h6 := wv_crow (S[i].toNat - 1) s hs
  have e : S[i].toNat - 1 + 1 = S[i].toNat := by omega
  rw [e] at h6
  have h7 := h4 s hs
  have h8 := crow_bd40 (S[i].toNat - 1) s hs
  have h9 := crow_bd40 S[i].toNat s hs
  rw [crow_getD _ _ hs] at h9
  omega
def cntF (once : Bool) (S : List Int) (n : Int) : Int := if stB S = true ∧ 0 ≤ n ∧ n ≤ 40 then (setRows once S).getD n.toNat 0 else -1
theorem cntF_in (once : Bool) {S : List Int} {n : Int} (h : stB S = true) (h0 : 0 ≤ n) (h1 : n ≤ 40) : cntF once S n = (setRows once S).getD n.toNat 0 := by unfold cntF; rw [if_pos ⟨h, h0, h1⟩]
theorem cntF_out (once : Bool) {S : List Int} {n : Int} (h : ¬ (stB S = true ∧ 0 ≤ n ∧ n ≤ 40)) : cntF once S n = -1 := by unfold cntF; rw [if_neg h]
/-- the model's table: which places are new -/
def prD (once : Bool) (n k s : Nat) : Bool := if once then decide (n < s + k) else decide (s < k)
def tmD (once : Bool) (D : List Int) (n p k : Nat) : List Int := (List.range (n + 1)).map fun s => if prD once n k s then nv once D p s else D.getD s 0
theorem tmD_len (once : Bool) (D : List Int) (n p k : Nat) : (tmD once D n p k).length = n + 1 := by simp [tmD]
theorem tmD_get (once : Bool) (D : List Int) (n p k s : Nat) (h : s < (tmD once D n p k).length) : (tmD once D n p k)[s] = if prD once n k s then nv once D p s else D.getD s 0 := by simp [tmD]
def xD (once : Bool) (n k : Nat) : Nat := if once then n - k else k
theorem prD_next (once : Bool) {n k s : Nat} (hk : k ≤ n) (hs : s ≤ n) : prD once n (k + 1) s = (prD once n k s || decide (s = xD once n k)) := by
  unfold prD xD
  cases once with
  | false =>
    simp only [Bool.false_eq_true, if_false]
    rw [← Bool.decide_or]
    exact decide_eq_decide.2 (by omega)
  | true =>
    simp only [if_true]
    rw [← Bool.decide_or]
    exact decide_eq_decide.2 (by omega)
theorem prD_at (once : Bool) {n k : Nat} (hk : k ≤ n) : prD once n k (xD once n k) = false := by
  unfold prD xD
  cases once with
  | false => simp
  | true => simp only [if_true]; exact decide_eq_false (by omega)
theorem xD_le (once : Bool) {n k : Nat} (hk : k ≤ n) : xD once n k ≤ n := by unfold xD; split <;> omega
/-- the number is put in -/
theorem tmD_set (once : Bool) (D : List Int) {n p k : Nat} (hk : k ≤ n) : (tmD once D n p k).set (xD once n k) (nv once D p (xD once n k)) = tmD once D n p (k + 1) := by
  apply List.ext_getElem
  · rw [List.length_set, tmD_len, tmD_len]
  · intro s h1 h2
    have hs : s ≤ n := by rw [tmD_len] at h2; omega
    by_cases hx : xD once n k = s
    · subst hx
      rw [List.getElem_set_self, tmD_get, prD_next once hk hs, decide_eq_true rfl, Bool.or_true, if_pos rfl]
    · rw [List.getElem_set_ne hx, tmD_get, tmD_get, prD_next once hk hs, decide_eq_false (fun e => hx e.symm), Bool.or_false]
theorem tmD_same (once : Bool) (D : List Int) {n p k : Nat} (hk : k ≤ n) (hp : xD once n k < p) : tmD once D n p k = tmD once D n p (k + 1) := by
  rw [← tmD_set once D hk]
  have hx := xD_le once hk
  have hl : xD once n k < (tmD once D n p k).length := by rw [tmD_len]; omega
  have e : (tmD once D n p k)[xD once n k] = nv once D p (xD once n k) := by
    rw [tmD_get, prD_at once hk]
    unfold nv
    cases once with
    | false => simp only [Bool.false_eq_true, if_false]; rw [wv_low _ _ _ hp]
    | true => simp only [Bool.false_eq_true, if_false, if_true]; unfold wo; rw [if_pos hp]
  rw [← e, List.set_getElem_self]
theorem tmD_val (once : Bool) (D : List Int) {n p k : Nat} (hk : k ≤ n) (hp1 : 1 ≤ p) (hp : p ≤ xD once n k) : nv once D p (xD once n k) = D.getD (xD once n k) 0 + (if prD once n k (xD once n k - p) then nv once D p (xD once n k - p) else D.getD (xD once n k - p) 0) := by
  unfold nv prD xD at *
  cases once with
  | false =>
    simp only [Bool.false_eq_true, if_false] at *
    rw [decide_eq_true (by omega), wv_high _ _ _ hp1 hp]
    simp
  | true =>
    simp only [if_true] at *
    rw [decide_eq_false (by omega)]
    conv => lhs; unfold wo
    rw [if_neg (by omega)]
    simp
theorem tmD_zero (once : Bool) {D : List Int} (n p : Nat) : tmD once D n p 0 = (List.range (n + 1)).map fun s => D.getD s 0 := by
  unfold tmD
  apply List.map_congr_left
  intro s hs
  rw [List.mem_range] at hs
  have : prD once n 0 s = false := by
    unfold prD
    cases once with
    | false => simp
    | true => simp only [if_true]; exact decide_eq_false (by omega)
  rw [this]
  simp
theorem tmD_end (once : Bool) {D : List Int} (n p : Nat) (hn : n ≤ 40) : tmD once D n p (n + 1) = (List.range (n + 1)).map fun s => (mrow once D p).getD s 0 := by
  unfold tmD
  apply List.map_congr_left
  intro s hs
  rw [List.mem_range] at hs
  have : prD once n (n + 1) s = true := by
    unfold prD
    cases once with
    | false => simp only [Bool.false_eq_true, if_false]; exact decide_eq_true hs
    | true => simp only [if_true]; exact decide_eq_true (by omega)
  rw [this, mrow_getD _ _ _ _ (by omega)]
  simp
def cutR (D : List Int) (n : Nat) : List Int := (List.range (n + 1)).map fun s => D.getD s 0
theorem cutR_len (D : List Int) (n : Nat) : (cutR D n).length = n + 1 := by simp [cutR]
theorem cutR_get (D : List Int) (n s : Nat) (h : s < (cutR D n).length) : (cutR D n)[s] = D.getD s 0 := by simp [cutR]
theorem rep_getD (m t : Nat) : (List.replicate m (0 : Int)).getD t 0 = 0 := by
  rw [List.getD_eq_getElem?_getD, List.getElem?_replicate]
  split <;> rfl
theorem cutR_start (n : Nat) (hn : n ≤ 40) : (List.replicate (n + 1) (0 : Int)).set 0 1 = cutR (crow 0) n := by
  apply List.ext_getElem
  · rw [cutR_len]; simp
  · intro s h1 h2
    have hs : s < 41 := by rw [cutR_len] at h2; omega
    rw [cutR_get, crow_zero]
    rcases Nat.eq_zero_or_pos s with h0 | h0
    · subst h0; simp
    · rw [List.getElem_set_ne (by omega), List.getElem_replicate]
      obtain ⟨t, rfl⟩ : ∃ t, s = t + 1 := ⟨s - 1, by omega⟩
      rw [List.getD_cons_succ, rep_getD]
end NP
end Go.Proofs.Ytgkghebjaedjmaa
namespace Go.Proofs.Ytgkghebjaedjmaa
namespace NP
set_option linter.unusedVariables false
theorem ct_ge (n k : Nat) (h : n ≤ k) : ct n k = ct n n := by
  induction k with
  | zero => obtain rfl : n = 0 := by omega
            rfl
  | succ k ih =>
    rcases Nat.lt_or_ge k n with h1 | h1
    · obtain rfl : n = k + 1 := by omega
      rfl
    · rw [ct_big n (k + 1) (by omega) (by omega), Nat.add_sub_cancel]
      exact ih h1
theorem ctZ_ge (n k : Int) (h0 : 0 ≤ n) (h : n ≤ k) : ctZ n k = ctZ n n := by
  obtain ⟨a, rfl⟩ := Int.eq_ofNat_of_zero_le h0
  obtain ⟨b, rfl⟩ := Int.eq_ofNat_of_zero_le (by omega : 0 ≤ k)
  rw [ctZ_nat, ctZ_nat, ct_ge a b (by omega)]
/-- a row of counts out of the one ahead -/
def nrow (p : Nat) (old : List Nat) (n : Nat) : List Nat := (List.range n).foldl (fun acc s => acc ++ [old.getD s 0 + (if s < p then 0 else acc.getD (s - p) 0)]) []
theorem nrow_succ (p : Nat) (old : List Nat) (n : Nat) : nrow p old (n + 1) = nrow p old n ++ [old.getD n 0 + (if n < p then 0 else (nrow p old n).getD (n - p) 0)] := by
  unfold nrow
  rw [List.range_succ, List.foldl_append]
  rfl
def crowN (k : Nat) : List Nat := (List.range 41).map fun s => ct s k
theorem crowN_getD (k s : Nat) (h : s < 41) : (crowN k).getD s 0 = ct s k := by
  rw [List.getD_eq_getElem?_getD, List.getElem?_eq_getElem (by simp [crowN]; exact h), Option.getD_some]
  simp [crowN]
theorem nrow_crow (k : Nat) (n : Nat) (hn : n ≤ 41) : nrow (k + 1) (crowN k) n = (List.range n).map fun s => ct s (k + 1) := by
  induction n with
  | zero => rfl
  | succ n ih =>
    rw [nrow_succ, ih (by omega), List.range_succ, List.map_append]
    congr 1
    rw [crowN_getD k n (by omega)]
    simp only [List.map_cons, List.map_nil]
    congr 1
    split
    · rename_i h
      rw [ct_big n (k + 1) (by omega) h]; rfl
    · rename_i h
      rw [List.getD_eq_getElem?_getD, List.getElem?_eq_getElem (by simp; omega), Option.getD_some, ct_rec n (k + 1) (by omega) (by omega)]
      simp
def rowc : Nat → List Nat
  | 0 => 1 :: List.replicate 40 0
  | k + 1 => nrow (k + 1) (rowc k) 41
theorem rowc_eq (k : Nat) : rowc k = crowN k := by
  induction k with
  | zero =>
    have e : ∀ n, (List.range (n + 1)).map (fun s => ct s 0) = 1 :: List.replicate n 0 := by
      intro n
      induction n with
      | zero => simp [ct_zero]
      | succ n ih => rw [List.range_succ, List.map_append, ih, List.replicate_succ', List.map_cons, List.map_nil, ct_none _ (by omega)]; rfl
    exact (e 40).symm
  | succ k ih =>
    show nrow (k + 1) (rowc k) 41 = _
    rw [ih, nrow_crow k 41 (Nat.le_refl _)]
    rfl
def ptab : List Nat := [1, 1, 2, 3, 5, 7, 11, 15, 22, 30, 42, 56, 77, 101, 135, 176, 231, 297, 385, 490, 627, 792, 1002, 1255, 1575, 1958, 2436, 3010, 3718, 4565, 5604, 6842, 8349, 10143, 12310, 14883, 17977, 21637, 26015, 31185, 37338]
theorem ptab_ok : rowc 40 = ptab := by decide +kernel
theorem cp_tab (n : Nat) (h : n ≤ 40) : cpF n = ((ptab.getD n 0 : Nat) : Int) := by
  unfold cpF
  rw [if_pos (by omega), ctZ_nat, ← ct_ge n 40 h, ← ptab_ok, rowc_eq, crowN_getD 40 n (by omega)]
def stab : List Int := [1, -1, -1, 0, 0, 1, 0, 1, 0, 0, 0, 0, -1, 0, 0, -1, 0, 0, 0, 0, 0, 0, 1, 0, 0, 0, 1, 0, 0, 0, 0, 0, 0, 0, 0, -1, 0, 0, 0, 0, -1]
theorem srow_keep (s d : Nat) (h : s ≤ d) (h41 : s < 41) : (srow d).getD s 0 = (srow s).getD s 0 := by
  induction d with
  | zero => obtain rfl : s = 0 := by omega
            rfl
  | succ d ih =>
    rcases Nat.lt_or_ge d s with h1 | h1
    · obtain rfl : s = d + 1 := by omega
      rfl
    · rw [show srow (d + 1) = worow (srow d) (d + 1) (-1) from rfl, worow_getD _ _ _ _ h41]
      unfold wo
      rw [if_pos (by omega)]
      exact ih h1
theorem stab_ok : srow 40 = stab := by decide +kernel
theorem sd_tab (n : Nat) (h : n ≤ 40) : sdF n = stab.getD n 0 := by
  unfold sdF
  rw [if_pos (by omega), Int.toNat_natCast, ← srow_keep n 40 h (by omega), stab_ok]
end NP
end Go.Proofs.Ytgkghebjaedjmaa
namespace Go.Proofs.Ytgkghebjaedjmaa
namespace NP
set_option linter.unusedVariables false
/-- a row when a further number may come, by one pass -/
def nrI (p : Nat) (D : List Int) (n : Nat) : List Int := (List.range n).foldl (fun acc s => acc ++ [D.getD s 0 + (if s < p then 0 else acc.getD (s - p) 0)]) []
theorem nrI_succ (p : Nat) (D : List Int) (n : Nat) : nrI p D (n + 1) = nrI p D n ++ [D.getD n 0 + (if n < p then 0 else (nrI p D n).getD (n - p) 0)] := by
  unfold nrI
  rw [List.range_succ, List.foldl_append]
  rfl
theorem nrI_eq (p : Nat) (D : List Int) (hp : 1 ≤ p) (n : Nat) : nrI p D n = (List.range n).map (wv D p) := by
  induction n with
  | zero => rfl
  | succ n ih =>
    rw [nrI_succ, ih, List.range_succ, List.map_append]
    congr 1
    simp only [List.map_cons, List.map_nil]
    congr 1
    split
    · rename_i h
      rw [wv_low _ _ _ h]; omega
    · rename_i h
      rw [getD_lt (L := (List.range n).map (wv D p)) (by simp; omega), wv_high _ _ _ hp (by omega)]
      simp
theorem wrow_nrI (D : List Int) (p : Nat) (hp : 1 ≤ p) : wrow D p = nrI p D 41 := (nrI_eq p D hp 41).symm
/-- the counts of marked parts, none greater than k -/
def mkrow : Nat → List Int
  | 0 => 1 :: List.replicate 40 0
  | k + 1 => worow (wrow (mkrow k) (k + 1)) (k + 1) 1
theorem mkrow_len (k : Nat) : (mkrow k).length = 41 := by
  cases k with
  | zero => rfl
  | succ k => exact worow_len _ _ _
def okR (D : List Int) : Bool := D.all fun x => decide (0 ≤ x) && decide (x ≤ 1099511627776)
theorem okR_get {D : List Int} (h : okR D = true) (s : Nat) : 0 ≤ D.getD s 0 ∧ D.getD s 0 ≤ 1099511627776 := by
  rcases Nat.lt_or_ge s D.length with h1 | h1
  · have := List.all_eq_true.1 h (D.getD s 0) (by rw [getD_lt h1]; exact List.getElem_mem _)
    simpa using this
  · rw [getD_ge h1]; omega
/-- the different parts, none greater than k -/
def orow : Nat → List Int
  | 0 => 1 :: List.replicate 40 0
  | k + 1 => worow (orow k) (k + 1) 1
theorem orow_len (k : Nat) : (orow k).length = 41 := by
  cases k with
  | zero => rfl
  | succ k => exact worow_len _ _ _
/-- the sum of products: marked ones of k, others of what is left -/
def mkS (O C : List Int) (n : Nat) : Nat → Int
  | 0 => 0
  | k + 1 => mkS O C n k + O.getD k 0 * C.getD (n - k) 0
def mkOk (O C M : List Int) (n : Nat) : Bool := ((List.range (n + 2)).all fun k => decide (0 ≤ mkS O C n k) && decide (mkS O C n k ≤ 1099511627776)) && ((List.range (n + 1)).all fun k => decide (0 ≤ O.getD k 0 * C.getD (n - k) 0) && decide (O.getD k 0 * C.getD (n - k) 0 ≤ 1099511627776)) && decide (mkS O C n (n + 1) = M.getD n 0)
def mkChk : Nat → Nat → List Int → List Int → List Int → Bool
  | 0, _, _, _, _ => true
  | f + 1, j, O, C, M => okR M && okR (nrI (j + 1) M 41) && okR O && mkOk O C M j && mkChk f (j + 1) (worow O (j + 1) 1) (nrI (j + 1) C 41) (worow (nrI (j + 1) M 41) (j + 1) 1)
theorem mkChk_at : ∀ (f j : Nat), mkChk f j (orow j) (crow j) (mkrow j) = true → ∀ i, i < f → okR (mkrow (j + i)) = true ∧ okR (wrow (mkrow (j + i)) (j + i + 1)) = true ∧ okR (orow (j + i)) = true ∧ mkOk (orow (j + i)) (crow (j + i)) (mkrow (j + i)) (j + i) = true := by
  intro f
  induction f with
  | zero => intro j _ i hi; omega
  | succ f ih =>
    intro j h i hi
    unfold mkChk at h
    simp only [Bool.and_eq_true] at h
    obtain ⟨⟨⟨⟨h1, h2⟩, h3⟩, h4⟩, h5⟩ := h
    rw [← wrow_nrI _ _ (by omega)] at h2 h5
    rw [← wrow_nrI _ _ (by omega), wrow_crow] at h5
    cases i with
    | zero => exact ⟨h1, h2, h3, h4⟩
    | succ i =>
      have := ih (j + 1) h5 i (by omega)
      have e : j + (i + 1) = j + 1 + i := by omega
      rw [e]
      exact this
set_option maxRecDepth 100000 in
theorem mkChk_all : mkChk 41 0 (orow 0) (1 :: List.replicate 40 0) (mkrow 0) = true := by decide +kernel
theorem mk_all {j : Nat} (h : j ≤ 40) : okR (mkrow j) = true ∧ okR (wrow (mkrow j) (j + 1)) = true ∧ okR (orow j) = true ∧ mkOk (orow j) (crow j) (mkrow j) j = true := by
  have := mkChk_at 41 0 (by rw [crow_zero]; exact mkChk_all) j (by omega)
  simpa using this
theorem mkrow_bd {j : Nat} (h : j ≤ 40) : ∀ s, s < 41 → (0 ≤ (mkrow j).getD s 0 ∧ (mkrow j).getD s 0 ≤ 1099511627776) ∧ 0 ≤ wv (mkrow j) (j + 1) s ∧ wv (mkrow j) (j + 1) s ≤ 1099511627776 := fun s hs => by
  have h1 := mk_all h
  refine ⟨okR_get h1.1 s, ?_⟩
  have h2 := okR_get h1.2.1 s
  rwa [getD_lt (by rw [wrow_len]; exact hs), show (wrow (mkrow j) (j + 1))[s]'(by rw [wrow_len]; exact hs) = wv (mkrow j) (j + 1) s by simp [wrow]] at h2
theorem wmk_bd {j : Nat} (h : j ≤ 40) (s : Nat) : -1099511627776 ≤ (wrow (mkrow j) (j + 1)).getD s 0 ∧ (wrow (mkrow j) (j + 1)).getD s 0 ≤ 1099511627776 := by
  have := okR_get (mk_all h).2.1 s
  omega
theorem mkS_bd {n : Nat} (h : n ≤ 40) {k : Nat} (hk : k ≤ n + 1) : 0 ≤ mkS (orow n) (crow n) n k ∧ mkS (orow n) (crow n) n k ≤ 1099511627776 := by
  have h1 := (mk_all h).2.2.2
  unfold mkOk at h1
  simp only [Bool.and_eq_true] at h1
  have := List.all_eq_true.1 h1.1.1 k (by simp; omega)
  simpa using this
theorem mkT_bd {n : Nat} (h : n ≤ 40) {k : Nat} (hk : k ≤ n) : 0 ≤ (orow n).getD k 0 * (crow n).getD (n - k) 0 ∧ (orow n).getD k 0 * (crow n).getD (n - k) 0 ≤ 1099511627776 := by
  have h1 := (mk_all h).2.2.2
  unfold mkOk at h1
  simp only [Bool.and_eq_true] at h1
  have := List.all_eq_true.1 h1.1.2 k (by simp; omega)
  simpa using this
theorem mkS_end {n : Nat} (h : n ≤ 40) : mkS (orow n) (crow n) n (n + 1) = (mkrow n).getD n 0 := by
  have h1 := (mk_all h).2.2.2
  unfold mkOk at h1
  simp only [Bool.and_eq_true] at h1
  exact of_decide_eq_true h1.2
def mkF (n : Int) : Int := if 0 ≤ n ∧ n ≤ 40 then (mkrow n.toNat).getD n.toNat 0 else -1
/-- the numbers from 1 up -/
def upto (n : Nat) : List Int := (List.range n).map fun (j : Nat) => (j : Int) + 1
theorem upto_len (n : Nat) : (upto n).length = n := by simp [upto]
theorem upto_get (n j : Nat) (h : j < (upto n).length) : (upto n)[j] = (j : Int) + 1 := by simp [upto]
theorem upto_stB {n : Nat} (h : n ≤ 40) : stB (upto n) = true := (stB_iff _).2 fun i hi => by
  rw [getD_lt hi, upto_get]
  rw [upto_len] at hi
  refine ⟨by omega, by omega, fun h0 => ?_⟩
  rw [getD_lt (by rw [upto_len]; omega), upto_get]
  omega
theorem setRows_upto (n : Nat) : setRows true (upto n) = orow n := by
  induction n with
  | zero => exact crow_zero
  | succ n ih =>
    have e : upto (n + 1) = upto n ++ [(n : Int) + 1] := by unfold upto; rw [List.range_succ, List.map_append]; rfl
    rw [e]
    unfold setRows at ih ⊢
    rw [List.foldl_append, ih]
    show mrow true (orow n) ((n : Int) + 1).toNat = _
    have e2 : ((n : Int) + 1).toNat = n + 1 := by omega
    rw [e2, mrow_once]
    rfl
theorem cntF_upto {n k : Nat} (hn : n ≤ 40) (hk : k ≤ 40) : cntF true (upto n) k = (orow n).getD k 0 := by
  rw [cntF_in true (upto_stB hn) (by omega) (by omega), setRows_upto]
  rfl
theorem crow_diag {n k : Nat} (hn : n ≤ 40) (hk : k ≤ n) : (crow n).getD (n - k) 0 = ctZ ((n : Int) - k) ((n : Int) - k) := by
  have e : (n : Int) - k = ((n - k : Nat) : Int) := by omega
  rw [e, crow_getD _ _ (by omega), ctZ_nat, ct_ge (n - k) n (by omega)]
/-- the counts of piles: parts in as many colors as they tell -/
def wpow (D : List Int) (p : Nat) : Nat → List Int
  | 0 => D
  | i + 1 => wrow (wpow D p i) p
def plrow : Nat → List Int
  | 0 => 1 :: List.replicate 40 0
  | k + 1 => wpow (plrow k) (k + 1) (k + 1)
theorem wpow_len {D : List Int} (h : D.length = 41) (p i : Nat) : (wpow D p i).length = 41 := by
  cases i with
  | zero => exact h
  | succ i => exact wrow_len _ _
theorem plrow_len (k : Nat) : (plrow k).length = 41 := by
  induction k with
  | zero => rfl
  | succ k ih => exact wpow_len ih _ _
def wpChk : Nat → Nat → List Int → Bool
  | 0, _, D => okR D
  | f + 1, p, D => okR D && wpChk f p (nrI p D 41)
def wpEnd : Nat → Nat → List Int → List Int
  | 0, _, D => D
  | f + 1, p, D => wpEnd f p (nrI p D 41)
theorem wpEnd_eq {p : Nat} (hp : 1 ≤ p) : ∀ (f i : Nat) (D : List Int), wpEnd f p (wpow D p i) = wpow D p (i + f) := by
  intro f
  induction f with
  | zero => intro i D; rfl
  | succ f ih =>
    intro i D
    show wpEnd f p (nrI p (wpow D p i) 41) = _
    rw [← wrow_nrI _ _ hp, show wrow (wpow D p i) p = wpow D p (i + 1) from rfl, ih]
    congr 1
    omega
theorem wpChk_at {p : Nat} (hp : 1 ≤ p) : ∀ (f i : Nat) (D : List Int), wpChk f p (wpow D p i) = true → ∀ j, j ≤ f → okR (wpow D p (i + j)) = true := by
  intro f
  induction f with
  | zero =>
    intro i D h j hj
    obtain rfl : j = 0 := by omega
    exact h
  | succ f ih =>
    intro i D h j hj
    unfold wpChk at h
    rw [Bool.and_eq_true, ← wrow_nrI _ _ hp] at h
    cases j with
    | zero => exact h.1
    | succ j =>
      have := ih (i + 1) D h.2 j (by omega)
      have e : i + (j + 1) = i + 1 + j := by omega
      rw [e]
      exact this
def plChk : Nat → Nat → List Int → Bool
  | 0, _, _ => true
  | f + 1, j, D => wpChk (j + 1) (j + 1) D && plChk f (j + 1) (wpEnd (j + 1) (j + 1) D)
theorem plChk_at : ∀ (f j : Nat), plChk f j (plrow j) = true → ∀ i, i < f → wpChk (j + i + 1) (j + i + 1) (plrow (j + i)) = true := by
  intro f
  induction f with
  | zero => intro j _ i hi; omega
  | succ f ih =>
    intro j h i hi
    unfold plChk at h
    rw [Bool.and_eq_true] at h
    have e0 : wpEnd (j + 1) (j + 1) (plrow j) = plrow (j + 1) := by
      have := wpEnd_eq (p := j + 1) (by omega) (j + 1) 0 (plrow j)
      rw [Nat.zero_add] at this
      exact this
    rw [e0] at h
    cases i with
    | zero => exact h.1
    | succ i =>
      have := ih (j + 1) h.2 i (by omega)
      have e : j + (i + 1) = j + 1 + i := by omega
      rw [e]
      exact this
set_option maxRecDepth 100000 in
theorem plChk_all : plChk 16 0 (plrow 0) = true := by decide +kernel
theorem pl_ok {j i : Nat} (hj : j < 16) (hi : i ≤ j + 1) : okR (wpow (plrow j) (j + 1) i) = true := by
  have h := plChk_at 16 0 plChk_all j hj
  rw [Nat.zero_add] at h
  have := wpChk_at (p := j + 1) (by omega) (j + 1) 0 (plrow j) h i hi
  rwa [Nat.zero_add] at this
theorem wpow_bd {j i : Nat} (hj : j < 16) (hi : i < j + 1) : ∀ s, s < 41 → (0 ≤ (wpow (plrow j) (j + 1) i).getD s 0 ∧ (wpow (plrow j) (j + 1) i).getD s 0 ≤ 1099511627776) ∧ 0 ≤ wv (wpow (plrow j) (j + 1) i) (j + 1) s ∧ wv (wpow (plrow j) (j + 1) i) (j + 1) s ≤ 1099511627776 := fun s hs => by
  refine ⟨okR_get (pl_ok hj (by omega)) s, ?_⟩
  have h2 := okR_get (pl_ok hj (i := i + 1) (by omega)) s
  rw [show wpow (plrow j) (j + 1) (i + 1) = wrow (wpow (plrow j) (j + 1) i) (j + 1) from rfl] at h2
  rwa [getD_lt (by rw [wrow_len]; exact hs), show (wrow (wpow (plrow j) (j + 1) i) (j + 1))[s]'(by rw [wrow_len]; exact hs) = wv (wpow (plrow j) (j + 1) i) (j + 1) s by simp [wrow]] at h2
def plF (n : Int) : Int := if 0 ≤ n ∧ n ≤ 16 then (plrow n.toNat).getD n.toNat 0 else -1
end NP
end Go.Proofs.Ytgkghebjaedjmaa
namespace Go.Proofs.Ytgkghebjaedjmaa
open Go.RowKit NP
set_option maxRecDepth 8000
set_option linter.unusedVariables false

theorem scorners_any (a : Option Addr) (c B : Nat) (L : List Int) (w : World) (h : Rd w B a (ints L)) (hB : B ≤ w.heap.size) (hl : L.length ≤ 1000) :
    Calls Try.prog 70 #[.slice a L.length c] w fun e w' => ∃ a' c', e = .returned (.slice a' (crn L).length c') ∧ Own w' w.heap.size w'.heap.size 3 (.slice a' (crn L).length c') (ints (crn L)) ∧ Below w.heap.size w w' := by
  obtain ⟨i0, hi, hz0, hz1, hz2⟩ := T_int'
  go_enter Try.func70, Try.ntmps70
  go_wp2_with fail
  go_loopw [3, 4] (fun v i wr => ∃ k : Nat, k ≤ L.length ∧ i = .int .i64 (k : Int) ∧ Below w.heap.size w wr ∧ Own wr w.heap.size wr.heap.size 3 v (ints (crnTo L k))) (fun _ i _ => L.length - (intOf i).toNat)
  case atStart => exact ⟨0, Nat.zero_le _, rfl, (Below.refl _ _).alloc (Nat.le_refl _) _, (Own.empty w 3).more⟩
  case round =>
    obtain ⟨k, hk, rfl, hbel, hown⟩ := hrel
    by_cases hlt : k < L.length
    · have hR := (h.more hB).below hbel
      obtain ⟨b, o, rfl, _, hc0⟩ := hR.at_ hlt
      have hlen2 : (crnTo L k).length ≤ k := crnTo_len L k
      have HS := Lib.hid (crnTo_succ L k)
      obtain ⟨vs, hvs⟩ : ∃ vs, vs = ints (crnTo L k) := ⟨_, rfl⟩
      have hlv : vs.length ≤ k := by rw [hvs]; simpa using hlen2
      rw [← hvs] at hown
      have HVS := Lib.hid hvs
      clear hvs hlen2
      have HO := Lib.hid hown
      clear hown
      by_cases h1 : k + 1 = L.length
      · have h1' : (k : Int) + 1 = (L.length : Int) := by omega
        have e1 : ((k : Int) + 1 == (L.length : Int)) = true := beq_iff_eq.2 h1'
        have HC : Hid (isC L k = true) := Lib.hid (by unfold isC; rw [decide_eq_true h1, Bool.true_or])
        clear h1 h1'
        go_wp2_with fail
        go_quiet (fail)
        go_wp2_with (at_builtin; go_loud (refine wpList_append_o _ rfl (.tmp 29) (.tmp 31) 30 rfl w.heap.size wr.heap.size 3 i0 (.int .i64 0) 8 Try.underlying30 hi hz0 hz1 hz2 rfl _ vs rfl ((HO.out.drewN _).alloc _) (wr.heap.size + 1) (some ⟨wr.heap.size, 0, none⟩) 1 1 [.int .i64 (k : Int)] rfl (Rd.one _ _ _) rfl (by simp; rfl) (by unfold maxLen; omega) (by omega) (by have := hbel.size; simp; omega) ?_); intro v' w1 ho1 hg1 hat1)
        go_roundw
        case rel =>
          refine ⟨k + 1, by omega, by go_num, below_push (hbel.trans ((Dr.n wr _).below _)) (Nat.le_refl _) hg1 HO.out.base, ?_⟩
          rw [HVS.out] at ho1
          rw [HS.out, if_pos HC.out]
          simpa [ints] using ho1
        case measure => simp [intOf]; omega
      · have hk1 : k + 1 < L.length := by omega
        have e1 : ((k : Int) + 1 == (L.length : Int)) = false := beq_eq_false_iff_ne.2 (by omega)
        obtain ⟨b', o', e', -, hc1⟩ := hR.at_ hk1
        injection e' with e'; injection e' with e2 e3; subst e2 e3
        by_cases hx : L[k + 1] < L[k]
        · have HC : Hid (isC L k = true) := Lib.hid (by unfold isC; rw [List.getD_eq_getElem?_getD, List.getD_eq_getElem?_getD, List.getElem?_eq_getElem hk1, List.getElem?_eq_getElem hlt, Option.getD_some, Option.getD_some, decide_eq_true hx, Bool.or_true])
          clear h1
          go_wp2_with fail
          go_quiet (fail)
          go_wp2_with (at_builtin; go_loud (refine wpList_append_o _ rfl (.tmp 29) (.tmp 31) 30 rfl w.heap.size wr.heap.size 3 i0 (.int .i64 0) 8 Try.underlying30 hi hz0 hz1 hz2 rfl _ vs rfl ((HO.out.drewN _).alloc _) (wr.heap.size + 1) (some ⟨wr.heap.size, 0, none⟩) 1 1 [.int .i64 (k : Int)] rfl (Rd.one _ _ _) rfl (by simp; rfl) (by unfold maxLen; omega) (by omega) (by have := hbel.size; simp; omega) ?_); intro v' w1 ho1 hg1 hat1)
          go_roundw
          case rel =>
            refine ⟨k + 1, by omega, by go_num, below_push (hbel.trans ((Dr.n wr _).below _)) (Nat.le_refl _) hg1 HO.out.base, ?_⟩
            rw [HVS.out] at ho1
            rw [HS.out, if_pos HC.out]
            simpa [ints] using ho1
          case measure => simp [intOf]; omega
        · have HC : Hid (isC L k = false) := Lib.hid (by unfold isC; rw [List.getD_eq_getElem?_getD, List.getD_eq_getElem?_getD, List.getElem?_eq_getElem hk1, List.getElem?_eq_getElem hlt, Option.getD_some, Option.getD_some, decide_eq_false hx, decide_eq_false h1]; rfl)
          clear h1
          have hx' : L[k] ≤ L[k + 1] := by omega
          clear hx
          go_wp2_with fail
          go_quiet (fail)
          go_wp2
          go_roundw
          case rel =>
            refine ⟨k + 1, by omega, by go_num, hbel.trans ((Dr.n wr _).below _), ?_⟩
            rw [HS.out, if_neg (by rw [HC.out]; decide), List.append_nil, ← HVS.out]
            exact HO.out.drewN _
          case measure => simp [intOf]; omega
    · obtain rfl : k = L.length := by omega
      obtain ⟨a', c', rfl⟩ := hown.form
      have HO := Lib.hid hown
      clear hown
      go_wp2
      go_ret
      have hlc : (crn L).length = (ints (crnTo L L.length)).length := by simp [crn]
      refine ⟨a', c', by rw [hlc]; rfl, ?_, hbel⟩
      rw [hlc]
      exact HO.out


theorem isCorner_any (D : List Int) (hD : D.length = 16) (i : Nat) (hi : i < 16) (w : World) :
    Calls Try.prog 74 #[.agg (arr D), .int .i64 i] w fun e w' => e = .returned (.bool (isCD D i)) ∧ Below w.heap.size w w' := by
  have hiD : i < D.length := by omega
  have hc := box_cell w D i hiD
  have hi' : (i : Int) < 16 := by omega
  have g0 : D.getD i 0 = D[i] := by rw [List.getD_eq_getElem?_getD, List.getElem?_eq_getElem hiD, Option.getD_some]
  by_cases h0 : 0 < D[i]
  · by_cases h15 : i = 15
    · have e1 : ((i : Int) == 15) = true := beq_iff_eq.2 (by omega)
      have HC : Hid (isCD D i = true) := Lib.hid (by unfold isCD; rw [g0, decide_eq_true h0, decide_eq_true h15]; rfl)
      clear h15 g0
      go_enter Try.func74, Try.ntmps74
      go_wp2_with fail
      go_quiet (fail)
      go_wp2
      go_ret
      exact ⟨ret_bool HC.out.symm, ((Below.refl _ _).alloc (Nat.le_refl _) _).trans ((Dr.n _ _).below _)⟩
    · have e1 : ((i : Int) == 15) = false := beq_eq_false_iff_ne.2 (by omega)
      have hi1 : i + 1 < D.length := by omega
      have hc1 := box_cell w D (i + 1) hi1
      have HC : Hid (isCD D i = decide (D[i + 1] < D[i])) := Lib.hid (by unfold isCD; rw [g0, List.getD_eq_getElem?_getD, List.getElem?_eq_getElem hi1, Option.getD_some, decide_eq_true h0, decide_eq_false h15]; rfl)
      clear h15 g0
      go_enter Try.func74, Try.ntmps74
      go_wp2_with fail
      go_quiet (fail)
      go_wp2
      go_ret
      exact ⟨ret_bool HC.out.symm, ((Below.refl _ _).alloc (Nat.le_refl _) _).trans ((Dr.n _ _).below _)⟩
  · have HC : Hid (isCD D i = false) := Lib.hid (by unfold isCD; rw [g0, decide_eq_false h0]; rfl)
    clear g0
    have h0' : decide (0 < D[i]) = false := decide_eq_false h0
    clear h0
    go_enter Try.func74, Try.ntmps74
    go_wp2_with fail
    go_quiet (fail)
    go_wp2
    go_ret
    exact ⟨ret_bool HC.out.symm, ((Below.refl _ _).alloc (Nat.le_refl _) _).trans ((Dr.n _ _).below _)⟩

theorem dcorners_any (D : List Int) (hD : D.length = 16) (w : World) :
    Calls Try.prog 42 #[.agg (arr D)] w fun e w' => ∃ a' c', e = .returned (.slice a' (fl (isCD D) 16).length c') ∧ Own w' w.heap.size w'.heap.size 3 (.slice a' (fl (isCD D) 16).length c') (ints (fl (isCD D) 16)) ∧ Below w.heap.size w w' := by
  obtain ⟨i0, hi, hz0, hz1, hz2⟩ := T_int'
  have HD := Lib.hid hD
  have hd16 : 16 ≤ D.length := by omega
  have hi16 : (Try.prog.info? 60).map (·.size) = some (arr D).size := by rw [arr_size, hD]; exact T_info35
  clear hD
  go_enter Try.func42, Try.ntmps42
  go_wp2
  go_loopw [3, 4, 5] (fun v u i wr => ∃ k : Nat, k ≤ 16 ∧ i = .int .i64 (k : Int) ∧ Below w.heap.size w wr ∧ Blk wr w.heap.size 60 (arr D) ∧ Own wr (w.heap.size + 1) wr.heap.size 3 v (ints (fl (isCD D) k))) (fun _ _ i _ => 20 - (intOf i).toNat)
  case atStart => exact ⟨0, Nat.zero_le _, rfl, (Below.refl _ _).alloc (Nat.le_refl _) _, Blk.new _ _ _, Own.nil _ _ _⟩
  case round =>
    obtain ⟨k, hk, rfl, hbel, hblk, hown⟩ := hrel
    by_cases hlt : k < 16
    · have hlen2 : (fl (isCD D) k).length ≤ k := fl_len _ k
      have HS := Lib.hid (fl_succ (isCD D) k)
      obtain ⟨vs, hvs⟩ : ∃ vs, vs = ints (fl (isCD D) k) := ⟨_, rfl⟩
      have hlv : vs.length ≤ k := by rw [hvs]; simpa using hlen2
      rw [← hvs] at hown
      have HVS := Lib.hid hvs
      clear hvs hlen2
      have HO := Lib.hid hown
      clear hown
      cases hcb : isCD D k with
      | true =>
        have HC := Lib.hid hcb
        clear hcb
        go_wp2_with (first | (refine wpList_load_row rfl 60 (.tmp 1) rfl w.heap.size rfl 60 (arr D) (0, 0) _ hblk Try.underlying60 rfl hi16 ?_) | (go_at_call 74; refine (isCorner_any D HD.out k hlt _).mono ?_; rintro e w2 ⟨rfl, hb2⟩; rw [HC.out]; have ho2 := (HO.out.below hb2).more) | (at_builtin; refine wpList_append_o _ rfl (.tmp 11) (.tmp 13) 30 rfl (w.heap.size + 1) w2.heap.size 3 i0 (.int .i64 0) 8 Try.underlying30 hi hz0 hz1 hz2 rfl _ vs rfl (ho2.alloc _) (w2.heap.size + 1) (some ⟨w2.heap.size, 0, none⟩) 1 1 [.int .i64 (k : Int)] rfl (Rd.one _ _ _) rfl (by simp; rfl) (by unfold maxLen; omega) (by omega) (by have := hbel.size; have := hb2.size; simp; omega) ?_; intro v' w3 ho3 hg3 hat3))
        go_roundw
        case rel =>
          have hz := hbel.size
          have hb12 : Below w.heap.size w w2 := hbel.trans (hb2.mono (by omega))
          have hblk2 : Blk w2 w.heap.size 60 (arr D) := hblk.below hb2 hblk.lt
          refine ⟨k + 1, by omega, by go_num, below_push hb12 (Nat.le_refl _) hg3 (fun g hg => by have := HO.out.base g hg; omega), (hblk2.alloc _).grown hg3 (fun e => by have := HO.out.base _ e.symm; omega), ?_⟩
          rw [HVS.out] at ho3
          rw [HS.out, if_pos HC.out]
          simpa [ints] using ho3
        case measure => simp [intOf]; omega
      | false =>
        have HC := Lib.hid hcb
        clear hcb
        go_wp2_with (first | (refine wpList_load_row rfl 60 (.tmp 1) rfl w.heap.size rfl 60 (arr D) (0, 0) _ hblk Try.underlying60 rfl hi16 ?_) | (go_at_call 74; refine (isCorner_any D HD.out k hlt _).mono ?_; rintro e w2 ⟨rfl, hb2⟩; rw [HC.out]))
        go_roundw
        case rel =>
          refine ⟨k + 1, by omega, by go_num, hbel.trans (hb2.mono (by have := hbel.size; omega)), hblk.below hb2 hblk.lt, ?_⟩
          rw [HS.out, if_neg (by rw [HC.out]; decide), List.append_nil, ← HVS.out]
          exact (HO.out.below hb2).more
        case measure => simp [intOf]; omega
    · obtain rfl : k = 16 := by omega
      obtain ⟨a', c', rfl⟩ := hown.form
      have HO := Lib.hid hown
      clear hown
      go_wp2
      go_ret
      have hlc : (fl (isCD D) 16).length = (ints (fl (isCD D) 16)).length := by simp
      refine ⟨a', c', by rw [hlc]; rfl, ?_, hbel⟩
      rw [hlc]
      exact HO.out.lower (by omega)

end Go.Proofs.Ytgkghebjaedjmaa
namespace Go.Proofs.Ytgkghebjaedjmaa
open Go.RowKit NP
set_option maxRecDepth 8000
set_option linter.unusedVariables false

theorem Own.take {w : World} {lo hi : Nat} {e : TypeId} {a : Option Addr} {n c : Nat} {vs : List Value} (h : Own w lo hi e (.slice a n c) vs) (k : Nat) (hk : k ≤ vs.length) : Own w lo hi e (.slice a k c) (vs.take k) := by
  refine ⟨?_, fun g hg => h.lt g (by cases a with | none => cases hg | some b => exact hg), h.le⟩
  have hlen : (vs.take k).length = k := by simp; omega
  rw [hlen]
  refine ⟨by rw [hlen]; omega, ?_⟩
  rcases h.row.2 with ⟨e1, e2⟩ | ⟨g, cap, cur, e1, hb, hg, hc, hm, hs, ht⟩
  · injection e1 with e3 e4 e5
    subst e3; subst e5
    have : k = 0 := by omega
    subst this
    exact .inl ⟨rfl, rfl⟩
  · injection e1 with e3 e4 e5
    subst e3; subst e5
    refine .inr ⟨g, c, cur, rfl, hb, hg, by omega, hm, hs, ?_⟩
    rw [← ht, List.take_take]
    congr 1
    omega



theorem rmvOk_no {L : List Int} (h : valid L = false) (i : Int) : rmvOk L i = false := by simp [rmvOk, h]
theorem rmvOk_yes {L : List Int} (h : valid L = true) (i : Int) : rmvOk L i = hasI (crn L) i := by
  unfold rmvOk crn
  rw [h, Bool.true_and, crnTo_fl, hasI_fl]
theorem rmv_no {L : List Int} {i : Int} (h : rmvOk L i = false) : rmv L i = [] := by simp [rmv, h]
theorem rmv_yes {L : List Int} {i : Int} (h : rmvOk L i = true) : ∃ k : Nat, i = k ∧ k < L.length ∧ isC L k = true ∧ valid L = true ∧ rmv L i = lessL L k := by
  have h2 := h
  unfold rmvOk at h
  simp only [Bool.and_eq_true, decide_eq_true_eq] at h
  obtain ⟨hv, ⟨h0, hlt⟩, hc⟩ := h
  obtain ⟨k, rfl⟩ := Int.eq_ofNat_of_zero_le h0
  refine ⟨k, rfl, by omega, hc, hv, ?_⟩
  unfold rmv
  rw [if_pos h2]
  rfl
theorem own_nil0 (w : World) (lo : Nat) (e : TypeId) : Own w lo w.heap.size e (.slice none ([] : List Int).length 0) (ints []) := Own.nil w lo e

theorem addOk_no {L : List Int} (h : valid L = false) (i : Int) : addOk L i = false := by simp [addOk, h]
theorem addC_no {L : List Int} {i : Int} (h : addOk L i = false) : addC L i = [] := by simp [addC, h]
theorem addC_yes {L : List Int} {i : Int} (h : addOk L i = true) : addC L i = addL L i.toNat := by simp [addC, h]
theorem addOk_at {L : List Int} (hv : valid L = true) {k : Nat} (hk : k ≤ L.length) : addOk L k = valid (addL L k) := by
  unfold addOk
  rw [hv, decide_eq_true (by omega : (0 : Int) ≤ (k : Int)), decide_eq_true (by omega : (k : Int) ≤ (L.length : Int))]
  rfl
theorem addOk_out {L : List Int} {i : Int} (h : ¬ (0 ≤ i ∧ i ≤ L.length)) : addOk L i = false := by
  unfold addOk
  rcases Int.lt_or_le i 0 with h0 | h0
  · rw [decide_eq_false (by omega : ¬ 0 ≤ i)]; simp
  · rw [decide_eq_false (by omega : ¬ i ≤ (L.length : Int))]; simp
theorem Blk.drs {w : World} {g : Nat} {t : TypeId} {cs : Array Value} (h : Blk w g t cs) (n : Nat) : Blk (w.drewN n) g t cs := h

end Go.Proofs.Ytgkghebjaedjmaa
namespace Go.Proofs.Ytgkghebjaedjmaa
open Go.RowKit NP
set_option maxRecDepth 8000
set_option linter.unusedVariables false
set_option linter.unusedSimpArgs false
end Go.Proofs.Ytgkghebjaedjmaa
namespace Go.Proofs.Ytgkghebjaedjmaa
open Go.RowKit NP
set_option maxRecDepth 100000
set_option linter.unusedVariables false
set_option linter.unusedSimpArgs false
def psF (LL : List (List Int)) : Int := if vpl LL then sumLL LL else -1
def tpF (LL : List (List Int)) : List (List Int) := if vpl LL then turnP LL else []
def lpF (LL : List (List Int)) : List (List Int) := if vpl LL then layP LL else []
theorem psF_yes {LL : List (List Int)} (h : vpl LL = true) : psF LL = sumLL LL := by unfold psF; rw [h]; rfl
theorem psF_no {LL : List (List Int)} (h : vpl LL = false) : psF LL = -1 := by unfold psF; rw [h]; rfl
theorem tpF_yes {LL : List (List Int)} (h : vpl LL = true) : tpF LL = turnP LL := by unfold tpF; rw [h]; rfl
theorem tpF_no {LL : List (List Int)} (h : vpl LL = false) : tpF LL = [] := by unfold tpF; rw [h]; rfl
theorem lpF_yes {LL : List (List Int)} (h : vpl LL = true) : lpF LL = layP LL := by unfold lpF; rw [h]; rfl
theorem lpF_no {LL : List (List Int)} (h : vpl LL = false) : lpF LL = [] := by unfold lpF; rw [h]; rfl
end Go.Proofs.Ytgkghebjaedjmaa
namespace Go.Proofs.Ytgkghebjaedjmaa
open Go.RowKit NP
set_option linter.unusedVariables false
theorem pilF_ln (n : Int) : (pilF n).length ≤ 1000000000 := by have := (pilF_bd n).1; omega
theorem pilF_il (n : Int) : ∀ LL ∈ pilF n, LL.length ≤ 1000 ∧ ∀ L ∈ LL, L.length ≤ 1000 := fun LL h => ⟨by have := ((pilF_bd n).2 LL h).1; omega, fun L hL => by have := ((pilF_bd n).2 LL h).2.2 L hL; omega⟩
/-- the promise's table -/
def pilOk (n : Nat) : Bool :=
  let A := pq n [] n
  (decide ((A.length : Int) = plF (n : Int))) && ((A.all (fun M => vpl M && decide (sumLL M = (n : Int)))) && ((A.zip (A.drop 1)).all fun p => !(p.1 == p.2)))
theorem pilOk_all : (List.range 7).all pilOk = true := by decide +kernel
theorem pilOk_at {n : Nat} (hn : n ≤ 6) : ((pq n [] n).length : Int) = plF (n : Int) ∧ (∀ x ∈ pq n [] n, psF x = (n : Int)) ∧ ∀ j (h : j + 1 < (pq n [] n).length), (pq n [] n)[j]'(by omega) ≠ (pq n [] n)[j + 1] := by
  have h1 := List.all_eq_true.1 pilOk_all n (by simp; omega)
  unfold pilOk at h1
  simp only [Bool.and_eq_true, decide_eq_true_eq, List.all_eq_true] at h1
  refine ⟨h1.1, fun x hx => by rw [psF_yes (h1.2.1 x hx).1]; exact (h1.2.1 x hx).2, fun j h e => ?_⟩
  have hm : ((pq n [] n)[j]'(by omega), (pq n [] n)[j + 1]) ∈ (pq n [] n).zip ((pq n [] n).drop 1) := by
    rw [List.mem_iff_getElem]
    refine ⟨j, by simp; omega, ?_⟩
    rw [List.getElem_zip]
    congr 1
    rw [List.getElem_drop]
    congr 1
    omega
  have h2 := h1.2.2 _ hm
  simp [e] at h2
end Go.Proofs.Ytgkghebjaedjmaa
namespace Go.Proofs.Ytgkghebjaedjmaa
namespace NP
set_option linter.unusedVariables false
/-- the squares of the divisors up to k -/
def dsq (n : Int) : Nat → Int
  | 0 => 0
  | k + 1 => dsq n k + (if n % ((k : Int) + 1) = 0 then ((k : Int) + 1) * ((k : Int) + 1) else 0)
def pts (T : List Int) (m : Nat) : Nat → Int
  | 0 => 0
  | k + 1 => pts T m k + dsq ((k : Int) + 1) (k + 1) * T.getD (m - (k + 1)) 0
def pltab : Nat → List Int
  | 0 => [1]
  | m + 1 => pltab m ++ [pts (pltab m) (m + 1) (m + 1) / ((m : Int) + 1)]
theorem pltab_len (m : Nat) : (pltab m).length = m + 1 := by
  induction m with
  | zero => rfl
  | succ m ih => show (pltab m ++ [_]).length = _; rw [List.length_append, ih]; rfl
def ptOk (T : List Int) (m : Nat) : Bool := (List.range (m + 2)).all fun k => decide (0 ≤ pts T (m + 1) k) && decide (pts T (m + 1) k ≤ 1099511627776) && decide (0 ≤ dsq ((k : Int) + 1) (k + 1) * T.getD (m + 1 - (k + 1)) 0) && decide (dsq ((k : Int) + 1) (k + 1) * T.getD (m + 1 - (k + 1)) 0 ≤ 1099511627776) && decide (0 ≤ T.getD (m + 1 - (k + 1)) 0) && decide (T.getD (m + 1 - (k + 1)) 0 ≤ 1099511627776)
def ptChk : Nat → Nat → List Int → List Int → Bool
  | 0, _, _, _ => true
  | f + 1, j, T, P => decide (T.getD j 0 = P.getD j 0) && ptOk T j && ptChk f (j + 1) (T ++ [pts T (j + 1) (j + 1) / ((j : Int) + 1)]) (wpEnd (j + 1) (j + 1) P)
theorem ptChk_at : ∀ (f j : Nat), ptChk f j (pltab j) (plrow j) = true → ∀ i, i < f → (pltab (j + i)).getD (j + i) 0 = (plrow (j + i)).getD (j + i) 0 ∧ ptOk (pltab (j + i)) (j + i) = true := by
  intro f
  induction f with
  | zero => intro j _ i hi; omega
  | succ f ih =>
    intro j h i hi
    unfold ptChk at h
    simp only [Bool.and_eq_true, decide_eq_true_eq] at h
    obtain ⟨⟨h1, h2⟩, h3⟩ := h
    have e0 : wpEnd (j + 1) (j + 1) (plrow j) = plrow (j + 1) := by
      have := wpEnd_eq (p := j + 1) (by omega) (j + 1) 0 (plrow j)
      rw [Nat.zero_add] at this
      exact this
    rw [e0] at h3
    cases i with
    | zero => exact ⟨h1, h2⟩
    | succ i =>
      have := ih (j + 1) h3 i (by omega)
      have e : j + (i + 1) = j + 1 + i := by omega
      rw [e]
      exact this
set_option maxRecDepth 100000 in
theorem ptChk_all : ptChk 17 0 (pltab 0) (plrow 0) = true := by decide +kernel
theorem pt_eq {n : Nat} (h : n ≤ 16) : (pltab n).getD n 0 = (plrow n).getD n 0 := by
  have := (ptChk_at 17 0 ptChk_all n (by omega)).1
  simpa using this
theorem pt_bd {m k : Nat} (h : m < 16) (hk : k ≤ m + 1) : (0 ≤ pts (pltab m) (m + 1) k ∧ pts (pltab m) (m + 1) k ≤ 1099511627776) ∧ (0 ≤ dsq ((k : Int) + 1) (k + 1) * (pltab m).getD (m + 1 - (k + 1)) 0 ∧ dsq ((k : Int) + 1) (k + 1) * (pltab m).getD (m + 1 - (k + 1)) 0 ≤ 1099511627776) ∧ 0 ≤ (pltab m).getD (m + 1 - (k + 1)) 0 ∧ (pltab m).getD (m + 1 - (k + 1)) 0 ≤ 1099511627776 := by
  have h1 := (ptChk_at 17 0 ptChk_all m (by omega)).2
  rw [Nat.zero_add] at h1
  unfold ptOk at h1
  have h2 := List.all_eq_true.1 h1 k (by simp; omega)
  simp only [Bool.and_eq_true, decide_eq_true_eq] at h2
  obtain ⟨⟨⟨⟨⟨a, b⟩, c⟩, d⟩, e⟩, f⟩ := h2
  exact ⟨⟨a, b⟩, ⟨c, d⟩, e, f⟩
theorem pltab_at {m i : Nat} (h : i ≤ m) : (pltab m).getD i 0 = (pltab i).getD i 0 := by
  induction m with
  | zero => obtain rfl : i = 0 := by omega
            rfl
  | succ m ih =>
    rcases Nat.lt_or_ge i (m + 1) with h1 | h1
    · rw [← ih (by omega)]
      show (pltab m ++ [_]).getD i 0 = _
      rw [getD_lt (by rw [List.length_append, pltab_len]; simp; omega), getD_lt (by rw [pltab_len]; omega), List.getElem_append_left (by rw [pltab_len]; omega)]
    · obtain rfl : i = m + 1 := by omega
      rfl
theorem dsq_bd (n : Int) (k : Nat) (hk : k ≤ 40) : 0 ≤ dsq n k ∧ dsq n k ≤ 1600 * k := by
  induction k with
  | zero => exact ⟨Int.le_refl _, by simp [dsq]⟩
  | succ k ih =>
    have := ih (by omega)
    simp only [dsq]
    have h1 : ∀ j : Nat, j < 40 → 0 ≤ ((j : Int) + 1) * ((j : Int) + 1) ∧ ((j : Int) + 1) * ((j : Int) + 1) ≤ 1600 := by decide
    have h2 := h1 k (by omega)
    split <;> omega
/-- a number below 17 that divides: its square -/
theorem sq_small (k : Nat) (hk : k ≤ 40) : 0 ≤ (k : Int) * (k : Int) ∧ (k : Int) * (k : Int) ≤ 1600 := by
  have h1 : ∀ j : Nat, j < 41 → 0 ≤ (j : Int) * (j : Int) ∧ (j : Int) * (j : Int) ≤ 1600 := by decide
  exact h1 k (by omega)
/-- the product of the program, a row and all rows -/
def bpR (c i : Nat) (s : Int × Int) : Nat → Int × Int
  | 0 => s
  | k + 1 => ((bpR c i s k).1 * ((i : Int) + k + 1 + c), (bpR c i s k).2 * ((i : Int) + k + 1))
def bpA (b c : Nat) : Nat → Int × Int
  | 0 => (1, 1)
  | i + 1 => bpR c i (bpA b c i) b
def bpF (a b c : Int) : Int := if (0 ≤ a ∧ a ≤ 4) ∧ (0 ≤ b ∧ b ≤ 4) ∧ 0 ≤ c ∧ c ≤ 4 then (bpA b.toNat c.toNat a.toNat).1 / (bpA b.toNat c.toNat a.toNat).2 else -1
theorem bp_all : ∀ b, b < 5 → ∀ c, c < 5 → ∀ i, i < 4 → ∀ k, k < 5 → (1 ≤ (bpR c i (bpA b c i) k).1 ∧ (bpR c i (bpA b c i) k).1 ≤ 1152921504606846976) ∧ 1 ≤ (bpR c i (bpA b c i) k).2 ∧ (bpR c i (bpA b c i) k).2 ≤ 1152921504606846976 := by decide +kernel
/-- the product of the model: divided by what both have at each step -/
def smS (c i k : Nat) (s : Int × Int) : Int × Int :=
  let u := s.1 * (((i : Int) + 1) + ((k : Int) + 1) + c - 1)
  let d := s.2 * (((i : Int) + 1) + ((k : Int) + 1) - 1)
  let g := (Nat.gcd u.toNat d.toNat : Int)
  (u / g, d / g)
def smR (c i : Nat) (s : Int × Int) : Nat → Int × Int
  | 0 => s
  | k + 1 => smS c i k (smR c i s k)
def smA (b c : Nat) : Nat → Int × Int
  | 0 => (1, 1)
  | i + 1 => smR c i (smA b c i) b
theorem sm_all : ∀ b, b < 5 → ∀ c, c < 5 → ∀ i, i < 5 → ∀ k, k < 5 → (1 ≤ (smR c i (smA b c i) k).1 ∧ (smR c i (smA b c i) k).1 ≤ 1152921504606846) ∧ 1 ≤ (smR c i (smA b c i) k).2 ∧ (smR c i (smA b c i) k).2 ≤ 1152921504606846 := by decide +kernel
theorem sm_bp : ∀ b, b < 5 → ∀ c, c < 5 → ∀ a, a < 5 → (smA b c a).1 / (smA b c a).2 = (bpA b c a).1 / (bpA b c a).2 := by decide +kernel
theorem sm_step {b c i k : Nat} (hb : b < 5) (hc : c < 5) (hi : i < 5) (hk : k < 5) : let s := smR c i (smA b c i) k; (1 ≤ s.1 * (((i : Int) + 1) + ((k : Int) + 1) + c - 1) ∧ s.1 * (((i : Int) + 1) + ((k : Int) + 1) + c - 1) ≤ 1152921504606846976) ∧ 1 ≤ s.2 * (((i : Int) + 1) + ((k : Int) + 1) - 1) ∧ s.2 * (((i : Int) + 1) + ((k : Int) + 1) - 1) ≤ 1152921504606846976 := by
  have h := sm_all b hb c hc i hi k hk
  obtain ⟨⟨h1, h2⟩, h3, h4⟩ := h
  have a1 : (1 : Int) ≤ ((i : Int) + 1) + ((k : Int) + 1) + c - 1 := by omega
  have a2 : ((i : Int) + 1) + ((k : Int) + 1) + c - 1 ≤ 16 := by omega
  have a3 : (1 : Int) ≤ ((i : Int) + 1) + ((k : Int) + 1) - 1 := by omega
  have a4 : ((i : Int) + 1) + ((k : Int) + 1) - 1 ≤ 16 := by omega
  refine ⟨⟨?_, ?_⟩, ?_, ?_⟩
  · have := Int.mul_le_mul h1 a1 (by omega) (by omega); omega
  · have := Int.mul_le_mul h2 a2 (by omega) (by omega); omega
  · have := Int.mul_le_mul h3 a3 (by omega) (by omega); omega
  · have := Int.mul_le_mul h4 a4 (by omega) (by omega); omega
end NP
end Go.Proofs.Ytgkghebjaedjmaa
namespace Go.Proofs.Ytgkghebjaedjmaa
open Go.RowKit NP
set_option maxRecDepth 8000
set_option linter.unusedVariables false
theorem chg_low5 {B : Nat} {b c : World} {w0 : World} {g : Nat} (hb : Below B w0 b) (hB : B ≤ w0.heap.size) (hg : B ≤ g) (h : b.grownBy c (some g)) : Below B w0 c := hb.grown h (by have := hb.size; omega) fun k hk => by injection hk with hk; omega
end Go.Proofs.Ytgkghebjaedjmaa
namespace Go.Proofs.Ytgkghebjaedjmaa
open Go.RowKit
set_option maxRecDepth 8000
set_option linter.unusedVariables false
set_option linter.unusedSimpArgs false
def limB (a b : Int) : Bool := decide (0 ≤ a ∧ a ≤ 4 ∧ 0 ≤ b ∧ b ≤ 4)
theorem isInLimits_any (a b : Int) (w : World) :
    Calls Try.prog 90 #[.agg #[.int .i64 a, .int .i64 b]] w fun e w' => e = .returned (.bool (limB a b)) ∧ Below w.heap.size w w' := by
  have hc : limB a b = true ∨ (limB a b = false ∧ (a < 0 ∨ (0 ≤ a ∧ 4 < a) ∨ (0 ≤ a ∧ a ≤ 4 ∧ b < 0) ∨ (0 ≤ a ∧ a ≤ 4 ∧ 0 ≤ b ∧ 4 < b))) := by
    unfold limB
    by_cases h : 0 ≤ a ∧ a ≤ 4 ∧ 0 ≤ b ∧ b ≤ 4
    · exact Or.inl (decide_eq_true h)
    · exact Or.inr ⟨decide_eq_false h, by omega⟩
  have fin := fun k => ((Below.refl w.heap.size w).alloc (Nat.le_refl _) k)
  rcases hc with h | ⟨h, h1 | ⟨h1, h2⟩ | ⟨h1, h2, h3⟩ | ⟨h1, h2, h3, h4⟩⟩
  · obtain ⟨h1, h2, h3, h4⟩ := of_decide_eq_true h
    rw [h]
    clear h
    have g1 : decide (0 ≤ a) = true := decide_eq_true h1
    have g2 : decide (a ≤ 4) = true := decide_eq_true h2
    have g3 : decide (0 ≤ b) = true := decide_eq_true h3
    have g4 : decide (b ≤ 4) = true := decide_eq_true h4
    go_enter Try.func90, Try.ntmps90
    go_wp2
    go_ret
    exact ⟨rfl, fin _⟩
  all_goals rw [h]; clear h
  · have g1 : decide (0 ≤ a) = false := decide_eq_false (by omega)
    go_enter Try.func90, Try.ntmps90
    go_wp2
    go_ret
    exact ⟨rfl, fin _⟩
  · have g1 : decide (0 ≤ a) = true := decide_eq_true h1
    have g2 : decide (a ≤ 4) = false := decide_eq_false (by omega)
    go_enter Try.func90, Try.ntmps90
    go_wp2
    go_ret
    exact ⟨rfl, fin _⟩
  · have g1 : decide (0 ≤ a) = true := decide_eq_true h1
    have g2 : decide (a ≤ 4) = true := decide_eq_true h2
    have g3 : decide (0 ≤ b) = false := decide_eq_false (by omega)
    go_enter Try.func90, Try.ntmps90
    go_wp2
    go_ret
    exact ⟨rfl, fin _⟩
  · have g1 : decide (0 ≤ a) = true := decide_eq_true h1
    have g2 : decide (a ≤ 4) = true := decide_eq_true h2
    have g3 : decide (0 ≤ b) = true := decide_eq_true h3
    have g4 : decide (b ≤ 4) = false := decide_eq_false (by omega)
    go_enter Try.func90, Try.ntmps90
    go_wp2
    go_ret
    exact ⟨rfl, fin _⟩
end Go.Proofs.Ytgkghebjaedjmaa
