/-
  Walks: the exported functions of chapter 1 on one list of numbers, of the model (spec) and of the program (impl): valid, sum, conjugate, durfee. Plain mathematics of times and corners. Plain mathematics of corners, diagonals, cells taken away and put. Plain mathematics of cells taken away and put. Plain mathematics of added parts. Plain mathematics of the promises of times and corners. Plain mathematics of united parts: sorted lists with the same numbers are the same; two sorted lists merged. Walks: the reader that draws the arguments of a law: newReader, pick, one.
-/
import Derived.Test.YtgkghebjaedjmaaZC1
import Derived.Test.YtgkghebjaedjmaaProg
import Derived.Deep.QuietTactic
import Derived.BigQuiet
import Derived.Lib.Hide
import Derived.IntWalk
import Derived.Deep.RegionLaw
import Derived.Deep.DrawnRows
namespace Go.Proofs.Ytgkghebjaedjmaa
open Go.RowKit NP
set_option maxRecDepth 8000
set_option linter.unusedVariables false

def sumF (L : List Int) : Int := if valid L then sumL L else -1
theorem sumF_yes {L : List Int} (h : valid L = true) : sumF L = sumL L := by simp [sumF, h]
theorem sumF_no {L : List Int} (h : valid L = false) : sumF L = -1 := by simp [sumF, h]
def durF (L : List Int) : Int := if valid L then durS L else -1
theorem durF_yes {L : List Int} (h : valid L = true) : durF L = durS L := by simp [durF, h]
theorem durF_no {L : List Int} (h : valid L = false) : durF L = -1 := by simp [durF, h]
def conjF (L : List Int) : List Int := if valid L then conj L else []
theorem conjF_yes {L : List Int} (h : valid L = true) : conjF L = conj L := by simp [conjF, h]
theorem conjF_no {L : List Int} (h : valid L = false) : conjF L = [] := by simp [conjF, h]
theorem conjF_len (L : List Int) : (conjF L).length ≤ 16 := by
  unfold conjF
  split
  · rename_i h
    rw [conj_len]
    have := headD_bd h
    omega
  · simp
theorem sumF_conjF {L : List Int} (h : valid L = true) : sumF (conjF L) = sumL L := by
  rw [conjF_yes h, sumF_yes (valid_conj h), sumL_conj h]
theorem valid_fits {L : List Int} (h : valid L = true) : sumFits L := fun k hk => by
  have := preS_sum (preS_of_valid h) k hk
  have := (valid_bd h).2.2.2
  omega
theorem sumL_zeros (n : Nat) : sumL (List.replicate n 0) = 0 := by
  induction n with
  | zero => rfl
  | succ n ih => rw [List.replicate_succ, sumL, ih]; rfl
theorem sumL_pad (L : List Int) : sumL (pad L) = sumL L := by unfold pad; rw [sumL_append, sumL_zeros]; omega
theorem pad_nonneg {L : List Int} (h : valid L = true) : ∀ k (hk : k < (pad L).length), 0 ≤ (pad L)[k] ∧ (pad L)[k] ≤ 16 := by
  intro k hk
  have hl := (valid_bd h).2.2.2
  rw [pad_len hl] at hk
  by_cases h1 : k < L.length
  · rw [pad_get hl h1]
    have := preS_of_valid h k h1 h1
    omega
  · rw [pad_get0 hl (by omega) hk]; omega
theorem pad_fits {L : List Int} (h : valid L = true) : sumFits (pad L) := by
  have hl := (valid_bd h).2.2.2
  have key : ∀ k, k ≤ (pad L).length → 0 ≤ sumL ((pad L).take k) ∧ sumL ((pad L).take k) ≤ 16 * k := by
    intro k
    induction k with
    | zero => intro _; simp [sumL]
    | succ k ih =>
      intro hk
      have := ih (by omega)
      have h1 := pad_nonneg h k (by omega)
      rw [sumL_take_succ _ k (by omega)]
      omega
  intro k hk
  have := key k hk
  rw [pad_len hl] at hk
  omega
theorem durD_pad {L : List Int} (h : valid L = true) : durD (pad L) = durS L := by
  have hl := (valid_bd h).2.2.2
  have hn : ∀ j, j ≤ L.length → (∀ i, i < j → decide ((i : Int) < L.getD i 0) = true) → (j = L.length ∨ decide ((j : Int) < L.getD j 0) = false) → durD (pad L) = j ∧ durS L = j := by
    intro j hj hp hq
    refine ⟨ff_eq (fun i hi => ?_) (by omega) ?_, ff_eq hp hj hq⟩
    · have := hp i hi
      rw [List.getD_eq_getElem?_getD, List.getElem?_eq_getElem (by omega), Option.getD_some] at this
      rw [List.getD_eq_getElem?_getD, List.getElem?_eq_getElem (by rw [pad_len hl]; omega), Option.getD_some, pad_get hl (by omega)]
      exact this
    · rcases Nat.lt_or_ge j 16 with h16 | h16
      · right
        rw [List.getD_eq_getElem?_getD, List.getElem?_eq_getElem (by rw [pad_len hl]; omega), Option.getD_some]
        rcases Nat.lt_or_ge j L.length with hjl | hjl
        · rw [pad_get hl hjl]
          rcases hq with hq | hq
          · omega
          · rw [List.getD_eq_getElem?_getD, List.getElem?_eq_getElem (by omega), Option.getD_some] at hq
            exact hq
        · rw [pad_get0 hl hjl h16]; simp
      · left; omega
  have ex : ∀ n, n ≤ L.length → (∀ i, i < n → decide ((i : Int) < L.getD i 0) = true) ∨ ∃ j, j < n ∧ (∀ i, i < j → decide ((i : Int) < L.getD i 0) = true) ∧ decide ((j : Int) < L.getD j 0) = false := by
    intro n
    induction n with
    | zero => intro _; left; intro i hi; omega
    | succ n ih =>
      intro hn
      rcases ih (by omega) with h1 | ⟨j, hj, h1, h2⟩
      · cases hd : decide ((n : Int) < L.getD n 0) with
        | true =>
          left
          intro i hi
          rcases Nat.lt_or_ge i n with h3 | h3
          · exact h1 i h3
          · obtain rfl : i = n := by omega
            exact hd
        | false => right; exact ⟨n, by omega, h1, hd⟩
      · right; exact ⟨j, by omega, h1, h2⟩
  rcases ex L.length (Nat.le_refl _) with h1 | ⟨j, hj, h1, h2⟩
  · have := hn L.length (Nat.le_refl _) h1 (.inl rfl)
    rw [this.1, this.2]
  · have := hn j (by omega) h1 (.inr h2)
    rw [this.1, this.2]





theorem dg_len (L : List Int) : (dg L).length = 16 := by
  unfold dg
  split
  · exact pad_len (valid_bd ‹_›).2.2.2
  · rfl







end Go.Proofs.Ytgkghebjaedjmaa
namespace Go.Proofs.Ytgkghebjaedjmaa
namespace NP
/-- how many are k -/
def eqc (k : Int) : List Int → Int
  | [] => 0
  | x :: r => (if x = k then 1 else 0) + eqc k r
theorem eqc_append (k : Int) (a b : List Int) : eqc k (a ++ b) = eqc k a + eqc k b := by
  induction a with
  | nil => simp [eqc]
  | cons x r ih => simp [eqc, ih]; omega
theorem eqc_take_succ (k : Int) (L : List Int) (i : Nat) (h : i < L.length) : eqc k (L.take (i + 1)) = eqc k (L.take i) + (if L[i] = k then 1 else 0) := by
  rw [List.take_succ_eq_append_getElem h, eqc_append]; simp [eqc]
theorem eqc_bd (k : Int) (L : List Int) : 0 ≤ eqc k L ∧ eqc k L ≤ L.length := by
  induction L with
  | nil => simp [eqc]
  | cons x r ih => simp only [eqc, List.length_cons]; split <;> omega
theorem eqc_cnt (k : Int) (L : List Int) : eqc k L = cnt k L - cnt (k + 1) L := by
  induction L with
  | nil => simp [eqc, cnt]
  | cons x r ih => simp only [eqc, cnt, ih]; (repeat' split) <;> omega
def tim (L : List Int) : List Int := (List.range (L.headD 0).toNat).map fun (j : Nat) => eqc ((j : Int) + 1) L
theorem tim_len (L : List Int) : (tim L).length = (L.headD 0).toNat := by simp [tim]
theorem tim_get (L : List Int) (k : Nat) (h : k < (tim L).length) : (tim L)[k] = eqc ((k : Int) + 1) L := by simp [tim]
def timF (L : List Int) : List Int := if valid L then tim L else []
theorem timF_yes {L : List Int} (h : valid L = true) : timF L = tim L := by simp [timF, h]
theorem timF_no {L : List Int} (h : valid L = false) : timF L = [] := by simp [timF, h]
theorem timF_len (L : List Int) : (timF L).length ≤ 16 := by
  unfold timF
  split
  · rename_i h
    rw [tim_len]
    have := headD_bd h
    omega
  · simp
def tacc (L : List Int) (H k : Nat) : List Int := (List.range H).map fun (j : Nat) => eqc ((j : Int) + 1) (L.take k)
theorem tacc_len (L : List Int) (H k : Nat) : (tacc L H k).length = H := by simp [tacc]
theorem tacc_get (L : List Int) (H k j : Nat) (h : j < (tacc L H k).length) : (tacc L H k)[j] = eqc ((j : Int) + 1) (L.take k) := by simp [tacc]
theorem tacc_zero (L : List Int) (H : Nat) : tacc L H 0 = List.replicate H 0 := by
  apply List.ext_getElem
  · simp [tacc]
  · intro j h1 h2
    rw [tacc_get]
    simp [eqc]
theorem tacc_set (L : List Int) (H k m : Nat) (hk : k < L.length) (hm : L[k] = (m : Int) + 1) : (tacc L H k).set m (eqc ((m : Int) + 1) (L.take k) + 1) = tacc L H (k + 1) := by
  apply List.ext_getElem
  · simp [tacc]
  · intro j h1 h2
    rw [tacc_get, eqc_take_succ _ L k hk]
    by_cases hj : m = j
    · subst hj
      rw [List.getElem_set_self, if_pos hm]
    · rw [List.getElem_set_ne hj, tacc_get, if_neg (by omega)]
      omega
theorem tacc_end (L : List Int) : tacc L (L.headD 0).toNat L.length = tim L := by
  unfold tacc tim
  rw [List.take_of_length_le (Nat.le_refl _)]
/-- the indices of the corners -/
def isC (L : List Int) (i : Nat) : Bool := decide (i + 1 = L.length) || decide (L.getD (i + 1) 0 < L.getD i 0)
def crnTo (L : List Int) (n : Nat) : List Int := ((List.range n).filter (isC L)).map Int.ofNat
def crn (L : List Int) : List Int := crnTo L L.length
theorem crnTo_succ (L : List Int) (n : Nat) : crnTo L (n + 1) = crnTo L n ++ if isC L n then [(n : Int)] else [] := by
  unfold crnTo
  rw [List.range_succ, List.filter_append, List.map_append]
  congr 1
  cases h : isC L n <;> simp [h]
theorem crnTo_len (L : List Int) (n : Nat) : (crnTo L n).length ≤ n := by
  unfold crnTo
  rw [List.length_map]
  exact Nat.le_trans (List.length_filter_le _ _) (by simp)
def crnF (L : List Int) : List Int := if valid L then crn L else []
theorem crnF_yes {L : List Int} (h : valid L = true) : crnF L = crn L := by simp [crnF, h]
theorem crnF_no {L : List Int} (h : valid L = false) : crnF L = [] := by simp [crnF, h]
theorem crnF_len (L : List Int) : (crnF L).length ≤ 16 := by
  unfold crnF
  split
  · rename_i h
    exact Nat.le_trans (crnTo_len L _) (valid_bd h).2.2.2
  · simp
end NP
end Go.Proofs.Ytgkghebjaedjmaa
namespace Go.Proofs.Ytgkghebjaedjmaa
namespace NP
/-- corners of a padded row -/
def isCD (D : List Int) (i : Nat) : Bool := decide (0 < D.getD i 0) && (decide (i = 15) || decide (D.getD (i + 1) 0 < D.getD i 0))
def fl (p : Nat → Bool) (n : Nat) : List Int := ((List.range n).filter p).map Int.ofNat
theorem fl_succ (p : Nat → Bool) (n : Nat) : fl p (n + 1) = fl p n ++ if p n then [(n : Int)] else [] := by
  unfold fl
  rw [List.range_succ, List.filter_append, List.map_append]
  congr 1
  cases h : p n <;> simp [h]
theorem fl_len (p : Nat → Bool) (n : Nat) : (fl p n).length ≤ n := by
  unfold fl
  rw [List.length_map]
  exact Nat.le_trans (List.length_filter_le _ _) (by simp)
theorem fl_congr (p q : Nat → Bool) (n : Nat) (h : ∀ i, i < n → p i = q i) : fl p n = fl q n := by
  induction n with
  | zero => rfl
  | succ n ih => rw [fl_succ, fl_succ, ih (fun i hi => h i (by omega)), h n (by omega)]
theorem fl_no (p : Nat → Bool) (n m : Nat) (hm : n ≤ m) (h : ∀ i, n ≤ i → i < m → p i = false) : fl p m = fl p n := by
  induction m with
  | zero => obtain rfl : n = 0 := by omega
            rfl
  | succ m ih =>
    rcases Nat.lt_or_ge m n with h1 | h1
    · obtain rfl : n = m + 1 := by omega
      rfl
    · rw [fl_succ, h m h1 (by omega), ih h1 (fun i hi hi2 => h i hi (by omega))]
      simp
theorem crnTo_fl (L : List Int) (n : Nat) : crnTo L n = fl (isC L) n := rfl
theorem pad_getD {M : List Int} (h : M.length ≤ 16) (k : Nat) : (pad M).getD k 0 = M.getD k 0 := by
  rcases Nat.lt_or_ge k 16 with h1 | h1
  · rcases Nat.lt_or_ge k M.length with h2 | h2
    · rw [List.getD_eq_getElem?_getD, List.getElem?_eq_getElem (by rw [pad_len h]; omega), Option.getD_some, pad_get h h2, List.getD_eq_getElem?_getD, List.getElem?_eq_getElem h2]
      rfl
    · rw [List.getD_eq_getElem?_getD, List.getElem?_eq_getElem (by rw [pad_len h]; omega), Option.getD_some, pad_get0 h h2 h1, List.getD_eq_getElem?_getD, List.getElem?_eq_none h2]
      rfl
  · rw [List.getD_eq_getElem?_getD, List.getElem?_eq_none (by rw [pad_len h]; omega), List.getD_eq_getElem?_getD, List.getElem?_eq_none (by omega)]
theorem getD_pos {L : List Int} (hv : valid L = true) {i : Nat} (h : i < L.length) : 1 ≤ L.getD i 0 := by
  rw [List.getD_eq_getElem?_getD, List.getElem?_eq_getElem h, Option.getD_some]
  exact (preS_of_valid hv i h h).1
theorem getD_out {L : List Int} {i : Nat} (h : L.length ≤ i) : L.getD i 0 = 0 := by
  rw [List.getD_eq_getElem?_getD, List.getElem?_eq_none h]
  rfl
theorem isCD_pad {L : List Int} (hv : valid L = true) (i : Nat) : isCD (pad L) i = if i < L.length then isC L i else false := by
  have hl := (valid_bd hv).2.2.2
  unfold isCD isC
  rw [pad_getD hl, pad_getD hl]
  split
  · rename_i h
    have h1 := getD_pos hv h
    have e1 : decide (0 < L.getD i 0) = true := decide_eq_true (by omega)
    rw [e1, Bool.true_and]
    by_cases h15 : i = 15
    · have e2 : decide (i = 15) = true := decide_eq_true h15
      have e3 : decide (i + 1 = L.length) = true := decide_eq_true (by omega)
      rw [e2, e3]
    · have e2 : decide (i = 15) = false := decide_eq_false h15
      rw [e2, Bool.false_or]
      by_cases h3 : i + 1 = L.length
      · have e3 : decide (i + 1 = L.length) = true := decide_eq_true h3
        rw [e3, Bool.true_or, getD_out (by omega)]
        exact decide_eq_true (by omega)
      · have e3 : decide (i + 1 = L.length) = false := decide_eq_false h3
        rw [e3, Bool.false_or]
  · rename_i h
    rw [getD_out (by omega)]
    rfl
theorem crn_pad {L : List Int} (hv : valid L = true) : fl (isCD (pad L)) 16 = crn L := by
  have hl := (valid_bd hv).2.2.2
  rw [fl_no _ L.length 16 hl (fun i h1 _ => by rw [isCD_pad hv, if_neg (by omega)])]
  exact fl_congr _ _ _ fun i hi => by rw [isCD_pad hv, if_pos hi]
end NP
end Go.Proofs.Ytgkghebjaedjmaa
namespace Go.Proofs.Ytgkghebjaedjmaa
namespace NP
set_option linter.unusedVariables false
def hasI (M : List Int) (n : Int) : Bool := decide (n ∈ M)
theorem hasI_fl (p : Nat → Bool) (n : Nat) (i : Int) : hasI (fl p n) i = (decide (0 ≤ i) && decide (i < n) && p i.toNat) := by
  unfold hasI fl
  by_cases h0 : 0 ≤ i
  · obtain ⟨k, rfl⟩ := Int.eq_ofNat_of_zero_le h0
    have e : ((k : Int) ∈ ((List.range n).filter p).map Int.ofNat) ↔ (k < n ∧ p k = true) := by
      simp only [List.mem_map, List.mem_filter, List.mem_range]
      constructor
      · rintro ⟨a, ha, e⟩
        have : (a : Int) = (k : Int) := e
        obtain rfl : a = k := by omega
        exact ha
      · intro h
        exact ⟨k, h, rfl⟩
    simp only [e, Int.toNat_natCast]
    cases hp : p k <;> simp
  · have e : ¬ (i ∈ ((List.range n).filter p).map Int.ofNat) := by
      simp only [List.mem_map]
      rintro ⟨a, _, e⟩
      have : (a : Int) = i := e
      omega
    simp [e, h0]
theorem hasI_cons (x : Int) (M : List Int) (n : Int) : hasI (x :: M) n = (decide (n = x) || hasI M n) := by
  unfold hasI
  simp
theorem sumL_set (L : List Int) (k : Nat) (h : k < L.length) (x : Int) : sumL (L.set k x) = sumL L - L[k] + x := by
  induction L generalizing k with
  | nil => simp at h
  | cons y r ih =>
    cases k with
    | zero => simp [sumL]; omega
    | succ k =>
      simp only [List.set_cons_succ, sumL, List.getElem_cons_succ]
      rw [ih k (by simpa using h)]
      omega
theorem elem_le_sum {L : List Int} (h : ∀ x ∈ L, 0 ≤ x) {q : Nat} (hq : q < L.length) : L[q] ≤ sumL L ∧ 0 ≤ sumL L := by
  induction L generalizing q with
  | nil => simp at hq
  | cons x r ih =>
    have hx := h x (by simp)
    have hr : 0 ≤ sumL r := by
      cases r with
      | nil => simp [sumL]
      | cons y t => exact (ih (fun z hz => h z (by simp [hz])) (q := 0) (by simp)).2
    cases q with
    | zero => simp [sumL]; omega
    | succ q =>
      have := (ih (fun z hz => h z (by simp [hz])) (q := q) (by simpa using hq)).1
      simp only [List.getElem_cons_succ, sumL]
      omega
/-- a cell less -/
def lessL (L : List Int) (k : Nat) : List Int := if L.getD k 0 - 1 = 0 then (L.set k (L.getD k 0 - 1)).take k else L.set k (L.getD k 0 - 1)
def rmvOk (L : List Int) (i : Int) : Bool := valid L && (decide (0 ≤ i) && decide (i < L.length) && isC L i.toNat)
def rmv (L : List Int) (i : Int) : List Int := if rmvOk L i then lessL L i.toNat else []
theorem isC_next {L : List Int} {k : Nat} (hk : k + 1 < L.length) (h : isC L k = true) : L.getD (k + 1) 0 < L.getD k 0 := by
  unfold isC at h
  rw [decide_eq_false (by omega), Bool.false_or] at h
  exact of_decide_eq_true h
theorem valid_set_less {L : List Int} (hv : valid L = true) {k : Nat} (hk : k < L.length) (hc : isC L k = true) (h1 : L.getD k 0 - 1 ≠ 0) : valid (L.set k (L.getD k 0 - 1)) = true := by
  have hp := preS_of_valid hv
  have hb := valid_bd hv
  have hg : L.getD k 0 = L[k] := getD_lt hk
  apply valid_of_preS
  · intro j hj _
    rw [List.length_set] at hj
    have hpj := hp j hj hj
    have hpk := hp k hk hk
    by_cases hjk : k = j
    · subst hjk
      rw [List.getElem_set_self]
      refine ⟨by omega, by omega, fun h0 => ?_⟩
      rw [List.getElem_set_ne (by omega)]
      have := hpk.2.2 h0
      omega
    · rw [List.getElem_set_ne hjk]
      refine ⟨hpj.1, hpj.2.1, fun h0 => ?_⟩
      by_cases hj1 : k = j - 1
      · subst hj1
        rw [List.getElem_set_self]
        have hn := isC_next (L := L) (k := j - 1) (by omega) hc
        rw [getD_lt (by omega), getD_lt (by omega)] at hn
        have e : L[j - 1 + 1]'(by omega) = L[j] := by congr 1; omega
        rw [e] at hn
        omega
      · rw [List.getElem_set_ne hj1]
        exact hpj.2.2 h0
  · rw [sumL_set _ _ hk]; omega
theorem less_last {L : List Int} (hv : valid L = true) {k : Nat} (hk : k < L.length) (hc : isC L k = true) (h1 : L.getD k 0 - 1 = 0) : k + 1 = L.length := by
  rcases Nat.lt_or_ge (k + 1) L.length with h | h
  · have := isC_next h hc
    have := getD_pos hv h
    omega
  · omega
theorem valid_less {L : List Int} (hv : valid L = true) {k : Nat} (hk : k < L.length) (hc : isC L k = true) : valid (lessL L k) = true := by
  unfold lessL
  split
  · rename_i h1
    rw [List.take_set_of_le (Nat.le_refl _)]
    exact valid_take hv k
  · rename_i h1
    exact valid_set_less hv hk hc h1
theorem pad_ext {A B : List Int} (hA : A.length ≤ 16) (hB : B.length ≤ 16) (h : ∀ j, j < 16 → A.getD j 0 = B.getD j 0) : pad A = pad B := by
  apply List.ext_getElem
  · rw [pad_len hA, pad_len hB]
  · intro j h1 h2
    have e1 := pad_getD hA j
    have e2 := pad_getD hB j
    rw [getD_lt h1] at e1
    rw [getD_lt h2] at e2
    rw [e1, e2, h j (by rw [pad_len hA] at h1; omega)]
theorem getD_set (L : List Int) (k j : Nat) (hk : k < L.length) (x : Int) : (L.set k x).getD j 0 = if k = j then x else L.getD j 0 := by
  split
  · rename_i h
    subst h
    rw [getD_lt (by simpa using hk), List.getElem_set_self]
  · rename_i h
    rcases Nat.lt_or_ge j L.length with h1 | h1
    · rw [getD_lt (by simpa using h1), List.getElem_set_ne h, getD_lt h1]
    · rw [getD_ge (by simpa using h1), getD_ge h1]
theorem getD_take (L : List Int) (k j : Nat) : (L.take k).getD j 0 = if j < k then L.getD j 0 else 0 := by
  split
  · rename_i h
    rcases Nat.lt_or_ge j L.length with h1 | h1
    · rw [getD_lt (by simp; omega), getD_lt h1]; simp
    · rw [getD_ge (by simp; omega), getD_ge h1]
  · rename_i h
    rw [getD_ge (by simp; omega)]
theorem pad_setG {L : List Int} (hL : L.length ≤ 16) {k : Nat} (hk : k < 16) (x : Int) {M : List Int} (hM : M.length ≤ 16) (h : ∀ j, j < 16 → M.getD j 0 = if k = j then x else L.getD j 0) : (pad L).set k x = pad M := by
  apply List.ext_getElem
  · rw [List.length_set, pad_len hL, pad_len hM]
  · intro j h1 h2
    have e1 := getD_set (pad L) k j (by rw [pad_len hL]; exact hk) x
    have e2 := pad_getD hM j
    rw [getD_lt h1] at e1
    rw [getD_lt h2] at e2
    rw [e1, e2, h j (by rw [pad_len hM] at h2; omega), pad_getD hL]
theorem less_len (L : List Int) (k : Nat) : (lessL L k).length ≤ L.length := by
  unfold lessL
  split
  · rw [List.length_take, List.length_set]; omega
  · rw [List.length_set]; omega
theorem pad_less {L : List Int} (hv : valid L = true) {k : Nat} (hk : k < L.length) (hc : isC L k = true) : (pad L).set k (L.getD k 0 - 1) = pad (lessL L k) := by
  have hl := (valid_bd hv).2.2.2
  refine pad_setG hl (by omega) _ (Nat.le_trans (less_len L k) hl) fun j _ => ?_
  unfold lessL
  split
  · rename_i h1
    have := less_last hv hk hc h1
    rw [getD_take, getD_set _ _ _ hk]
    by_cases hjk : j < k
    · rw [if_pos hjk, if_neg (by omega)]
    · rw [if_neg hjk]
      split
      · omega
      · rw [getD_ge (by omega)]
  · rw [getD_set _ _ _ hk]
theorem rmv_len (L : List Int) (i : Int) : (rmv L i).length ≤ 16 := by
  unfold rmv
  split
  · rename_i h
    unfold rmvOk at h
    simp only [Bool.and_eq_true] at h
    exact Nat.le_trans (less_len L _) (valid_bd h.1).2.2.2
  · simp
/-- a cell more -/
def addL (L : List Int) (k : Nat) : List Int := if k = L.length then L ++ [1] else L.set k (L.getD k 0 + 1)
def addOk (L : List Int) (i : Int) : Bool := valid L && (decide (0 ≤ i) && decide (i ≤ L.length) && valid (addL L i.toNat))
def addC (L : List Int) (i : Int) : List Int := if addOk L i then addL L i.toNat else []
theorem addC_len (L : List Int) (i : Int) : (addC L i).length ≤ 16 := by
  unfold addC
  split
  · rename_i h
    unfold addOk at h
    simp only [Bool.and_eq_true] at h
    exact (valid_bd h.2.2).2.2.2
  · simp
theorem addL_len (L : List Int) (k : Nat) : (addL L k).length ≤ L.length + 1 := by
  unfold addL; split <;> simp
theorem addL_getD (L : List Int) {k : Nat} (hk : k ≤ L.length) (j : Nat) : (addL L k).getD j 0 = if k = j then L.getD k 0 + 1 else L.getD j 0 := by
  unfold addL
  split
  · rename_i h
    subst h
    split
    · rename_i h
      subst h
      rw [getD_lt (by simp), getD_ge (Nat.le_refl _)]
      simp
    · rename_i h
      rcases Nat.lt_or_ge j L.length with h1 | h1
      · rw [getD_lt (by simp; omega), getD_lt h1, List.getElem_append_left h1]
      · rw [getD_ge (by simp; omega), getD_ge h1]
  · rw [getD_set _ _ _ (by omega)]
theorem sumL_add (L : List Int) {k : Nat} (hk : k ≤ L.length) : sumL (addL L k) = sumL L + 1 := by
  unfold addL
  split
  · rw [sumL_append]; simp [sumL]
  · rw [sumL_set _ _ (by omega), getD_lt (by omega)]; omega
theorem valid_add {L : List Int} (hv : valid L = true) {k : Nat} (hk : k ≤ L.length) : valid (addL L k) = (decide (sumL L ≠ 16) && (decide (k = 0) || decide (L.getD k 0 + 1 ≤ L.getD (k - 1) 0))) := by
  have hp := preS_of_valid hv
  have hb := valid_bd hv
  have hs := sumL_add L hk
  apply Bool.eq_iff_iff.2
  simp only [Bool.and_eq_true, Bool.or_eq_true, decide_eq_true_eq]
  constructor
  · intro h
    have hb2 := valid_bd h
    refine ⟨by omega, ?_⟩
    by_cases h0 : k = 0
    · exact .inl h0
    · right
      have hkl : k < (addL L k).length := by unfold addL; split <;> simp <;> omega
      have := (preS_of_valid h k hkl hkl).2.2 (by omega)
      rw [← getD_lt hkl, ← getD_lt (by omega), addL_getD L hk, addL_getD L hk, if_pos rfl, if_neg (by omega)] at this
      exact this
  · rintro ⟨h1, h2⟩
    apply valid_of_preS
    · intro j hj _
      have hjl : j ≤ L.length := by have := addL_len L k; omega
      have e1 := addL_getD L hk j
      rw [getD_lt hj] at e1
      have hs16 := hb.2.1
      have hle : ∀ q, 0 ≤ L.getD q 0 ∧ L.getD q 0 ≤ 15 := by
        intro q
        rcases Nat.lt_or_ge q L.length with hq | hq
        · have a1 := hp q hq hq
          rw [getD_lt hq]
          have a2 := elem_le_sum (fun x hx => by obtain ⟨n, hn, e⟩ := List.mem_iff_getElem.1 hx; have := hp n hn hn; omega) hq
          omega
        · rw [getD_ge hq]; omega
      have hlek := hle k
      have hlej := hle j
      have hge : k ≠ j → 1 ≤ L.getD j 0 := by
        intro hne
        have : j < L.length := by
          by_cases hkl : k = L.length
          · omega
          · have : (addL L k).length = L.length := by unfold addL; rw [if_neg hkl]; simp
            omega
        exact getD_pos hv this
      refine ⟨by rw [e1]; split <;> omega, by rw [e1]; split <;> omega, fun h0 => ?_⟩
      have e2 := addL_getD L hk (j - 1)
      rw [getD_lt (by omega)] at e2
      rw [e1, e2]
      have hmono : L.getD j 0 ≤ L.getD (j - 1) 0 := by
        rcases Nat.lt_or_ge j L.length with hq | hq
        · rw [getD_lt hq, getD_lt (by omega)]
          exact (hp j hq hq).2.2 h0
        · rw [getD_ge hq]; exact (hle _).1
      by_cases hkj : k = j
      · subst hkj
        rw [if_pos rfl, if_neg (by omega)]
        omega
      · rw [if_neg hkj]
        split
        · rename_i hkj1
          subst hkj1
          omega
        · exact hmono
    · omega
theorem pad_add {L : List Int} (hl : L.length ≤ 16) {k : Nat} (hk : k ≤ L.length) (hk16 : k < 16) (hl2 : (addL L k).length ≤ 16) : (pad L).set k (L.getD k 0 + 1) = pad (addL L k) := pad_setG hl hk16 _ hl2 fun j _ => addL_getD L hk j
end NP
end Go.Proofs.Ytgkghebjaedjmaa
namespace Go.Proofs.Ytgkghebjaedjmaa
namespace NP
set_option linter.unusedVariables false
def two (P Q : List Int) : Bool := valid P && valid Q && decide (sumL P + sumL Q ≤ 16)
def adp (P Q : List Int) : List Int := (List.range (max P.length Q.length)).map fun i => P.getD i 0 + Q.getD i 0
theorem adp_len (P Q : List Int) : (adp P Q).length = max P.length Q.length := by simp [adp]
theorem adp_getD (P Q : List Int) (i : Nat) : (adp P Q).getD i 0 = P.getD i 0 + Q.getD i 0 := by
  rcases Nat.lt_or_ge i (max P.length Q.length) with h | h
  · rw [getD_lt (by rw [adp_len]; exact h)]
    simp [adp]
  · rw [getD_ge (by rw [adp_len]; exact h), getD_ge (by omega), getD_ge (by omega)]
    rfl
theorem getD_nn {L : List Int} (hv : valid L = true) (i : Nat) : 0 ≤ L.getD i 0 ∧ L.getD i 0 ≤ 16 := by
  rcases Nat.lt_or_ge i L.length with h | h
  · rw [getD_lt h]
    have := preS_of_valid hv i h h
    omega
  · rw [getD_ge h]; omega
theorem getD_fall {L : List Int} (hv : valid L = true) (i : Nat) (h : 0 < i) : L.getD i 0 ≤ L.getD (i - 1) 0 := by
  rcases Nat.lt_or_ge i L.length with h1 | h1
  · rw [getD_lt h1, getD_lt (by omega)]
    exact (preS_of_valid hv i h1 h1).2.2 h
  · rw [getD_ge h1]; exact (getD_nn hv _).1
/-- the sum, by places -/
def sumTo (L : List Int) : Nat → Int
  | 0 => 0
  | n + 1 => sumTo L n + L.getD n 0
theorem sumTo_take (L : List Int) (n : Nat) : sumTo L n = sumL (L.take n) := by
  induction n with
  | zero => rfl
  | succ n ih =>
    rw [sumTo, ih]
    rcases Nat.lt_or_ge n L.length with h | h
    · rw [sumL_take_succ L n h, getD_lt h]
    · rw [getD_ge h, List.take_of_length_le h, List.take_of_length_le (by omega)]; omega
theorem sumTo_all (L : List Int) (n : Nat) (h : L.length ≤ n) : sumTo L n = sumL L := by rw [sumTo_take, List.take_of_length_le h]
theorem sumTo_add {A P Q : List Int} (h : ∀ i, A.getD i 0 = P.getD i 0 + Q.getD i 0) (n : Nat) : sumTo A n = sumTo P n + sumTo Q n := by
  induction n with
  | zero => rfl
  | succ n ih => rw [sumTo, sumTo, sumTo, ih, h]; omega
theorem adp_sum (P Q : List Int) : sumL (adp P Q) = sumL P + sumL Q := by
  rw [← sumTo_all (adp P Q) (max P.length Q.length) (by rw [adp_len]; exact Nat.le_refl _), sumTo_add (adp_getD P Q), sumTo_all P _ (Nat.le_max_left _ _), sumTo_all Q _ (Nat.le_max_right _ _)]
theorem two_out {P Q : List Int} (h : two P Q = true) : valid P = true ∧ valid Q = true ∧ sumL P + sumL Q ≤ 16 := by
  unfold two at h
  simp only [Bool.and_eq_true, decide_eq_true_eq] at h
  exact ⟨h.1.1, h.1.2, h.2⟩
theorem valid_adp {P Q : List Int} (h : two P Q = true) : valid (adp P Q) = true := by
  obtain ⟨hp, hq, hs⟩ := two_out h
  have hbp := valid_bd hp
  have hbq := valid_bd hq
  apply valid_of_preS
  · intro j hj _
    have e := adp_getD P Q j
    rw [getD_lt hj] at e
    have h1 := getD_nn hp j
    have h2 := getD_nn hq j
    rw [adp_len] at hj
    have h3 : 1 ≤ P.getD j 0 + Q.getD j 0 := by
      rcases Nat.lt_or_ge j P.length with h | h
      · have := getD_pos hp h; omega
      · have := getD_pos hq (by omega : j < Q.length); omega
    have h4 : P.getD j 0 + Q.getD j 0 ≤ 16 := by
      have a1 : P.getD j 0 ≤ sumL P := by
        rcases Nat.lt_or_ge j P.length with h | h
        · rw [getD_lt h]
          exact (elem_le_sum (fun x hx => by obtain ⟨n, hn, e⟩ := List.mem_iff_getElem.1 hx; have := preS_of_valid hp n hn hn; omega) h).1
        · rw [getD_ge h]; omega
      have a2 : Q.getD j 0 ≤ sumL Q := by
        rcases Nat.lt_or_ge j Q.length with h | h
        · rw [getD_lt h]
          exact (elem_le_sum (fun x hx => by obtain ⟨n, hn, e⟩ := List.mem_iff_getElem.1 hx; have := preS_of_valid hq n hn hn; omega) h).1
        · rw [getD_ge h]; omega
      omega
    refine ⟨by omega, by omega, fun h0 => ?_⟩
    have e2 := adp_getD P Q (j - 1)
    rw [getD_lt (by rw [adp_len]; omega)] at e2
    have := getD_fall hp j h0
    have := getD_fall hq j h0
    omega
  · rw [adp_sum]; exact hs
/-- what stands in the program's diagram when i places have been added to -/
def amid (P Q : List Int) (i : Nat) : List Int := (List.range 16).map fun j => if j < i then P.getD j 0 + Q.getD j 0 else P.getD j 0
theorem amid_len (P Q : List Int) (i : Nat) : (amid P Q i).length = 16 := by simp [amid]
theorem amid_get (P Q : List Int) (i j : Nat) (h : j < (amid P Q i).length) : (amid P Q i)[j] = if j < i then P.getD j 0 + Q.getD j 0 else P.getD j 0 := by simp [amid]
theorem amid_zero {P : List Int} (hp : P.length ≤ 16) (Q : List Int) : amid P Q 0 = pad P := by
  apply List.ext_getElem
  · rw [amid_len, pad_len hp]
  · intro j h1 h2
    rw [amid_get, if_neg (by omega), ← pad_getD hp, getD_lt h2]
theorem amid_set (P Q : List Int) (i : Nat) : (amid P Q i).set i (P.getD i 0 + Q.getD i 0) = amid P Q (i + 1) := by
  apply List.ext_getElem
  · rw [List.length_set, amid_len, amid_len]
  · intro j h1 h2
    by_cases hj : i = j
    · subst hj
      rw [List.getElem_set_self, amid_get, if_pos (by omega)]
    · rw [List.getElem_set_ne hj, amid_get, amid_get]
      split <;> split <;> first | rfl | omega
theorem amid_end {P Q : List Int} (h : two P Q = true) : amid P Q 16 = pad (adp P Q) := by
  have hv := valid_adp h
  have hl := (valid_bd hv).2.2.2
  apply List.ext_getElem
  · rw [amid_len, pad_len hl]
  · intro j h1 h2
    rw [amid_get, if_pos (by rw [amid_len] at h1; exact h1)]
    have e := pad_getD hl j
    rw [getD_lt h2, adp_getD] at e
    exact e.symm
def adpF (P Q : List Int) : List Int := if two P Q then adp P Q else []
theorem adpF_yes {P Q : List Int} (h : two P Q = true) : adpF P Q = adp P Q := by simp [adpF, h]
theorem adpF_no {P Q : List Int} (h : two P Q = false) : adpF P Q = [] := by simp [adpF, h]
theorem adpF_len (P Q : List Int) : (adpF P Q).length ≤ 16 := by
  unfold adpF
  split
  · rename_i h
    exact (valid_bd (valid_adp h)).2.2.2
  · simp
end NP
end Go.Proofs.Ytgkghebjaedjmaa
namespace Go.Proofs.Ytgkghebjaedjmaa
namespace NP
set_option linter.unusedVariables false
/-- the numbers times how often they come, up to n -/
def wti (L : List Int) : Nat → Int
  | 0 => 0
  | n + 1 => wti L n + ((n : Int) + 1) * eqc ((n : Int) + 1) L
def ctim (L : List Int) : Nat → Int
  | 0 => 0
  | n + 1 => ctim L n + eqc ((n : Int) + 1) L
theorem wti_nil (n : Nat) : wti [] n = 0 := by
  induction n with
  | zero => rfl
  | succ n ih => simp [wti, ih, eqc]
theorem ctim_nil (n : Nat) : ctim [] n = 0 := by
  induction n with
  | zero => rfl
  | succ n ih => simp [ctim, ih, eqc]
theorem wti_cons (x : Int) (r : List Int) (n : Nat) : wti (x :: r) n = wti r n + (if 1 ≤ x ∧ x ≤ n then x else 0) := by
  induction n with
  | zero => simp [wti]; omega
  | succ n ih =>
    simp only [wti, ih, eqc]
    by_cases hx : x = (n : Int) + 1
    · subst hx
      rw [if_pos rfl, if_neg (by omega), if_pos (by omega), Int.mul_add]
      omega
    · rw [if_neg hx, Int.zero_add]
      split <;> split <;> omega
theorem ctim_cons (x : Int) (r : List Int) (n : Nat) : ctim (x :: r) n = ctim r n + (if 1 ≤ x ∧ x ≤ n then 1 else 0) := by
  induction n with
  | zero => simp [ctim]; omega
  | succ n ih =>
    simp only [ctim, ih, eqc]
    by_cases hx : x = (n : Int) + 1
    · subst hx
      rw [if_pos rfl, if_neg (by omega), if_pos (by omega)]
      omega
    · rw [if_neg hx, Int.zero_add]
      split <;> split <;> omega
theorem wti_sum (L : List Int) (n : Nat) (h : ∀ x ∈ L, 1 ≤ x ∧ x ≤ n) : wti L n = sumL L := by
  induction L with
  | nil => rw [wti_nil]; rfl
  | cons x r ih =>
    rw [wti_cons, ih (fun y hy => h y (by simp [hy])), if_pos (h x (by simp))]
    simp [sumL]; omega
theorem ctim_len (L : List Int) (n : Nat) (h : ∀ x ∈ L, 1 ≤ x ∧ x ≤ n) : ctim L n = L.length := by
  induction L with
  | nil => rw [ctim_nil]; rfl
  | cons x r ih =>
    rw [ctim_cons, ih (fun y hy => h y (by simp [hy])), if_pos (h x (by simp))]
    simp
theorem sum_tim (L : List Int) (n : Nat) : sumL ((List.range n).map fun (j : Nat) => eqc ((j : Int) + 1) L) = ctim L n := by
  induction n with
  | zero => rfl
  | succ n ih => rw [List.range_succ, List.map_append, sumL_append, ih]; simp [ctim, sumL]
theorem valid_mem {L : List Int} (h : valid L = true) : ∀ x ∈ L, 1 ≤ x ∧ x ≤ (((L.headD 0).toNat : Nat) : Int) := by
  intro x hx
  have hg := head_ge h x hx
  obtain ⟨n, hn, e⟩ := List.mem_iff_getElem.1 hx
  have := preS_of_valid h n hn hn
  omega
theorem tim_sum {L : List Int} (h : valid L = true) : sumL (tim L) = L.length := by
  unfold tim
  rw [sum_tim]
  exact ctim_len L _ (valid_mem h)
theorem eqc_mul_bd (L : List Int) (n : Nat) (hn : n ≤ 16) (hl : L.length ≤ 16) : 0 ≤ ((n : Int) + 1) * eqc ((n : Int) + 1) L ∧ ((n : Int) + 1) * eqc ((n : Int) + 1) L ≤ 272 := by
  have h := eqc_bd ((n : Int) + 1) L
  generalize eqc ((n : Int) + 1) L = y at h ⊢
  have h1 : 0 ≤ ((n : Int) + 1) * y := Int.mul_nonneg (by omega) h.1
  have h2 : ((n : Int) + 1) * y ≤ 17 * 16 := Int.mul_le_mul (by omega) (by omega) h.1 (by omega)
  omega
theorem wti_bd (L : List Int) (hl : L.length ≤ 16) (n : Nat) (hn : n ≤ 17) : 0 ≤ wti L n ∧ wti L n ≤ 272 * n := by
  induction n with
  | zero => simp [wti]
  | succ n ih =>
    have := ih (by omega)
    have := eqc_mul_bd L n (by omega) hl
    simp only [wti]
    omega
theorem tim_conj {L : List Int} (h : valid L = true) (k : Nat) (hk : k < (L.headD 0).toNat) : eqc ((k : Int) + 1) L = cnt ((k : Int) + 1) L - (if k + 1 < (L.headD 0).toNat then cnt ((k : Int) + 2) L else 0) := by
  rw [eqc_cnt]
  split
  · congr 1
  · rename_i h1
    have e : cnt ((k : Int) + 1 + 1) L = 0 := by
      apply cnt_none
      intro x hx
      have := valid_mem h x hx
      omega
    omega
/-- how many numbers come -/
def nz (L : List Int) : Nat → Nat
  | 0 => 0
  | n + 1 => nz L n + (if 0 < eqc ((n : Int) + 1) L then 1 else 0)
theorem nz_nil (n : Nat) : nz [] n = 0 := by
  induction n with
  | zero => rfl
  | succ n ih => simp [nz, ih, eqc]
theorem nz_le (L : List Int) (n : Nat) : nz L n ≤ n := by
  induction n with
  | zero => simp [nz]
  | succ n ih => simp only [nz]; split <;> omega
theorem nz_cons (x : Int) (r : List Int) (n : Nat) : nz (x :: r) n = nz r n + (if 1 ≤ x ∧ x ≤ n ∧ eqc x r ≤ 0 then 1 else 0) := by
  induction n with
  | zero => simp [nz]; omega
  | succ n ih =>
    have e : eqc ((n : Int) + 1) (x :: r) = (if x = (n : Int) + 1 then 1 else 0) + eqc ((n : Int) + 1) r := rfl
    simp only [nz, ih]
    by_cases hx : x = (n : Int) + 1
    · subst hx
      have hb := (eqc_bd ((n : Int) + 1) r).1
      rw [if_pos rfl] at e
      split <;> split <;> split <;> split <;> omega
    · rw [if_neg hx, Int.zero_add] at e
      rw [e]
      split <;> split <;> split <;> omega
theorem fl_len_shift (p : Nat → Bool) (n : Nat) : (fl p (n + 1)).length = (if p 0 then 1 else 0) + (fl (fun i => p (i + 1)) n).length := by
  induction n with
  | zero => rw [fl_succ]; simp [fl]; split <;> simp_all
  | succ n ih =>
    rw [fl_succ, List.length_append, ih, fl_succ, List.length_append]
    split <;> split <;> simp_all <;> omega
theorem isC_tail (x : Int) (r : List Int) (i : Nat) : isC (x :: r) (i + 1) = isC r i := by
  unfold isC
  simp
theorem eqc_none (x : Int) (r : List Int) (h : ∀ y ∈ r, y < x) : eqc x r = 0 := by
  induction r with
  | nil => rfl
  | cons y t ih =>
    have := h y (by simp)
    simp only [eqc]
    rw [if_neg (by omega), ih (fun z hz => h z (by simp [hz]))]
    rfl
/-- falls: each at most the one ahead -/
def mono : List Int → Prop
  | [] => True
  | x :: r => (∀ y ∈ r, y ≤ x) ∧ mono r
theorem crn_nz (L : List Int) (hm : mono L) (n : Nat) (h : ∀ x ∈ L, 1 ≤ x ∧ x ≤ n) : (crn L).length = nz L n := by
  induction L with
  | nil => rw [nz_nil]; rfl
  | cons x r ih =>
    have ih' := ih hm.2 (fun y hy => h y (by simp [hy]))
    have hx := h x (by simp)
    rw [nz_cons, ← ih']
    unfold crn
    rw [crnTo_fl, crnTo_fl, List.length_cons, fl_len_shift, fl_congr _ (isC r) _ (fun i _ => isC_tail x r i)]
    rw [Nat.add_comm]
    congr 1
    cases r with
    | nil => simp [isC, eqc]; omega
    | cons y t =>
      have e : isC (x :: y :: t) 0 = decide (y < x) := by unfold isC; simp
      rw [e]
      have hy := hm.1 y (by simp)
      by_cases hyx : y < x
      · rw [decide_eq_true hyx]
        have e2 : eqc x (y :: t) = 0 := eqc_none x _ fun z hz => by
          rcases List.mem_cons.1 hz with rfl | hz
          · exact hyx
          · have := hm.2.1 z hz; omega
        rw [e2, if_pos rfl, if_pos (by omega)]
      · have hyx2 : y = x := by omega
        subst hyx2
        have := (eqc_bd y t).1
        rw [decide_eq_false hyx, if_neg (by simp), if_neg (by simp [eqc]; omega)]
theorem mono_of {L : List Int} (h : ∀ i (hi : i + 1 < L.length), L[i + 1] ≤ L[i]) : mono L := by
  induction L with
  | nil => trivial
  | cons x r ih =>
    have hr : mono r := ih fun i hi => by have := h (i + 1) (by simpa using hi); simpa using this
    refine ⟨fun y hy => ?_, hr⟩
    cases r with
    | nil => simp at hy
    | cons z t =>
      have h0 := h 0 (by simp)
      simp at h0
      rcases List.mem_cons.1 hy with rfl | hy
      · exact h0
      · exact Int.le_trans (hr.1 y hy) h0
theorem mono_valid {L : List Int} (h : valid L = true) : mono L := mono_of fun i hi => by
  have := (preS_of_valid h (i + 1) hi hi).2.2 (by omega)
  simpa using this
theorem crn_len_nz {L : List Int} (h : valid L = true) : (crn L).length = nz L (L.headD 0).toNat := crn_nz L (mono_valid h) _ (valid_mem h)
theorem nz_fl (L : List Int) (n : Nat) : (fl (fun i => decide (0 < eqc ((i : Int) + 1) L)) n).length = nz L n := by
  induction n with
  | zero => rfl
  | succ n ih =>
    rw [fl_succ, List.length_append, ih]
    simp only [nz]
    split <;> split <;> simp_all
theorem crn_conj_nz {L : List Int} (h : valid L = true) : (crn (conj L)).length = nz L (L.headD 0).toNat := by
  unfold crn
  rw [crnTo_fl, conj_len, fl_congr _ (fun i => decide (0 < eqc ((i : Int) + 1) L)) _ (fun i hi => ?_), nz_fl]
  have hi1 : i < (conj L).length := by rw [conj_len]; exact hi
  unfold isC
  rw [getD_lt hi1, conj_get, eqc_cnt]
  by_cases h1 : i + 1 < (conj L).length
  · rw [decide_eq_false (by omega), Bool.false_or, getD_lt h1, conj_get]
    have e : (((i + 1 : Nat) : Int) + 1) = (i : Int) + 1 + 1 := by omega
    rw [e]
    apply decide_eq_decide.2
    omega
  · rw [decide_eq_true (by omega), Bool.true_or]
    have e : cnt ((i : Int) + 1 + 1) L = 0 := by
      apply cnt_none
      intro x hx
      have := valid_mem h x hx
      rw [conj_len] at h1
      omega
    have e1 : 0 < cnt ((i : Int) + 1) L := by
      cases L with
      | nil => simp at hi
      | cons x r =>
        have := (cnt_bd ((i : Int) + 1) r).1
        simp only [cnt]
        simp only [List.headD_cons] at hi
        rw [if_pos (by omega)]
        omega
    rw [e, eq_comm, decide_eq_true_eq]
    omega
theorem fl_asc (p : Nat → Bool) (n : Nat) : ∀ i (h : i + 1 < (fl p n).length), (fl p n)[i] < (fl p n)[i + 1] := by
  have hp : (fl p n).Pairwise (· < ·) := by
    unfold fl
    rw [List.pairwise_map]
    exact (List.Pairwise.filter _ List.pairwise_lt_range).imp fun h => by simpa using h
  intro i h
  exact List.pairwise_iff_getElem.1 hp i (i + 1) (by omega) h (by omega)
theorem asc_of_eq {X Y : List Int} (e : X = Y) (h : ∀ i (hi : i + 1 < Y.length), Y[i] < Y[i + 1]) : ∀ i (hi : i + 1 < X.length), X[i] < X[i + 1] := by subst e; exact h
theorem get_of_eq {X Y : List Int} {f : Nat → Int} (e : X = Y) (h : ∀ k (hk : k < Y.length), Y[k] = f k) : ∀ k (hk : k < X.length), X[k] = f k := by subst e; exact h
end NP
end Go.Proofs.Ytgkghebjaedjmaa
namespace Go.Proofs.Ytgkghebjaedjmaa
namespace NP
set_option linter.unusedVariables false
theorem eqc_cons (k x : Int) (r : List Int) : eqc k (x :: r) = (if x = k then 1 else 0) + eqc k r := rfl
theorem eqc_mem {k : Int} {L : List Int} (h : 0 < eqc k L) : k ∈ L := by
  induction L with
  | nil => simp [eqc] at h
  | cons x r ih =>
    rw [eqc_cons] at h
    by_cases hx : x = k
    · subst hx; simp
    · rw [if_neg hx] at h
      exact List.mem_cons_of_mem _ (ih (by omega))
theorem eqc_pos {k : Int} {L : List Int} (h : k ∈ L) : 0 < eqc k L := by
  induction L with
  | nil => simp at h
  | cons x r ih =>
    rw [eqc_cons]
    have := (eqc_bd k r).1
    rcases List.mem_cons.1 h with rfl | h
    · rw [if_pos rfl]; omega
    · have := ih h
      split <;> omega
theorem mono_eq {A B : List Int} (hA : mono A) (hB : mono B) (h : ∀ k, eqc k A = eqc k B) : A = B := by
  induction A generalizing B with
  | nil =>
    cases B with
    | nil => rfl
    | cons y t =>
      have h1 := h y
      have h2 := eqc_pos (k := y) (L := y :: t) (by simp)
      rw [← h1] at h2
      simp [eqc] at h2
  | cons x r ih =>
    cases B with
    | nil =>
      have h1 := h x
      have h2 := eqc_pos (k := x) (L := x :: r) (by simp)
      rw [h1] at h2
      simp [eqc] at h2
    | cons y t =>
      have hxy : x = y := by
        have h1 := eqc_mem (k := x) (L := y :: t) (by rw [← h x]; exact eqc_pos (by simp))
        have h2 := eqc_mem (k := y) (L := x :: r) (by rw [h y]; exact eqc_pos (by simp))
        have h3 : x ≤ y := by
          rcases List.mem_cons.1 h1 with rfl | h1
          · exact Int.le_refl _
          · exact hB.1 x h1
        have h4 : y ≤ x := by
          rcases List.mem_cons.1 h2 with rfl | h2
          · exact Int.le_refl _
          · exact hA.1 y h2
        omega
      subst hxy
      rw [ih hA.2 hB.2 fun k => by have := h k; rw [eqc_cons, eqc_cons] at this; omega]
theorem mono_append {A B : List Int} (hA : mono A) (hB : mono B) (h : ∀ x ∈ A, ∀ y ∈ B, y ≤ x) : mono (A ++ B) := by
  induction A with
  | nil => exact hB
  | cons x r ih =>
    refine ⟨fun y hy => ?_, ih hA.2 fun z hz => h z (by simp [hz])⟩
    rcases List.mem_append.1 hy with hy | hy
    · exact hA.1 y hy
    · exact h x (by simp) y hy
theorem mono_one (x : Int) : mono [x] := ⟨fun y hy => by simp at hy, trivial⟩
theorem mono_replicate (n : Nat) (x : Int) : mono (List.replicate n x) := by
  induction n with
  | zero => trivial
  | succ n ih => exact ⟨fun y hy => by have := List.eq_of_mem_replicate hy; omega, ih⟩
theorem eqc_replicate (k : Int) (n : Nat) (x : Int) : eqc k (List.replicate n x) = if x = k then (n : Int) else 0 := by
  induction n with
  | zero => simp [eqc]
  | succ n ih =>
    rw [List.replicate_succ, eqc_cons, ih]
    split <;> omega
/-- the two-way merge of the program, n steps: what has been laid, how many of the first, of the second -/
def um (P Q : Nat → Int) : Nat → List Int × Nat × Nat
  | 0 => ([], 0, 0)
  | n + 1 =>
    let s := um P Q n
    if Q s.2.2 ≤ P s.2.1 then (s.1 ++ [P s.2.1], s.2.1 + 1, s.2.2) else (s.1 ++ [Q s.2.2], s.2.1, s.2.2 + 1)
theorem um_step_yes (P Q : Nat → Int) (n : Nat) (h : Q (um P Q n).2.2 ≤ P (um P Q n).2.1) : um P Q (n + 1) = ((um P Q n).1 ++ [P (um P Q n).2.1], (um P Q n).2.1 + 1, (um P Q n).2.2) := by
  simp only [um]; rw [if_pos h]
theorem um_step_no (P Q : Nat → Int) (n : Nat) (h : ¬ Q (um P Q n).2.2 ≤ P (um P Q n).2.1) : um P Q (n + 1) = ((um P Q n).1 ++ [Q (um P Q n).2.2], (um P Q n).2.1, (um P Q n).2.2 + 1) := by
  simp only [um]; rw [if_neg h]
theorem um_count (P Q : Nat → Int) (n : Nat) : (um P Q n).2.1 + (um P Q n).2.2 = n ∧ (um P Q n).1.length = n := by
  induction n with
  | zero => exact ⟨rfl, rfl⟩
  | succ n ih =>
    by_cases h : Q (um P Q n).2.2 ≤ P (um P Q n).2.1
    · rw [um_step_yes P Q n h]
      simp only [List.length_append, List.length_cons, List.length_nil]
      omega
    · rw [um_step_no P Q n h]
      simp only [List.length_append, List.length_cons, List.length_nil]
      omega
def pre (P : Nat → Int) (i : Nat) : List Int := (List.range i).map P
theorem pre_succ (P : Nat → Int) (i : Nat) : pre P (i + 1) = pre P i ++ [P i] := by unfold pre; rw [List.range_succ, List.map_append]; rfl
theorem um_inv (P Q : Nat → Int) (hP : ∀ i, P (i + 1) ≤ P i) (hQ : ∀ i, Q (i + 1) ≤ Q i) (n : Nat) :
    mono (um P Q n).1 ∧ (∀ y ∈ (um P Q n).1, P (um P Q n).2.1 ≤ y ∧ Q (um P Q n).2.2 ≤ y) ∧ ∀ v, eqc v (um P Q n).1 = eqc v (pre P (um P Q n).2.1) + eqc v (pre Q (um P Q n).2.2) := by
  induction n with
  | zero => exact ⟨trivial, fun y hy => by simp [um] at hy, fun v => rfl⟩
  | succ n ih =>
    obtain ⟨h1, h2, h3⟩ := ih
    by_cases h : Q (um P Q n).2.2 ≤ P (um P Q n).2.1
    · rw [um_step_yes P Q n h]
      refine ⟨mono_append h1 (mono_one _) fun x hx y hy => ?_, fun y hy => ?_, fun v => ?_⟩
      · rw [List.mem_singleton] at hy
        subst hy
        exact (h2 x hx).1
      · have hp := hP (um P Q n).2.1
        rcases List.mem_append.1 hy with hy | hy
        · have := h2 y hy
          exact ⟨Int.le_trans hp this.1, this.2⟩
        · rw [List.mem_singleton] at hy
          subst hy
          exact ⟨hp, h⟩
      · show eqc v _ = eqc v (pre P ((um P Q n).2.1 + 1)) + eqc v (pre Q (um P Q n).2.2)
        rw [pre_succ, eqc_append, eqc_append, h3]
        omega
    · rw [um_step_no P Q n h]
      refine ⟨mono_append h1 (mono_one _) fun x hx y hy => ?_, fun y hy => ?_, fun v => ?_⟩
      · rw [List.mem_singleton] at hy
        subst hy
        exact (h2 x hx).2
      · have hp := hQ (um P Q n).2.2
        rcases List.mem_append.1 hy with hy | hy
        · have := h2 y hy
          exact ⟨this.1, Int.le_trans hp this.2⟩
        · rw [List.mem_singleton] at hy
          subst hy
          exact ⟨Int.le_of_lt (Int.not_le.1 h), hp⟩
      · show eqc v _ = eqc v (pre P (um P Q n).2.1) + eqc v (pre Q ((um P Q n).2.2 + 1))
        rw [pre_succ, eqc_append, eqc_append, h3]
        omega
theorem pre_parts {L : List Int} (i : Nat) (h : L.length ≤ i) : pre (fun i => L.getD i 0) i = L ++ List.replicate (i - L.length) 0 := by
  apply List.ext_getElem
  · simp [pre]; omega
  · intro j h1 h2
    simp only [pre, List.getElem_map, List.getElem_range]
    rcases Nat.lt_or_ge j L.length with h3 | h3
    · rw [List.getElem_append_left h3, getD_lt h3]
    · rw [List.getElem_append_right h3, getD_ge h3]; simp
/-- all of both, the greatest first, behind them noughts -/
theorem um_end {P Q M : List Int} (h : two P Q = true) (hM : mono M) (hMe : ∀ k, eqc k M = eqc k P + eqc k Q) (hMl : M.length = P.length + Q.length) (hM1 : ∀ x ∈ M, 1 ≤ x) : (um (fun i => P.getD i 0) (fun i => Q.getD i 0) 16).1 = pad M := by
  obtain ⟨hp, hq, hs⟩ := two_out h
  have hbp := valid_bd hp
  have hbq := valid_bd hq
  have hfp : ∀ i, P.getD (i + 1) 0 ≤ P.getD i 0 := fun i => by have := getD_fall hp (i + 1) (by omega); simpa using this
  have hfq : ∀ i, Q.getD (i + 1) 0 ≤ Q.getD i 0 := fun i => by have := getD_fall hq (i + 1) (by omega); simpa using this
  obtain ⟨h1, h2, h3⟩ := um_inv (fun i => P.getD i 0) (fun i => Q.getD i 0) hfp hfq 16
  obtain ⟨h4, h5⟩ := um_count (fun i => P.getD i 0) (fun i => Q.getD i 0) 16
  generalize (um (fun i => P.getD i 0) (fun i => Q.getD i 0) 16).1 = U at *
  generalize (um (fun i => P.getD i 0) (fun i => Q.getD i 0) 16).2.1 = i at *
  generalize (um (fun i => P.getD i 0) (fun i => Q.getD i 0) 16).2.2 = k at *
  have noz : ∀ (hn : ∀ y ∈ U, 1 ≤ y), eqc 0 U = 0 := fun hn => by
    rcases Int.lt_or_le 0 (eqc 0 U) with h | h
    · have := hn 0 (eqc_mem h); omega
    · have := (eqc_bd 0 U).1; omega
  have zer : ∀ (L : List Int) (n : Nat), eqc 0 (pre (fun i => L.getD i 0) n) = 0 → n ≤ L.length := fun L n hz => by
    rcases Nat.lt_or_ge L.length n with h | h
    · rw [pre_parts n (by omega), eqc_append, eqc_replicate, if_pos rfl] at hz
      have := (eqc_bd 0 L).1
      omega
    · exact h
  have hi : P.length ≤ i := by
    rcases Nat.lt_or_ge i P.length with h | h
    · have hz := noz fun y hy => by have := (h2 y hy).1; have := getD_pos hp h; omega
      have h0 := h3 0
      rw [hz] at h0
      have a := (eqc_bd 0 (pre (fun i => P.getD i 0) i)).1
      have b := (eqc_bd 0 (pre (fun i => Q.getD i 0) k)).1
      have := zer Q k (by omega)
      omega
    · exact h
  have hk : Q.length ≤ k := by
    rcases Nat.lt_or_ge k Q.length with h | h
    · have hz := noz fun y hy => by have := (h2 y hy).2; have := getD_pos hq h; omega
      have h0 := h3 0
      rw [hz] at h0
      have a := (eqc_bd 0 (pre (fun i => P.getD i 0) i)).1
      have b := (eqc_bd 0 (pre (fun i => Q.getD i 0) k)).1
      have := zer P i (by omega)
      omega
    · exact h
  apply mono_eq h1
  · unfold pad
    refine mono_append hM (mono_replicate _ _) fun x hx y hy => ?_
    have := List.eq_of_mem_replicate hy
    have := hM1 x hx
    omega
  · intro v
    rw [h3, pre_parts i hi, pre_parts k hk]
    unfold pad
    rw [eqc_append, eqc_append, eqc_append, eqc_replicate, eqc_replicate, eqc_replicate, hMe]
    split <;> omega
end NP
end Go.Proofs.Ytgkghebjaedjmaa
namespace Go.Proofs.Ytgkghebjaedjmaa
open Go.RowKit NP
set_option maxRecDepth 8000
set_option linter.unusedVariables false
theorem i64_xor_nonneg (a b : Int) (ha : 0 ≤ a) (ha2 : a < 4611686018427387904) (hb : 0 ≤ b) (hb2 : b < 4611686018427387904) : 0 ≤ bits .xor .i64 a b ∧ bits .xor .i64 a b < 4611686018427387904 := by
  obtain ⟨x, rfl⟩ := Int.eq_ofNat_of_zero_le ha
  obtain ⟨y, rfl⟩ := Int.eq_ofNat_of_zero_le hb
  have hx : x ^^^ y < 2 ^ 62 := Nat.xor_lt_two_pow (by omega) (by omega)
  have h1 : (BitVec.ofInt 64 (x : Int)).toNat = x := by
    rw [BitVec.ofInt_natCast, BitVec.toNat_ofNat]; exact Nat.mod_eq_of_lt (by omega)
  have h2 : (BitVec.ofInt 64 (y : Int)).toNat = y := by
    rw [BitVec.ofInt_natCast, BitVec.toNat_ofNat]; exact Nat.mod_eq_of_lt (by omega)
  have e : bits .xor .i64 (x : Int) (y : Int) = ((x ^^^ y : Nat) : Int) := by
    show IntKind.i64.wrap ((BitVec.ofInt 64 (x : Int) ^^^ BitVec.ofInt 64 (y : Int)).toNat : Int) = _
    rw [BitVec.toNat_xor, h1, h2, IntKind.wrap_i64]
    omega
  rw [e]
  omega
theorem w64 (x : Int) (h : -9223372036854775808 ≤ x ∧ x ≤ 9223372036854775807) : IntKind.i64.wrap x = x := IntWalk.i64_in _ h
theorem tmod_nat (q N : Nat) : (q : Int).tmod (N : Int) = ((q % N : Nat) : Int) := by rw [Int.tmod_eq_emod_of_nonneg (by omega)]; simp
theorem tdiv_nat (q N : Nat) : (q : Int).tdiv (N : Int) = ((q / N : Nat) : Int) := by rw [Int.tdiv_eq_ediv_of_nonneg (by omega)]; simp

/-- block g is a reader over the bytes bs, of which q picks have been made -/
structure Rdr (w : World) (g : Nat) (bs : List Int) (q : Nat) : Prop where
  blk : ∃ a c, Blk w g 110 #[.slice a bs.length c, .int .i64 q] ∧ Rd w g a (bs.map (Value.int .u8))
  len : bs.length ≤ 2000
  byte : ∀ k (h : k < bs.length), 0 ≤ bs[k] ∧ bs[k] ≤ 255
theorem Rdr.lt {w : World} {g : Nat} {bs : List Int} {q : Nat} (h : Rdr w g bs q) : g < w.heap.size := by
  obtain ⟨a, c, h1, h2⟩ := h.blk
  exact h1.lt
theorem Rdr.below {w w' : World} {g : Nat} {bs : List Int} {q : Nat} (h : Rdr w g bs q) (hb : Below (g + 1) w w') : Rdr w' g bs q := by
  obtain ⟨a, c, h1, h2⟩ := h.blk
  exact ⟨⟨a, c, h1.below hb (by omega), h2.below (hb.mono (by omega))⟩, h.len, h.byte⟩
theorem Rdr.dr {w w' : World} {g : Nat} {bs : List Int} {q : Nat} (h : Rdr w g bs q) (hd : Dr w w') : Rdr w' g bs q := h.below (hd.below _)
theorem Rdr.picked {w : World} {g : Nat} {bs : List Int} {q : Nat} (h : Rdr w g bs q) (n : Nat) :
    Rdr ((w.setCell ⟨g, 1, none⟩ (.int .i64 ((q : Int) + 1))).drewN n) g bs (q + 1) ∧ w.grownBy ((w.setCell ⟨g, 1, none⟩ (.int .i64 ((q : Int) + 1))).drewN n) (some g) ∧ ((w.setCell ⟨g, 1, none⟩ (.int .i64 ((q : Int) + 1))).drewN n).heap.size = w.heap.size := by
  obtain ⟨a, c, h1, h2⟩ := h.blk
  have e : w.grownBy ((w.setCell ⟨g, 1, none⟩ (.int .i64 ((q : Int) + 1))).drewN n) (some g) :=
    ⟨rfl, rfl, rfl, by simp [World.setCell], fun k hk hne => Below.heap_setCell w _ _ k (by rintro rfl; exact hne rfl)⟩
  refine ⟨⟨⟨a, c, (h1.set 1 _).drewN n, ?_⟩, h.len, h.byte⟩, e, by simp [World.setCell]⟩
  exact h2.below (((Below.refl g w).setCell (by simp) _).trans ((Dr.n _ n).below g))
theorem Rdr.slot {w : World} {g : Nat} {bs : List Int} {q : Nat} {k : Nat} {a : Option Addr} (h2 : Rd w g a (bs.map (Value.int .u8))) (hk : k < bs.length) : ∃ b o, a = some ⟨b, o, none⟩ ∧ b < g ∧ ∀ j (h : j < bs.length), w.cell? ⟨b, o + j, none⟩ = some (.int .u8 bs[j]) := by
  obtain ⟨b, o, h3, h4, h5⟩ := h2 (by intro e; simp at e; subst e; simp at hk)
  exact ⟨b, o, h3, h4, fun j hj => h5 j _ (by simp [hj])⟩

def Picked (g : Nat) (bs : List Int) (q : Nat) (n : Int) (w : World) (e : Ending) (w' : World) : Prop :=
  ∃ x : Int, e = .returned (.int .i64 x) ∧ 0 ≤ x ∧ (1 ≤ n → x < n) ∧ Rdr w' g bs (q + 1) ∧ w.grownBy w' (some g) ∧ w'.heap.size = w.heap.size

theorem pick_low (g q : Nat) (n : Int) (bs : List Int) (w : World) (hn : n < 1) (hq : q ≤ 1000000) (h : Rdr w g bs q) :
    Calls Try.prog 87 #[.pointer (some ⟨g, 0, none⟩), .int .i64 n] w (Picked g bs q n w) := by
  obtain ⟨a, c, hb, hr⟩ := h.blk
  have HP := Lib.hid h.picked
  have hc0 := hb.cell 0
  have hc1 := hb.cell 1
  have hf1 := hb.free 1
  simp at hc0 hc1
  go_enter Try.func87, Try.ntmps87
  go_wp2_with fail
  go_ret
  have hp := HP.out 0
  exact ⟨0, rfl, by omega, by omega, hp.1, hp.2.1, hp.2.2⟩

theorem pick_bare (g q : Nat) (n : Int) (w : World) (hn : 1 ≤ n) (hq : q ≤ 1000000) (h : Rdr w g [] q) :
    Calls Try.prog 87 #[.pointer (some ⟨g, 0, none⟩), .int .i64 n] w (Picked g [] q n w) := by
  obtain ⟨a, c, hb, hr⟩ := h.blk
  have HP := Lib.hid h.picked
  have hc0 := hb.cell 0
  have hc1 := hb.cell 1
  have hf1 := hb.free 1
  simp at hc0 hc1
  go_enter Try.func87, Try.ntmps87
  go_wp2_with fail
  go_ret
  have hp := HP.out 0
  exact ⟨0, rfl, by omega, by omega, hp.1, hp.2.1, hp.2.2⟩

theorem pick_near (g q : Nat) (n : Int) (bs : List Int) (w : World) (hn : 1 ≤ n) (hn2 : n ≤ 4294967296) (hq : q ≤ 1000000) (h : Rdr w g bs q) (hlt : q < bs.length) :
    Calls Try.prog 87 #[.pointer (some ⟨g, 0, none⟩), .int .i64 n] w (Picked g bs q n w) := by
  obtain ⟨a, c, hb, hr⟩ := h.blk
  have HP := Lib.hid h.picked
  obtain ⟨b, o, rfl, hbg, hcell⟩ := Rdr.slot (q := q) hr hlt
  have hne : b ≠ g := by omega
  have hl := h.len
  have hc0 := hb.cell 0
  have hc1 := hb.cell 1
  have hf1 := hb.free 1
  simp at hc0 hc1
  have hv := h.byte q hlt
  have hcx := hcell q hlt
  clear hcell h
  obtain ⟨x1, hx1⟩ : ∃ x1, x1 = bs[q] := ⟨_, rfl⟩
  rw [← hx1] at hcx hv
  clear hx1
  obtain ⟨N, hN⟩ : ∃ N, N = bs.length := ⟨_, rfl⟩
  rw [← hN] at hc0 hlt hl
  clear hN hb hr
  have hN0 : ¬ N = 0 := by omega
  have hl1 : ((N : Int) == 0) = false := by simp; omega
  go_enter Try.func87, Try.ntmps87
  go_wp2_with fail
  go_ret
  have hp := HP.out 0
  refine ⟨x1 % n, rfl, Int.emod_nonneg _ (by omega), fun _ => Int.emod_lt_of_pos _ (by omega), hp.1, hp.2.1, hp.2.2⟩

set_option maxHeartbeats 400000 in
theorem pick_far (g q : Nat) (n : Int) (bs : List Int) (w : World) (hn : 1 ≤ n) (hn2 : n ≤ 4294967296) (hq : q ≤ 1000000) (h : Rdr w g bs q) (h0 : 0 < bs.length) (hq2 : bs.length ≤ q) :
    Calls Try.prog 87 #[.pointer (some ⟨g, 0, none⟩), .int .i64 n] w (Picked g bs q n w) := by
  obtain ⟨a, c', hb, hr⟩ := h.blk
  have HP := Lib.hid h.picked
  obtain ⟨b, o, rfl, hbg, hcell⟩ := Rdr.slot (q := q) hr h0
  have hlen := h.len
  have c1 := hcell _ (Nat.mod_lt q h0)
  have c2 := hcell _ (Nat.mod_lt (q * 7 + 3) h0)
  have v1 := h.byte _ (Nat.mod_lt q h0)
  have v2 := h.byte _ (Nat.mod_lt (q * 7 + 3) h0)
  clear hcell h
  obtain ⟨x1, hx1⟩ : ∃ x, x = bs[q % bs.length]'(Nat.mod_lt q h0) := ⟨_, rfl⟩
  obtain ⟨x2, hx2⟩ : ∃ x, x = bs[(q * 7 + 3) % bs.length]'(Nat.mod_lt _ h0) := ⟨_, rfl⟩
  rw [← hx1] at c1 v1
  rw [← hx2] at c2 v2
  clear hx1 hx2
  obtain ⟨N, hN⟩ : ∃ N, N = bs.length := ⟨_, rfl⟩
  rw [← hN] at hb c1 c2 h0 hq2 hlen
  clear hN hr
  have hc0 := hb.cell 0
  have hc1 := hb.cell 1
  have hf1 := hb.free 1
  simp at hc0 hc1
  have hne : b ≠ g := by omega
  have hl1 : ((N : Int) == 0) = false := by simp; omega
  have hl2 : (0 : Int) < (N : Int) := by omega
  have hN0 : ¬ N = 0 := by omega
  have hqN : q / N ≤ q := Nat.div_le_self _ _
  obtain ⟨i1, hi1, m1, e1⟩ : ∃ i1 : Nat, q % N = i1 ∧ i1 < N ∧ (q : Int).tmod (N : Int) = (i1 : Int) := ⟨_, rfl, Nat.mod_lt _ h0, tmod_nat q N⟩
  obtain ⟨i2, hi2, m2, e4'⟩ : ∃ i2 : Nat, (q * 7 + 3) % N = i2 ∧ i2 < N ∧ ((q * 7 + 3 : Nat) : Int).tmod (N : Int) = (i2 : Int) := ⟨_, rfl, Nat.mod_lt _ h0, tmod_nat _ N⟩
  obtain ⟨r1, hr1, e2⟩ : ∃ r1 : Int, r1 = ((q * 7 : Nat) : Int) ∧ IntKind.i64.wrap ((q : Int) * 7) = r1 := ⟨_, rfl, by rw [w64 _ (by omega)]; simp⟩
  obtain ⟨r2, hr2, e3⟩ : ∃ r2 : Int, r2 = ((q * 7 + 3 : Nat) : Int) ∧ IntKind.i64.wrap (r1 + 3) = r2 := ⟨_, rfl, by rw [hr1, w64 _ (by omega)]; simp⟩
  rw [← hr2] at e4'
  rw [hi1] at c1
  rw [hi2] at c2
  obtain ⟨d, hd, e12, e12'⟩ : ∃ d : Int, (0 ≤ d ∧ d ≤ 1000000) ∧ IntKind.i64.wrap ((q : Int).tdiv (N : Int)) = d ∧ IntKind.i64.wrap ((q : Int) / (N : Int)) = d := by
    obtain ⟨dd, hdd, hdq⟩ : ∃ dd : Nat, q / N = dd ∧ dd ≤ q := ⟨_, rfl, Nat.div_le_self _ _⟩
    have e : ((q : Int) / (N : Int)) = (dd : Int) := by rw [← hdd]; simp
    refine ⟨(dd : Int), by omega, by rw [tdiv_nat, hdd, w64 _ (by omega)], by rw [e, w64 _ (by omega)]⟩
  obtain ⟨y1, hy1, e7⟩ : ∃ y : Int, (0 ≤ y ∧ y ≤ 100000) ∧ IntKind.i64.wrap (x1 * 131) = y := ⟨_, by rw [w64 _ (by omega)]; omega, rfl⟩
  obtain ⟨y2, hy2, e8⟩ : ∃ y : Int, (0 ≤ y ∧ y ≤ 1000000) ∧ IntKind.i64.wrap (x2 * 1117) = y := ⟨_, by rw [w64 _ (by omega)]; omega, rfl⟩
  obtain ⟨y3, hy3, e9⟩ : ∃ y : Int, (0 ≤ y ∧ y ≤ 2000000) ∧ IntKind.i64.wrap (y1 + y2) = y := ⟨_, by rw [w64 _ (by omega)]; omega, rfl⟩
  obtain ⟨y4, hy4, e10⟩ : ∃ y : Int, (0 ≤ y ∧ y ≤ 100000000) ∧ IntKind.i64.wrap ((q : Int) * 29) = y := ⟨_, by rw [w64 _ (by omega)]; omega, rfl⟩
  obtain ⟨y5, hy5, e11⟩ : ∃ y : Int, (0 ≤ y ∧ y ≤ 200000000) ∧ IntKind.i64.wrap (y3 + y4) = y := ⟨_, by rw [w64 _ (by omega)]; omega, rfl⟩
  obtain ⟨y6, hy6, e13⟩ : ∃ y : Int, (0 ≤ y ∧ y ≤ 100000000) ∧ IntKind.i64.wrap (d * 53) = y := ⟨_, by rw [w64 _ (by omega)]; omega, rfl⟩
  obtain ⟨y7, hy7, e14⟩ : ∃ y : Int, (0 ≤ y ∧ y ≤ 400000000) ∧ IntKind.i64.wrap (y5 + y6) = y := ⟨_, by rw [w64 _ (by omega)]; omega, rfl⟩
  have e5 : IntKind.i64.wrap x1 = x1 := w64 _ (by omega)
  have e6 : IntKind.i64.wrap x2 = x2 := w64 _ (by omega)
  clear hi1 hi2 hr1 hr2
  have hi1' : (0 : Int) ≤ (i1 : Int) := by omega
  have hi2' : (0 : Int) ≤ (i2 : Int) := by omega
  have hi1'' : (i1 : Int) < (N : Int) := by omega
  have hi2'' : (i2 : Int) < (N : Int) := by omega
  go_enter Try.func87, Try.ntmps87
  go_wp2_with fail
  go_quiet (fail)
  go_wp2
  go_ret
  have hp := HP.out nq
  have hx := i64_xor_nonneg y7 (y7 / 64) (by omega) (by omega) (by omega) (by omega)
  have ht : (bits .xor .i64 y7 (y7 / 64)).tmod n = (bits .xor .i64 y7 (y7 / 64)) % n := Int.tmod_eq_emod_of_nonneg hx.1
  refine ⟨_, rfl, ?_, fun _ => ?_, hp.1, hp.2.1, hp.2.2⟩
  · show 0 ≤ (bits .xor .i64 y7 (y7 / 64)).tmod n
    rw [ht]; exact Int.emod_nonneg _ (by omega)
  · show (bits .xor .i64 y7 (y7 / 64)).tmod n < n
    rw [ht]; exact Int.emod_lt_of_pos _ (by omega)

theorem pick_any (g q : Nat) (n : Int) (bs : List Int) (w : World) (hn2 : n ≤ 4294967296) (hq : q ≤ 1000000) (h : Rdr w g bs q) :
    Calls Try.prog 87 #[.pointer (some ⟨g, 0, none⟩), .int .i64 n] w (Picked g bs q n w) := by
  by_cases hn : n < 1
  · exact pick_low g q n bs w hn hq h
  · rcases Nat.eq_zero_or_pos bs.length with h0 | h0
    · obtain rfl := List.eq_nil_of_length_eq_zero h0
      exact pick_bare g q n w (by omega) hq h
    · rcases Nat.lt_or_ge q bs.length with h1 | h1
      · exact pick_near g q n bs w (by omega) hn2 hq h h1
      · exact pick_far g q n bs w (by omega) hn2 hq h h0 h1

/-- .one(list): one of the numbers of a list -/
theorem one_any (g q B c : Nat) (a : Option Addr) (M : List Int) (bs : List Int) (w : World) (hM : 0 < M.length) (hM2 : M.length ≤ 4294967296) (hq : q ≤ 1000000) (h : Rdr w g bs q) (hr : Rd w B a (ints M)) (hB : ∀ b o, a = some ⟨b, o, none⟩ → b ≠ g) :
    Calls Try.prog 60 #[.pointer (some ⟨g, 0, none⟩), .slice a M.length c] w fun e w' => ∃ k, ∃ hk : k < M.length, e = .returned (.int .i64 M[k]) ∧ Rdr w' g bs (q + 1) ∧ w.grownBy w' (some g) ∧ w'.heap.size = w.heap.size := by
  go_enter Try.func60, Try.ntmps60
  go_wp2_with fail
  refine (pick_any g q _ bs _ (by omega) hq h).mono ?_
  rintro e w1 ⟨x, rfl, hx0, hx1, h1, hg1, hs1⟩
  obtain ⟨k, rfl⟩ := Int.eq_ofNat_of_zero_le hx0
  have hk : k < M.length := by have := hx1 (by omega); omega
  obtain ⟨b, o, rfl, hb, hc⟩ := hr.at_ hk
  have hlt := World.block_lt_of_cell? _ _ hc
  have hc' : w1.cell? ⟨b, o + k, none⟩ = some (.int .i64 M[k]) := (World.cell?_of_block (hg1.block b hlt (by have := hB b o rfl; simpa using this))).trans hc
  clear hx1
  go_wp2_with fail
  go_ret
  exact ⟨k, hk, rfl, h1, hg1, hs1⟩

theorem rd_new (w : World) (cs : Array Value) (t : TypeId) : Rd (w.alloc (.cells cs t)) (w.heap.size + 1) (some ⟨w.heap.size, 0, none⟩) cs.toList := fun _ =>
  ⟨w.heap.size, 0, rfl, by omega, fun k v hk => by rw [Nat.zero_add, (show (w.alloc (.cells cs t)).heap[w.heap.size]? = some (.cells cs t (0, 0)) from heap_alloc_new w _) |> cell_of_row _ w.heap.size k cs t (0, 0)]; simpa using hk⟩

/-- block g alone, and new blocks, have turned -/
theorem chg_trans {a b c : World} {g : Nat} (h : a.grownBy b (some g)) (k : b.grownBy c (some g)) : a.grownBy c (some g) :=
  ⟨k.os.trans h.os, k.tape.trans h.tape, k.output.trans h.output, Nat.le_trans h.size k.size, fun i hi hne => (k.block i (Nat.lt_of_lt_of_le hi h.size) hne).trans (h.block i hi hne)⟩
theorem chg_alloc {a b : World} {g : Nat} (h : a.grownBy b (some g)) (o : Obj) : a.grownBy (b.alloc o) (some g) :=
  chg_trans h (World.grownBy_alloc b o _)
theorem chg_below {a b c : World} {g : Nat} (h : a.grownBy b (some g)) (k : Below a.heap.size b c) : a.grownBy c (some g) :=
  ⟨k.os.trans h.os, k.tape.trans h.tape, k.output.trans h.output, Nat.le_trans h.size k.size, fun i hi hne => (k.block i hi).trans (h.block i hi hne)⟩
theorem chg_row {a b c : World} {g : Nat} {row : Option Nat} (h : a.grownBy b (some g)) (k : b.grownBy c row) (hr : ∀ x, row = some x → a.heap.size ≤ x) : a.grownBy c (some g) :=
  chg_below h ((Below.refl a.heap.size b).grown k h.size hr)
theorem chg_low {a b : World} {g : Nat} (h : a.grownBy b (some g)) : Below g a b ∨ a.heap.size ≤ g := by
  rcases Nat.lt_or_ge g a.heap.size with hg | hg
  · exact .inl ⟨h.os, h.tape, h.output, h.size, fun k hk => h.block k (by omega) (by simp; omega)⟩
  · exact .inr hg
theorem Rdr.row {w w' : World} {g : Nat} {bs : List Int} {q : Nat} {row : Option Nat} (h : Rdr w g bs q) (hg : w.grownBy w' row) (hr : ∀ x, row = some x → g < x) : Rdr w' g bs q :=
  h.below ((Below.refl (g + 1) w).grown hg h.lt fun k hk => hr k hk)

theorem Own.chg {w w' : World} {lo hi g : Nat} {e : TypeId} {v : Value} {vs : List Value} (h : Own w lo hi e v vs) (hg : w.grownBy w' (some g)) (hlt : g < lo) : Own w' lo hi e v vs :=
  h.grown hg (.inr fun e => by have := h.base g e; omega)

theorem newReader_any (a : Option Addr) (c B : Nat) (bs : List Int) (w : World) (h : Rd w B a (bs.map (Value.int .u8))) (hB : B ≤ w.heap.size) (hb : ∀ n ∈ bs, (Lit.int .u8 n).wf = true) (hl : bs.length ≤ 1048576) (hc : bs.length ≤ c) :
    Calls Try.prog 59 #[.slice a bs.length c] w fun e w' => e = .returned (.pointer (some ⟨w.heap.size, 0, none⟩)) ∧ Rdr w' w.heap.size (bs.take 2000) 0 ∧ Below w.heap.size w w' ∧ w'.heap.size = w.heap.size + 1 := by
  have hbb : ∀ k (h : k < (bs.take 2000).length), 0 ≤ (bs.take 2000)[k] ∧ (bs.take 2000)[k] ≤ 255 := by
    intro k hk
    have := hb (bs.take 2000)[k] (List.mem_of_mem_take (List.getElem_mem hk))
    generalize (bs.take 2000)[k] = x at this ⊢
    simp [Lit.wf, IntKind.min, IntKind.max, IntKind.bits, IntKind.signed] at this
    omega
  by_cases h2 : 2000 < bs.length
  · have hcell : ∃ b o, a = some ⟨b, o, none⟩ := by
      obtain ⟨b, o, h1, _⟩ := h (by intro e; simp at e; subst e; simp at h2)
      exact ⟨b, o, h1⟩
    obtain ⟨b, o, rfl⟩ := hcell
    have hlen : (bs.take 2000).length = 2000 := by simp; omega
    have hc2 : (2000 : Int) ≤ (c : Int) := by omega
    have hR : Rd w w.heap.size (some ⟨b, o, none⟩) ((bs.take 2000).map (Value.int .u8)) := by have := (h.more hB).take 2000; rwa [← List.map_take] at this
    have hr : ∀ c', Rdr (w.alloc (.cells #[.slice (some ⟨b, o, none⟩) 2000 c', .int .i64 0] 110)) w.heap.size (bs.take 2000) 0 := fun c' =>
      ⟨⟨_, c', by rw [hlen]; exact Blk.new w _ _, hR.alloc (Nat.le_refl _) _⟩, by rw [hlen]; omega, hbb⟩
    have HR := Lib.hid hr
    clear hr hlen hbb hb
    go_enter Try.func59, Try.ntmps59
    go_wp2_with fail
    go_ret
    exact ⟨rfl, HR.out _, (Below.refl _ _).alloc (Nat.le_refl _) _, by simp⟩
  · have hlen : bs.take 2000 = bs := List.take_of_length_le (by omega)
    rw [hlen] at hbb ⊢
    have hr : Rdr (w.alloc (.cells #[.slice a bs.length c, .int .i64 0] 110)) w.heap.size bs 0 :=
      ⟨⟨_, c, Blk.new w _ _, (h.more hB).alloc (Nat.le_refl _) _⟩, by omega, hbb⟩
    have HR := Lib.hid hr
    clear hr hlen hbb hb
    go_enter Try.func59, Try.ntmps59
    go_wp2_with fail
    go_ret
    exact ⟨rfl, HR.out, (Below.refl _ _).alloc (Nat.le_refl _) _, by simp⟩
end Go.Proofs.Ytgkghebjaedjmaa
namespace Go.Proofs.Ytgkghebjaedjmaa
open Go.RowKit NP
set_option maxRecDepth 8000
set_option linter.unusedVariables false
attribute [local go_sem ↓] Go.wp_at_zero Go.wp_at_succ
/-- where x goes -/
def posOf (x : Int) (M : List Int) : Nat := ff (fun (j : Nat) => decide (x ≤ M.getD j 0)) M.length
def insK (M : List Int) (x : Int) : List Int := M.take (posOf x M) ++ x :: M.drop (posOf x M)
def mrg (L : List Int) : List Int := L.foldl insK []
end Go.Proofs.Ytgkghebjaedjmaa
