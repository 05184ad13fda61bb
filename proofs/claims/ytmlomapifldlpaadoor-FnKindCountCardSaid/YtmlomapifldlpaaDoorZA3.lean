/-
  Plain mathematics of corners, diagonals, cells taken away and put. Plain mathematics of cells taken away and put. Plain mathematics of added parts. Plain mathematics of the promises of times and corners. Plain mathematics of united parts: sorted lists with the same numbers are the same; two sorted lists merged. A door: the drawing of parts (D3a), with the words of W4. Plain mathematics of united and added parts: conjugates turn one into the other. Mathematics: squares cut off and put back; doubled parts. Plain mathematics of arms and legs (Frobenius). Plain mathematics: arms and legs of the parts that were made of them. Mathematics: kinds of parts; stairs, hooks of own conjugates, Franklin's map. Arrays of numbers compared.
-/
import Derived.Test.YtmlomapifldlpaaDoorZA1
import Derived.Test.YtmlomapifldlpaaDoorZA2
import Derived.ChangeKeysEq
namespace Go.Proofs.YtmlomapifldlpaaDoor
namespace NP
/-- corners of a padded row -/
def isCD (D : List Int) (i : Nat) : Bool := decide (0 < D.getD i 0) && (decide (i = 15) || decide (D.getD (i + 1) 0 < D.getD i 0))
def fl (p : Nat → Bool) (n : Nat) : List Int := ((List.range n).filter p).map Int.ofNat
theorem fl_succ (p : Nat → Bool) (n : Nat) : fl p (n + 1) = fl p n ++ if p n then [(n : Int)] else [] := by
  unfold fl
  rw [List.range_succ, List.filter_append, List.map_append]
  congr 1
  cases h : p n <;> simp [h]
theorem fl_len (p : Nat → Bool) (n : Nat) : (fl p n).length ≤ n := by
  unfold fl
  rw [List.length_map]
  exact Nat.le_trans (List.length_filter_le _ _) (by simp)
theorem fl_congr (p q : Nat → Bool) (n : Nat) (h : ∀ i, i < n → p i = q i) : fl p n = fl q n := by
  induction n with
  | zero => rfl
  | succ n ih => rw [fl_succ, fl_succ, ih (fun i hi => h i (by omega)), h n (by omega)]
theorem fl_no (p : Nat → Bool) (n m : Nat) (hm : n ≤ m) (h : ∀ i, n ≤ i → i < m → p i = false) : fl p m = fl p n := by
  induction m with
  | zero => obtain rfl : n = 0 := by omega
            rfl
  | succ m ih =>
    rcases Nat.lt_or_ge m n with h1 | h1
    · obtain rfl : n = m + 1 := by omega
      rfl
    · rw [fl_succ, h m h1 (by omega), ih h1 (fun i hi hi2 => h i hi (by omega))]
      simp
theorem crnTo_fl (L : List Int) (n : Nat) : crnTo L n = fl (isC L) n := rfl
theorem pad_getD {M : List Int} (h : M.length ≤ 16) (k : Nat) : (pad M).getD k 0 = M.getD k 0 := by
  rcases Nat.lt_or_ge k 16 with h1 | h1
  · rcases Nat.lt_or_ge k M.length with h2 | h2
    · rw [List.getD_eq_getElem?_getD, List.getElem?_eq_getElem (by rw [pad_len h]; omega), Option.getD_some, pad_get h h2, List.getD_eq_getElem?_getD, List.getElem?_eq_getElem h2]
      rfl
    · rw [List.getD_eq_getElem?_getD, List.getElem?_eq_getElem (by rw [pad_len h]; omega), Option.getD_some, pad_get0 h h2 h1, List.getD_eq_getElem?_getD, List.getElem?_eq_none h2]
      rfl
  · rw [List.getD_eq_getElem?_getD, List.getElem?_eq_none (by rw [pad_len h]; omega), List.getD_eq_getElem?_getD, List.getElem?_eq_none (by omega)]
theorem getD_pos {L : List Int} (hv : valid L = true) {i : Nat} (h : i < L.length) : 1 ≤ L.getD i 0 := by
  rw [List.getD_eq_getElem?_getD, List.getElem?_eq_getElem h, Option.getD_some]
  exact (preS_of_valid hv i h h).1
theorem getD_out {L : List Int} {i : Nat} (h : L.length ≤ i) : L.getD i 0 = 0 := by
  rw [List.getD_eq_getElem?_getD, List.getElem?_eq_none h]
  rfl
theorem isCD_pad {L : List Int} (hv : valid L = true) (i : Nat) : isCD (pad L) i = if i < L.length then isC L i else false := by
  have hl := (valid_bd hv).2.2.2
  unfold isCD isC
  rw [pad_getD hl, pad_getD hl]
  split
  · rename_i h
    have h1 := getD_pos hv h
    have e1 : decide (0 < L.getD i 0) = true := decide_eq_true (by omega)
    rw [e1, Bool.true_and]
    by_cases h15 : i = 15
    · have e2 : decide (i = 15) = true := decide_eq_true h15
      have e3 : decide (i + 1 = L.length) = true := decide_eq_true (by omega)
      rw [e2, e3]
    · have e2 : decide (i = 15) = false := decide_eq_false h15
      rw [e2, Bool.false_or]
      by_cases h3 : i + 1 = L.length
      · have e3 : decide (i + 1 = L.length) = true := decide_eq_true h3
        rw [e3, Bool.true_or, getD_out (by omega)]
        exact decide_eq_true (by omega)
      · have e3 : decide (i + 1 = L.length) = false := decide_eq_false h3
        rw [e3, Bool.false_or]
  · rename_i h
    rw [getD_out (by omega)]
    rfl
theorem crn_pad {L : List Int} (hv : valid L = true) : fl (isCD (pad L)) 16 = crn L := by
  have hl := (valid_bd hv).2.2.2
  rw [fl_no _ L.length 16 hl (fun i h1 _ => by rw [isCD_pad hv, if_neg (by omega)])]
  exact fl_congr _ _ _ fun i hi => by rw [isCD_pad hv, if_pos hi]
end NP
end Go.Proofs.YtmlomapifldlpaaDoor
namespace Go.Proofs.YtmlomapifldlpaaDoor
namespace NP
set_option linter.unusedVariables false
def hasI (M : List Int) (n : Int) : Bool := decide (n ∈ M)
theorem hasI_fl (p : Nat → Bool) (n : Nat) (i : Int) : hasI (fl p n) i = (decide (0 ≤ i) && decide (i < n) && p i.toNat) := by
  unfold hasI fl
  by_cases h0 : 0 ≤ i
  · obtain ⟨k, rfl⟩ := Int.eq_ofNat_of_zero_le h0
    have e : ((k : Int) ∈ ((List.range n).filter p).map Int.ofNat) ↔ (k < n ∧ p k = true) := by
      simp only [List.mem_map, List.mem_filter, List.mem_range]
      constructor
      · rintro ⟨a, ha, e⟩
        have : (a : Int) = (k : Int) := e
        obtain rfl : a = k := by omega
        exact ha
      · intro h
        exact ⟨k, h, rfl⟩
    simp only [e, Int.toNat_natCast]
    cases hp : p k <;> simp
  · have e : ¬ (i ∈ ((List.range n).filter p).map Int.ofNat) := by
      simp only [List.mem_map]
      rintro ⟨a, _, e⟩
      have : (a : Int) = i := e
      omega
    simp [e, h0]
theorem hasI_cons (x : Int) (M : List Int) (n : Int) : hasI (x :: M) n = (decide (n = x) || hasI M n) := by
  unfold hasI
  simp
theorem sumL_set (L : List Int) (k : Nat) (h : k < L.length) (x : Int) : sumL (L.set k x) = sumL L - L[k] + x := by
  induction L generalizing k with
  | nil => simp at h
  | cons y r ih =>
    cases k with
    | zero => simp [sumL]; omega
    | succ k =>
      simp only [List.set_cons_succ, sumL, List.getElem_cons_succ]
      rw [ih k (by simpa using h)]
      omega
theorem elem_le_sum {L : List Int} (h : ∀ x ∈ L, 0 ≤ x) {q : Nat} (hq : q < L.length) : L[q] ≤ sumL L ∧ 0 ≤ sumL L := by
  induction L generalizing q with
  | nil => simp at hq
  | cons x r ih =>
    have hx := h x (by simp)
    have hr : 0 ≤ sumL r := by
      cases r with
      | nil => simp [sumL]
      | cons y t => exact (ih (fun z hz => h z (by simp [hz])) (q := 0) (by simp)).2
    cases q with
    | zero => simp [sumL]; omega
    | succ q =>
      have := (ih (fun z hz => h z (by simp [hz])) (q := q) (by simpa using hq)).1
      simp only [List.getElem_cons_succ, sumL]
      omega
/-- a cell less -/
def lessL (L : List Int) (k : Nat) : List Int := if L.getD k 0 - 1 = 0 then (L.set k (L.getD k 0 - 1)).take k else L.set k (L.getD k 0 - 1)
def rmvOk (L : List Int) (i : Int) : Bool := valid L && (decide (0 ≤ i) && decide (i < L.length) && isC L i.toNat)
def rmv (L : List Int) (i : Int) : List Int := if rmvOk L i then lessL L i.toNat else []
theorem isC_next {L : List Int} {k : Nat} (hk : k + 1 < L.length) (h : isC L k = true) : L.getD (k + 1) 0 < L.getD k 0 := by
  unfold isC at h
  rw [decide_eq_false (by omega), Bool.false_or] at h
  exact of_decide_eq_true h
theorem valid_set_less {L : List Int} (hv : valid L = true) {k : Nat} (hk : k < L.length) (hc : isC L k = true) (h1 : L.getD k 0 - 1 ≠ 0) : valid (L.set k (L.getD k 0 - 1)) = true := by
  have hp := preS_of_valid hv
  have hb := valid_bd hv
  have hg : L.getD k 0 = L[k] := getD_lt hk
  apply valid_of_preS
  · intro j hj _
    rw [List.length_set] at hj
    have hpj := hp j hj hj
    have hpk := hp k hk hk
    by_cases hjk : k = j
    · subst hjk
      rw [List.getElem_set_self]
      refine ⟨by omega, by omega, fun h0 => ?_⟩
      rw [List.getElem_set_ne (by omega)]
      have := hpk.2.2 h0
      omega
    · rw [List.getElem_set_ne hjk]
      refine ⟨hpj.1, hpj.2.1, fun h0 => ?_⟩
      by_cases hj1 : k = j - 1
      · subst hj1
        rw [List.getElem_set_self]
        have hn := isC_next (L := L) (k := j - 1) (by omega) hc
        rw [getD_lt (by omega), getD_lt (by omega)] at hn
        have e : L[j - 1 + 1]'(by omega) = L[j] := by congr 1; omega
        rw [e] at hn
        omega
      · rw [List.getElem_set_ne hj1]
        exact hpj.2.2 h0
  · rw [sumL_set _ _ hk]; omega
theorem less_last {L : List Int} (hv : valid L = true) {k : Nat} (hk : k < L.length) (hc : isC L k = true) (h1 : L.getD k 0 - 1 = 0) : k + 1 = L.length := by
  rcases Nat.lt_or_ge (k + 1) L.length with h | h
  · have := isC_next h hc
    have := getD_pos hv h
    omega
  · omega
theorem valid_less {L : List Int} (hv : valid L = true) {k : Nat} (hk : k < L.length) (hc : isC L k = true) : valid (lessL L k) = true := by
  unfold lessL
  split
  · rename_i h1
    rw [List.take_set_of_le (Nat.le_refl _)]
    exact valid_take hv k
  · rename_i h1
    exact valid_set_less hv hk hc h1
theorem pad_ext {A B : List Int} (hA : A.length ≤ 16) (hB : B.length ≤ 16) (h : ∀ j, j < 16 → A.getD j 0 = B.getD j 0) : pad A = pad B := by
  apply List.ext_getElem
  · rw [pad_len hA, pad_len hB]
  · intro j h1 h2
    have e1 := pad_getD hA j
    have e2 := pad_getD hB j
    rw [getD_lt h1] at e1
    rw [getD_lt h2] at e2
    rw [e1, e2, h j (by rw [pad_len hA] at h1; omega)]
theorem getD_set (L : List Int) (k j : Nat) (hk : k < L.length) (x : Int) : (L.set k x).getD j 0 = if k = j then x else L.getD j 0 := by
  split
  · rename_i h
    subst h
    rw [getD_lt (by simpa using hk), List.getElem_set_self]
  · rename_i h
    rcases Nat.lt_or_ge j L.length with h1 | h1
    · rw [getD_lt (by simpa using h1), List.getElem_set_ne h, getD_lt h1]
    · rw [getD_ge (by simpa using h1), getD_ge h1]
theorem getD_take (L : List Int) (k j : Nat) : (L.take k).getD j 0 = if j < k then L.getD j 0 else 0 := by
  split
  · rename_i h
    rcases Nat.lt_or_ge j L.length with h1 | h1
    · rw [getD_lt (by simp; omega), getD_lt h1]; simp
    · rw [getD_ge (by simp; omega), getD_ge h1]
  · rename_i h
    rw [getD_ge (by simp; omega)]
theorem pad_setG {L : List Int} (hL : L.length ≤ 16) {k : Nat} (hk : k < 16) (x : Int) {M : List Int} (hM : M.length ≤ 16) (h : ∀ j, j < 16 → M.getD j 0 = if k = j then x else L.getD j 0) : (pad L).set k x = pad M := by
  apply List.ext_getElem
  · rw [List.length_set, pad_len hL, pad_len hM]
  · intro j h1 h2
    have e1 := getD_set (pad L) k j (by rw [pad_len hL]; exact hk) x
    have e2 := pad_getD hM j
    rw [getD_lt h1] at e1
    rw [getD_lt h2] at e2
    rw [e1, e2, h j (by rw [pad_len hM] at h2; omega), pad_getD hL]
theorem less_len (L : List Int) (k : Nat) : (lessL L k).length ≤ L.length := by
  unfold lessL
  split
  · rw [List.length_take, List.length_set]; omega
  · rw [List.length_set]; omega
theorem pad_less {L : List Int} (hv : valid L = true) {k : Nat} (hk : k < L.length) (hc : isC L k = true) : (pad L).set k (L.getD k 0 - 1) = pad (lessL L k) := by
  have hl := (valid_bd hv).2.2.2
  refine pad_setG hl (by omega) _ (Nat.le_trans (less_len L k) hl) fun j _ => ?_
  unfold lessL
  split
  · rename_i h1
    have := less_last hv hk hc h1
    rw [getD_take, getD_set _ _ _ hk]
    by_cases hjk : j < k
    · rw [if_pos hjk, if_neg (by omega)]
    · rw [if_neg hjk]
      split
      · omega
      · rw [getD_ge (by omega)]
  · rw [getD_set _ _ _ hk]
theorem rmv_len (L : List Int) (i : Int) : (rmv L i).length ≤ 16 := by
  unfold rmv
  split
  · rename_i h
    unfold rmvOk at h
    simp only [Bool.and_eq_true] at h
    exact Nat.le_trans (less_len L _) (valid_bd h.1).2.2.2
  · simp
/-- a cell more -/
def addL (L : List Int) (k : Nat) : List Int := if k = L.length then L ++ [1] else L.set k (L.getD k 0 + 1)
def addOk (L : List Int) (i : Int) : Bool := valid L && (decide (0 ≤ i) && decide (i ≤ L.length) && valid (addL L i.toNat))
def addC (L : List Int) (i : Int) : List Int := if addOk L i then addL L i.toNat else []
theorem addC_len (L : List Int) (i : Int) : (addC L i).length ≤ 16 := by
  unfold addC
  split
  · rename_i h
    unfold addOk at h
    simp only [Bool.and_eq_true] at h
    exact (valid_bd h.2.2).2.2.2
  · simp
theorem addL_len (L : List Int) (k : Nat) : (addL L k).length ≤ L.length + 1 := by
  unfold addL; split <;> simp
theorem addL_getD (L : List Int) {k : Nat} (hk : k ≤ L.length) (j : Nat) : (addL L k).getD j 0 = if k = j then L.getD k 0 + 1 else L.getD j 0 := by
  unfold addL
  split
  · rename_i h
    subst h
    split
    · rename_i h
      subst h
      rw [getD_lt (by simp), getD_ge (Nat.le_refl _)]
      simp
    · rename_i h
      rcases Nat.lt_or_ge j L.length with h1 | h1
      · rw [getD_lt (by simp; omega), getD_lt h1, List.getElem_append_left h1]
      · rw [getD_ge (by simp; omega), getD_ge h1]
  · rw [getD_set _ _ _ (by omega)]
theorem sumL_add (L : List Int) {k : Nat} (hk : k ≤ L.length) : sumL (addL L k) = sumL L + 1 := by
  unfold addL
  split
  · rw [sumL_append]; simp [sumL]
  · rw [sumL_set _ _ (by omega), getD_lt (by omega)]; omega
theorem valid_add {L : List Int} (hv : valid L = true) {k : Nat} (hk : k ≤ L.length) : valid (addL L k) = (decide (sumL L ≠ 16) && (decide (k = 0) || decide (L.getD k 0 + 1 ≤ L.getD (k - 1) 0))) := by
  have hp := preS_of_valid hv
  have hb := valid_bd hv
  have hs := sumL_add L hk
  apply Bool.eq_iff_iff.2
  simp only [Bool.and_eq_true, Bool.or_eq_true, decide_eq_true_eq]
  constructor
  · intro h
    have hb2 := valid_bd h
    refine ⟨by omega, ?_⟩
    by_cases h0 : k = 0
    · exact .inl h0
    · right
      have hkl : k < (addL L k).length := by unfold addL; split <;> simp <;> omega
      have := (preS_of_valid h k hkl hkl).2.2 (by omega)
      rw [← getD_lt hkl, ← getD_lt (by omega), addL_getD L hk, addL_getD L hk, if_pos rfl, if_neg (by omega)] at this
      exact this
  · rintro ⟨h1, h2⟩
    apply valid_of_preS
    · intro j hj _
      have hjl : j ≤ L.length := by have := addL_len L k; omega
      have e1 := addL_getD L hk j
      rw [getD_lt hj] at e1
      have hs16 := hb.2.1
      have hle : ∀ q, 0 ≤ L.getD q 0 ∧ L.getD q 0 ≤ 15 := by
        intro q
        rcases Nat.lt_or_ge q L.length with hq | hq
        · have a1 := hp q hq hq
          rw [getD_lt hq]
          have a2 := elem_le_sum (fun x hx => by obtain ⟨n, hn, e⟩ := List.mem_iff_getElem.1 hx; have := hp n hn hn; omega) hq
          omega
        · rw [getD_ge hq]; omega
      have hlek := hle k
      have hlej := hle j
      have hge : k ≠ j → 1 ≤ L.getD j 0 := by
        intro hne
        have : j < L.length := by
          by_cases hkl : k = L.length
          · omega
          · have : (addL L k).length = L.length := by unfold addL; rw [if_neg hkl]; simp
            omega
        exact getD_pos hv this
      refine ⟨by rw [e1]; split <;> omega, by rw [e1]; split <;> omega, fun h0 => ?_⟩
      have e2 := addL_getD L hk (j - 1)
      rw [getD_lt (by omega)] at e2
      rw [e1, e2]
      have hmono : L.getD j 0 ≤ L.getD (j - 1) 0 := by
        rcases Nat.lt_or_ge j L.length with hq | hq
        · rw [getD_lt hq, getD_lt (by omega)]
          exact (hp j hq hq).2.2 h0
        · rw [getD_ge hq]; exact (hle _).1
      by_cases hkj : k = j
      · subst hkj
        rw [if_pos rfl, if_neg (by omega)]
        omega
      · rw [if_neg hkj]
        split
        · rename_i hkj1
          subst hkj1
          omega
        · exact hmono
    · omega
theorem pad_add {L : List Int} (hl : L.length ≤ 16) {k : Nat} (hk : k ≤ L.length) (hk16 : k < 16) (hl2 : (addL L k).length ≤ 16) : (pad L).set k (L.getD k 0 + 1) = pad (addL L k) := pad_setG hl hk16 _ hl2 fun j _ => addL_getD L hk j
end NP
end Go.Proofs.YtmlomapifldlpaaDoor
namespace Go.Proofs.YtmlomapifldlpaaDoor
namespace NP
set_option linter.unusedVariables false
def two (P Q : List Int) : Bool := valid P && valid Q && decide (sumL P + sumL Q ≤ 16)
def adp (P Q : List Int) : List Int := (List.range (max P.length Q.length)).map fun i => P.getD i 0 + Q.getD i 0
theorem adp_len (P Q : List Int) : (adp P Q).length = max P.length Q.length := by simp [adp]
theorem adp_getD (P Q : List Int) (i : Nat) : (adp P Q).getD i 0 = P.getD i 0 + Q.getD i 0 := by
  rcases Nat.lt_or_ge i (max P.length Q.length) with h | h
  · rw [getD_lt (by rw [adp_len]; exact h)]
    simp [adp]
  · rw [getD_ge (by rw [adp_len]; exact h), getD_ge (by omega), getD_ge (by omega)]
    rfl
theorem getD_nn {L : List Int} (hv : valid L = true) (i : Nat) : 0 ≤ L.getD i 0 ∧ L.getD i 0 ≤ 16 := by
  rcases Nat.lt_or_ge i L.length with h | h
  · rw [getD_lt h]
    have := preS_of_valid hv i h h
    omega
  · rw [getD_ge h]; omega
theorem getD_fall {L : List Int} (hv : valid L = true) (i : Nat) (h : 0 < i) : L.getD i 0 ≤ L.getD (i - 1) 0 := by
  rcases Nat.lt_or_ge i L.length with h1 | h1
  · rw [getD_lt h1, getD_lt (by omega)]
    exact (preS_of_valid hv i h1 h1).2.2 h
  · rw [getD_ge h1]; exact (getD_nn hv _).1
/-- the sum, by places -/
def sumTo (L : List Int) : Nat → Int
  | 0 => 0
  | n + 1 => sumTo L n + L.getD n 0
theorem sumTo_take (L : List Int) (n : Nat) : sumTo L n = sumL (L.take n) := by
  induction n with
  | zero => rfl
  | succ n ih =>
    rw [sumTo, ih]
    rcases Nat.lt_or_ge n L.length with h | h
    · rw [sumL_take_succ L n h, getD_lt h]
    · rw [getD_ge h, List.take_of_length_le h, List.take_of_length_le (by omega)]; omega
theorem sumTo_all (L : List Int) (n : Nat) (h : L.length ≤ n) : sumTo L n = sumL L := by rw [sumTo_take, List.take_of_length_le h]
theorem sumTo_add {A P Q : List Int} (h : ∀ i, A.getD i 0 = P.getD i 0 + Q.getD i 0) (n : Nat) : sumTo A n = sumTo P n + sumTo Q n := by
  induction n with
  | zero => rfl
  | succ n ih => rw [sumTo, sumTo, sumTo, ih, h]; omega
theorem adp_sum (P Q : List Int) : sumL (adp P Q) = sumL P + sumL Q := by
  rw [← sumTo_all (adp P Q) (max P.length Q.length) (by rw [adp_len]; exact Nat.le_refl _), sumTo_add (adp_getD P Q), sumTo_all P _ (Nat.le_max_left _ _), sumTo_all Q _ (Nat.le_max_right _ _)]
theorem two_out {P Q : List Int} (h : two P Q = true) : valid P = true ∧ valid Q = true ∧ sumL P + sumL Q ≤ 16 := by
  unfold two at h
  simp only [Bool.and_eq_true, decide_eq_true_eq] at h
  exact ⟨h.1.1, h.1.2, h.2⟩
theorem valid_adp {P Q : List Int} (h : two P Q = true) : valid (adp P Q) = true := by
  obtain ⟨hp, hq, hs⟩ := two_out h
  have hbp := valid_bd hp
  have hbq := valid_bd hq
  apply valid_of_preS
  · intro j hj _
    have e := adp_getD P Q j
    rw [getD_lt hj] at e
    have h1 := getD_nn hp j
    have h2 := getD_nn hq j
    rw [adp_len] at hj
    have h3 : 1 ≤ P.getD j 0 + Q.getD j 0 := by
      rcases Nat.lt_or_ge j P.length with h | h
      · have := getD_pos hp h; omega
      · have := getD_pos hq (by omega : j < Q.length); omega
    have h4 : P.getD j 0 + Q.getD j 0 ≤ 16 := by
      have a1 : P.getD j 0 ≤ sumL P := by
        rcases Nat.lt_or_ge j P.length with h | h
        · rw [getD_lt h]
          exact (elem_le_sum (fun x hx => by obtain ⟨n, hn, e⟩ := List.mem_iff_getElem.1 hx; have := preS_of_valid hp n hn hn; omega) h).1
        · rw [getD_ge h]; omega
      have a2 : Q.getD j 0 ≤ sumL Q := by
        rcases Nat.lt_or_ge j Q.length with h | h
        · rw [getD_lt h]
          exact (elem_le_sum (fun x hx => by obtain ⟨n, hn, e⟩ := List.mem_iff_getElem.1 hx; have := preS_of_valid hq n hn hn; omega) h).1
        · rw [getD_ge h]; omega
      omega
    refine ⟨by omega, by omega, fun h0 => ?_⟩
    have e2 := adp_getD P Q (j - 1)
    rw [getD_lt (by rw [adp_len]; omega)] at e2
    have := getD_fall hp j h0
    have := getD_fall hq j h0
    omega
  · rw [adp_sum]; exact hs
/-- what stands in the program's diagram when i places have been added to -/
def amid (P Q : List Int) (i : Nat) : List Int := (List.range 16).map fun j => if j < i then P.getD j 0 + Q.getD j 0 else P.getD j 0
theorem amid_len (P Q : List Int) (i : Nat) : (amid P Q i).length = 16 := by simp [amid]
theorem amid_get (P Q : List Int) (i j : Nat) (h : j < (amid P Q i).length) : (amid P Q i)[j] = if j < i then P.getD j 0 + Q.getD j 0 else P.getD j 0 := by simp [amid]
theorem amid_zero {P : List Int} (hp : P.length ≤ 16) (Q : List Int) : amid P Q 0 = pad P := by
  apply List.ext_getElem
  · rw [amid_len, pad_len hp]
  · intro j h1 h2
    rw [amid_get, if_neg (by omega), ← pad_getD hp, getD_lt h2]
theorem amid_set (P Q : List Int) (i : Nat) : (amid P Q i).set i (P.getD i 0 + Q.getD i 0) = amid P Q (i + 1) := by
  apply List.ext_getElem
  · rw [List.length_set, amid_len, amid_len]
  · intro j h1 h2
    by_cases hj : i = j
    · subst hj
      rw [List.getElem_set_self, amid_get, if_pos (by omega)]
    · rw [List.getElem_set_ne hj, amid_get, amid_get]
      split <;> split <;> first | rfl | omega
theorem amid_end {P Q : List Int} (h : two P Q = true) : amid P Q 16 = pad (adp P Q) := by
  have hv := valid_adp h
  have hl := (valid_bd hv).2.2.2
  apply List.ext_getElem
  · rw [amid_len, pad_len hl]
  · intro j h1 h2
    rw [amid_get, if_pos (by rw [amid_len] at h1; exact h1)]
    have e := pad_getD hl j
    rw [getD_lt h2, adp_getD] at e
    exact e.symm
def adpF (P Q : List Int) : List Int := if two P Q then adp P Q else []
theorem adpF_yes {P Q : List Int} (h : two P Q = true) : adpF P Q = adp P Q := by simp [adpF, h]
theorem adpF_no {P Q : List Int} (h : two P Q = false) : adpF P Q = [] := by simp [adpF, h]
theorem adpF_len (P Q : List Int) : (adpF P Q).length ≤ 16 := by
  unfold adpF
  split
  · rename_i h
    exact (valid_bd (valid_adp h)).2.2.2
  · simp
end NP
end Go.Proofs.YtmlomapifldlpaaDoor
namespace Go.Proofs.YtmlomapifldlpaaDoor
namespace NP
set_option linter.unusedVariables false
/-- the numbers times how often they come, up to n -/
def wti (L : List Int) : Nat → Int
  | 0 => 0
  | n + 1 => wti L n + ((n : Int) + 1) * eqc ((n : Int) + 1) L
def ctim (L : List Int) : Nat → Int
  | 0 => 0
  | n + 1 => ctim L n + eqc ((n : Int) + 1) L
theorem wti_nil (n : Nat) : wti [] n = 0 := by
  induction n with
  | zero => rfl
  | succ n ih => simp [wti, ih, eqc]
theorem ctim_nil (n : Nat) : ctim [] n = 0 := by
  induction n with
  | zero => rfl
  | succ n ih => simp [ctim, ih, eqc]
theorem wti_cons (x : Int) (r : List Int) (n : Nat) : wti (x :: r) n = wti r n + (if 1 ≤ x ∧ x ≤ n then x else 0) := by
  induction n with
  | zero => simp [wti]; omega
  | succ n ih =>
    simp only [wti, ih, eqc]
    by_cases hx : x = (n : Int) + 1
    · subst hx
      rw [if_pos rfl, if_neg (by omega), if_pos (by omega), Int.mul_add]
      omega
    · rw [if_neg hx, Int.zero_add]
      split <;> split <;> omega
theorem ctim_cons (x : Int) (r : List Int) (n : Nat) : ctim (x :: r) n = ctim r n + (if 1 ≤ x ∧ x ≤ n then 1 else 0) := by
  induction n with
  | zero => simp [ctim]; omega
  | succ n ih =>
    simp only [ctim, ih, eqc]
    by_cases hx : x = (n : Int) + 1
    · subst hx
      rw [if_pos rfl, if_neg (by omega), if_pos (by omega)]
      omega
    · rw [if_neg hx, Int.zero_add]
      split <;> split <;> omega
theorem wti_sum (L : List Int) (n : Nat) (h : ∀ x ∈ L, 1 ≤ x ∧ x ≤ n) : wti L n = sumL L := by
  induction L with
  | nil => rw [wti_nil]; rfl
  | cons x r ih =>
    rw [wti_cons, ih (fun y hy => h y (by simp [hy])), if_pos (h x (by simp))]
    simp [sumL]; omega
theorem ctim_len (L : List Int) (n : Nat) (h : ∀ x ∈ L, 1 ≤ x ∧ x ≤ n) : ctim L n = L.length := by
  induction L with
  | nil => rw [ctim_nil]; rfl
  | cons x r ih =>
    rw [ctim_cons, ih (fun y hy => h y (by simp [hy])), if_pos (h x (by simp))]
    simp
theorem sum_tim (L : List Int) (n : Nat) : sumL ((List.range n).map fun (j : Nat) => eqc ((j : Int) + 1) L) = ctim L n := by
  induction n with
  | zero => rfl
  | succ n ih => rw [List.range_succ, List.map_append, sumL_append, ih]; simp [ctim, sumL]
theorem valid_mem {L : List Int} (h : valid L = true) : ∀ x ∈ L, 1 ≤ x ∧ x ≤ (((L.headD 0).toNat : Nat) : Int) := by
  intro x hx
  have hg := head_ge h x hx
  obtain ⟨n, hn, e⟩ := List.mem_iff_getElem.1 hx
  have := preS_of_valid h n hn hn
  omega
theorem tim_sum {L : List Int} (h : valid L = true) : sumL (tim L) = L.length := by
  unfold tim
  rw [sum_tim]
  exact ctim_len L _ (valid_mem h)
theorem eqc_mul_bd (L : List Int) (n : Nat) (hn : n ≤ 16) (hl : L.length ≤ 16) : 0 ≤ ((n : Int) + 1) * eqc ((n : Int) + 1) L ∧ ((n : Int) + 1) * eqc ((n : Int) + 1) L ≤ 272 := by
  have h := eqc_bd ((n : Int) + 1) L
  generalize eqc ((n : Int) + 1) L = y at h ⊢
  have h1 : 0 ≤ ((n : Int) + 1) * y := Int.mul_nonneg (by omega) h.1
  have h2 : ((n : Int) + 1) * y ≤ 17 * 16 := Int.mul_le_mul (by omega) (by omega) h.1 (by omega)
  omega
theorem wti_bd (L : List Int) (hl : L.length ≤ 16) (n : Nat) (hn : n ≤ 17) : 0 ≤ wti L n ∧ wti L n ≤ 272 * n := by
  induction n with
  | zero => simp [wti]
  | succ n ih =>
    have := ih (by omega)
    have := eqc_mul_bd L n (by omega) hl
    simp only [wti]
    omega
theorem tim_conj {L : List Int} (h : valid L = true) (k : Nat) (hk : k < (L.headD 0).toNat) : eqc ((k : Int) + 1) L = cnt ((k : Int) + 1) L - (if k + 1 < (L.headD 0).toNat then cnt ((k : Int) + 2) L else 0) := by
  rw [eqc_cnt]
  split
  · congr 1
  · rename_i h1
    have e : cnt ((k : Int) + 1 + 1) L = 0 := by
      apply cnt_none
      intro x hx
      have := valid_mem h x hx
      omega
    omega
/-- how many numbers come -/
def nz (L : List Int) : Nat → Nat
  | 0 => 0
  | n + 1 => nz L n + (if 0 < eqc ((n : Int) + 1) L then 1 else 0)
theorem nz_nil (n : Nat) : nz [] n = 0 := by
  induction n with
  | zero => rfl
  | succ n ih => simp [nz, ih, eqc]
theorem nz_le (L : List Int) (n : Nat) : nz L n ≤ n := by
  induction n with
  | zero => simp [nz]
  | succ n ih => simp only [nz]; split <;> omega
theorem nz_cons (x : Int) (r : List Int) (n : Nat) : nz (x :: r) n = nz r n + (if 1 ≤ x ∧ x ≤ n ∧ eqc x r ≤ 0 then 1 else 0) := by
  induction n with
  | zero => simp [nz]; omega
  | succ n ih =>
    have e : eqc ((n : Int) + 1) (x :: r) = (if x = (n : Int) + 1 then 1 else 0) + eqc ((n : Int) + 1) r := rfl
    simp only [nz, ih]
    by_cases hx : x = (n : Int) + 1
    · subst hx
      have hb := (eqc_bd ((n : Int) + 1) r).1
      rw [if_pos rfl] at e
      split <;> split <;> split <;> split <;> omega
    · rw [if_neg hx, Int.zero_add] at e
      rw [e]
      split <;> split <;> split <;> omega
theorem fl_len_shift (p : Nat → Bool) (n : Nat) : (fl p (n + 1)).length = (if p 0 then 1 else 0) + (fl (fun i => p (i + 1)) n).length := by
  induction n with
  | zero => rw [fl_succ]; simp [fl]; split <;> simp_all
  | succ n ih =>
    rw [fl_succ, List.length_append, ih, fl_succ, List.length_append]
    split <;> split <;> simp_all <;> omega
theorem isC_tail (x : Int) (r : List Int) (i : Nat) : isC (x :: r) (i + 1) = isC r i := by
  unfold isC
  simp
theorem eqc_none (x : Int) (r : List Int) (h : ∀ y ∈ r, y < x) : eqc x r = 0 := by
  induction r with
  | nil => rfl
  | cons y t ih =>
    have := h y (by simp)
    simp only [eqc]
    rw [if_neg (by omega), ih (fun z hz => h z (by simp [hz]))]
    rfl
/-- falls: each at most the one ahead -/
def mono : List Int → Prop
  | [] => True
  | x :: r => (∀ y ∈ r, y ≤ x) ∧ mono r
theorem crn_nz (L : List Int) (hm : mono L) (n : Nat) (h : ∀ x ∈ L, 1 ≤ x ∧ x ≤ n) : (crn L).length = nz L n := by
  induction L with
  | nil => rw [nz_nil]; rfl
  | cons x r ih =>
    have ih' := ih hm.2 (fun y hy => h y (by simp [hy]))
    have hx := h x (by simp)
    rw [nz_cons, ← ih']
    unfold crn
    rw [crnTo_fl, crnTo_fl, List.length_cons, fl_len_shift, fl_congr _ (isC r) _ (fun i _ => isC_tail x r i)]
    rw [Nat.add_comm]
    congr 1
    cases r with
    | nil => simp [isC, eqc]; omega
    | cons y t =>
      have e : isC (x :: y :: t) 0 = decide (y < x) := by unfold isC; simp
      rw [e]
      have hy := hm.1 y (by simp)
      by_cases hyx : y < x
      · rw [decide_eq_true hyx]
        have e2 : eqc x (y :: t) = 0 := eqc_none x _ fun z hz => by
          rcases List.mem_cons.1 hz with rfl | hz
          · exact hyx
          · have := hm.2.1 z hz; omega
        rw [e2, if_pos rfl, if_pos (by omega)]
      · have hyx2 : y = x := by omega
        subst hyx2
        have := (eqc_bd y t).1
        rw [decide_eq_false hyx, if_neg (by simp), if_neg (by simp [eqc]; omega)]
theorem mono_of {L : List Int} (h : ∀ i (hi : i + 1 < L.length), L[i + 1] ≤ L[i]) : mono L := by
  induction L with
  | nil => trivial
  | cons x r ih =>
    have hr : mono r := ih fun i hi => by have := h (i + 1) (by simpa using hi); simpa using this
    refine ⟨fun y hy => ?_, hr⟩
    cases r with
    | nil => simp at hy
    | cons z t =>
      have h0 := h 0 (by simp)
      simp at h0
      rcases List.mem_cons.1 hy with rfl | hy
      · exact h0
      · exact Int.le_trans (hr.1 y hy) h0
theorem mono_valid {L : List Int} (h : valid L = true) : mono L := mono_of fun i hi => by
  have := (preS_of_valid h (i + 1) hi hi).2.2 (by omega)
  simpa using this
theorem crn_len_nz {L : List Int} (h : valid L = true) : (crn L).length = nz L (L.headD 0).toNat := crn_nz L (mono_valid h) _ (valid_mem h)
theorem nz_fl (L : List Int) (n : Nat) : (fl (fun i => decide (0 < eqc ((i : Int) + 1) L)) n).length = nz L n := by
  induction n with
  | zero => rfl
  | succ n ih =>
    rw [fl_succ, List.length_append, ih]
    simp only [nz]
    split <;> split <;> simp_all
theorem crn_conj_nz {L : List Int} (h : valid L = true) : (crn (conj L)).length = nz L (L.headD 0).toNat := by
  unfold crn
  rw [crnTo_fl, conj_len, fl_congr _ (fun i => decide (0 < eqc ((i : Int) + 1) L)) _ (fun i hi => ?_), nz_fl]
  have hi1 : i < (conj L).length := by rw [conj_len]; exact hi
  unfold isC
  rw [getD_lt hi1, conj_get, eqc_cnt]
  by_cases h1 : i + 1 < (conj L).length
  · rw [decide_eq_false (by omega), Bool.false_or, getD_lt h1, conj_get]
    have e : (((i + 1 : Nat) : Int) + 1) = (i : Int) + 1 + 1 := by omega
    rw [e]
    apply decide_eq_decide.2
    omega
  · rw [decide_eq_true (by omega), Bool.true_or]
    have e : cnt ((i : Int) + 1 + 1) L = 0 := by
      apply cnt_none
      intro x hx
      have := valid_mem h x hx
      rw [conj_len] at h1
      omega
    have e1 : 0 < cnt ((i : Int) + 1) L := by
      cases L with
      | nil => simp at hi
      | cons x r =>
        have := (cnt_bd ((i : Int) + 1) r).1
        simp only [cnt]
        simp only [List.headD_cons] at hi
        rw [if_pos (by omega)]
        omega
    rw [e, eq_comm, decide_eq_true_eq]
    omega
theorem fl_asc (p : Nat → Bool) (n : Nat) : ∀ i (h : i + 1 < (fl p n).length), (fl p n)[i] < (fl p n)[i + 1] := by
  have hp : (fl p n).Pairwise (· < ·) := by
    unfold fl
    rw [List.pairwise_map]
    exact (List.Pairwise.filter _ List.pairwise_lt_range).imp fun h => by simpa using h
  intro i h
  exact List.pairwise_iff_getElem.1 hp i (i + 1) (by omega) h (by omega)
theorem asc_of_eq {X Y : List Int} (e : X = Y) (h : ∀ i (hi : i + 1 < Y.length), Y[i] < Y[i + 1]) : ∀ i (hi : i + 1 < X.length), X[i] < X[i + 1] := by subst e; exact h
theorem get_of_eq {X Y : List Int} {f : Nat → Int} (e : X = Y) (h : ∀ k (hk : k < Y.length), Y[k] = f k) : ∀ k (hk : k < X.length), X[k] = f k := by subst e; exact h
end NP
end Go.Proofs.YtmlomapifldlpaaDoor
namespace Go.Proofs.YtmlomapifldlpaaDoor
namespace NP
set_option linter.unusedVariables false
theorem eqc_cons (k x : Int) (r : List Int) : eqc k (x :: r) = (if x = k then 1 else 0) + eqc k r := rfl
theorem eqc_mem {k : Int} {L : List Int} (h : 0 < eqc k L) : k ∈ L := by
  induction L with
  | nil => simp [eqc] at h
  | cons x r ih =>
    rw [eqc_cons] at h
    by_cases hx : x = k
    · subst hx; simp
    · rw [if_neg hx] at h
      exact List.mem_cons_of_mem _ (ih (by omega))
theorem eqc_pos {k : Int} {L : List Int} (h : k ∈ L) : 0 < eqc k L := by
  induction L with
  | nil => simp at h
  | cons x r ih =>
    rw [eqc_cons]
    have := (eqc_bd k r).1
    rcases List.mem_cons.1 h with rfl | h
    · rw [if_pos rfl]; omega
    · have := ih h
      split <;> omega
theorem mono_eq {A B : List Int} (hA : mono A) (hB : mono B) (h : ∀ k, eqc k A = eqc k B) : A = B := by
  induction A generalizing B with
  | nil =>
    cases B with
    | nil => rfl
    | cons y t =>
      have h1 := h y
      have h2 := eqc_pos (k := y) (L := y :: t) (by simp)
      rw [← h1] at h2
      simp [eqc] at h2
  | cons x r ih =>
    cases B with
    | nil =>
      have h1 := h x
      have h2 := eqc_pos (k := x) (L := x :: r) (by simp)
      rw [h1] at h2
      simp [eqc] at h2
    | cons y t =>
      have hxy : x = y := by
        have h1 := eqc_mem (k := x) (L := y :: t) (by rw [← h x]; exact eqc_pos (by simp))
        have h2 := eqc_mem (k := y) (L := x :: r) (by rw [h y]; exact eqc_pos (by simp))
        have h3 : x ≤ y := by
          rcases List.mem_cons.1 h1 with rfl | h1
          · exact Int.le_refl _
          · exact hB.1 x h1
        have h4 : y ≤ x := by
          rcases List.mem_cons.1 h2 with rfl | h2
          · exact Int.le_refl _
          · exact hA.1 y h2
        omega
      subst hxy
      rw [ih hA.2 hB.2 fun k => by have := h k; rw [eqc_cons, eqc_cons] at this; omega]
theorem mono_append {A B : List Int} (hA : mono A) (hB : mono B) (h : ∀ x ∈ A, ∀ y ∈ B, y ≤ x) : mono (A ++ B) := by
  induction A with
  | nil => exact hB
  | cons x r ih =>
    refine ⟨fun y hy => ?_, ih hA.2 fun z hz => h z (by simp [hz])⟩
    rcases List.mem_append.1 hy with hy | hy
    · exact hA.1 y hy
    · exact h x (by simp) y hy
theorem mono_one (x : Int) : mono [x] := ⟨fun y hy => by simp at hy, trivial⟩
theorem mono_replicate (n : Nat) (x : Int) : mono (List.replicate n x) := by
  induction n with
  | zero => trivial
  | succ n ih => exact ⟨fun y hy => by have := List.eq_of_mem_replicate hy; omega, ih⟩
theorem eqc_replicate (k : Int) (n : Nat) (x : Int) : eqc k (List.replicate n x) = if x = k then (n : Int) else 0 := by
  induction n with
  | zero => simp [eqc]
  | succ n ih =>
    rw [List.replicate_succ, eqc_cons, ih]
    split <;> omega
/-- the two-way merge of the program, n steps: what has been laid, how many of the first, of the second -/
def um (P Q : Nat → Int) : Nat → List Int × Nat × Nat
  | 0 => ([], 0, 0)
  | n + 1 =>
    let s := um P Q n
    if Q s.2.2 ≤ P s.2.1 then (s.1 ++ [P s.2.1], s.2.1 + 1, s.2.2) else (s.1 ++ [Q s.2.2], s.2.1, s.2.2 + 1)
theorem um_step_yes (P Q : Nat → Int) (n : Nat) (h : Q (um P Q n).2.2 ≤ P (um P Q n).2.1) : um P Q (n + 1) = ((um P Q n).1 ++ [P (um P Q n).2.1], (um P Q n).2.1 + 1, (um P Q n).2.2) := by
  simp only [um]; rw [if_pos h]
theorem um_step_no (P Q : Nat → Int) (n : Nat) (h : ¬ Q (um P Q n).2.2 ≤ P (um P Q n).2.1) : um P Q (n + 1) = ((um P Q n).1 ++ [Q (um P Q n).2.2], (um P Q n).2.1, (um P Q n).2.2 + 1) := by
  simp only [um]; rw [if_neg h]
theorem um_count (P Q : Nat → Int) (n : Nat) : (um P Q n).2.1 + (um P Q n).2.2 = n ∧ (um P Q n).1.length = n := by
  induction n with
  | zero => exact ⟨rfl, rfl⟩
  | succ n ih =>
    by_cases h : Q (um P Q n).2.2 ≤ P (um P Q n).2.1
    · rw [um_step_yes P Q n h]
      simp only [List.length_append, List.length_cons, List.length_nil]
      omega
    · rw [um_step_no P Q n h]
      simp only [List.length_append, List.length_cons, List.length_nil]
      omega
def pre (P : Nat → Int) (i : Nat) : List Int := (List.range i).map P
theorem pre_succ (P : Nat → Int) (i : Nat) : pre P (i + 1) = pre P i ++ [P i] := by unfold pre; rw [List.range_succ, List.map_append]; rfl
theorem um_inv (P Q : Nat → Int) (hP : ∀ i, P (i + 1) ≤ P i) (hQ : ∀ i, Q (i + 1) ≤ Q i) (n : Nat) :
    mono (um P Q n).1 ∧ (∀ y ∈ (um P Q n).1, P (um P Q n).2.1 ≤ y ∧ Q (um P Q n).2.2 ≤ y) ∧ ∀ v, eqc v (um P Q n).1 = eqc v (pre P (um P Q n).2.1) + eqc v (pre Q (um P Q n).2.2) := by
  induction n with
  | zero => exact ⟨trivial, fun y hy => by simp [um] at hy, fun v => rfl⟩
  | succ n ih =>
    obtain ⟨h1, h2, h3⟩ := ih
    by_cases h : Q (um P Q n).2.2 ≤ P (um P Q n).2.1
    · rw [um_step_yes P Q n h]
      refine ⟨mono_append h1 (mono_one _) fun x hx y hy => ?_, fun y hy => ?_, fun v => ?_⟩
      · rw [List.mem_singleton] at hy
        subst hy
        exact (h2 x hx).1
      · have hp := hP (um P Q n).2.1
        rcases List.mem_append.1 hy with hy | hy
        · have := h2 y hy
          exact ⟨Int.le_trans hp this.1, this.2⟩
        · rw [List.mem_singleton] at hy
          subst hy
          exact ⟨hp, h⟩
      · show eqc v _ = eqc v (pre P ((um P Q n).2.1 + 1)) + eqc v (pre Q (um P Q n).2.2)
        rw [pre_succ, eqc_append, eqc_append, h3]
        omega
    · rw [um_step_no P Q n h]
      refine ⟨mono_append h1 (mono_one _) fun x hx y hy => ?_, fun y hy => ?_, fun v => ?_⟩
      · rw [List.mem_singleton] at hy
        subst hy
        exact (h2 x hx).2
      · have hp := hQ (um P Q n).2.2
        rcases List.mem_append.1 hy with hy | hy
        · have := h2 y hy
          exact ⟨this.1, Int.le_trans hp this.2⟩
        · rw [List.mem_singleton] at hy
          subst hy
          exact ⟨Int.le_of_lt (Int.not_le.1 h), hp⟩
      · show eqc v _ = eqc v (pre P (um P Q n).2.1) + eqc v (pre Q ((um P Q n).2.2 + 1))
        rw [pre_succ, eqc_append, eqc_append, h3]
        omega
theorem pre_parts {L : List Int} (i : Nat) (h : L.length ≤ i) : pre (fun i => L.getD i 0) i = L ++ List.replicate (i - L.length) 0 := by
  apply List.ext_getElem
  · simp [pre]; omega
  · intro j h1 h2
    simp only [pre, List.getElem_map, List.getElem_range]
    rcases Nat.lt_or_ge j L.length with h3 | h3
    · rw [List.getElem_append_left h3, getD_lt h3]
    · rw [List.getElem_append_right h3, getD_ge h3]; simp
/-- all of both, the greatest first, behind them noughts -/
theorem um_end {P Q M : List Int} (h : two P Q = true) (hM : mono M) (hMe : ∀ k, eqc k M = eqc k P + eqc k Q) (hMl : M.length = P.length + Q.length) (hM1 : ∀ x ∈ M, 1 ≤ x) : (um (fun i => P.getD i 0) (fun i => Q.getD i 0) 16).1 = pad M := by
  obtain ⟨hp, hq, hs⟩ := two_out h
  have hbp := valid_bd hp
  have hbq := valid_bd hq
  have hfp : ∀ i, P.getD (i + 1) 0 ≤ P.getD i 0 := fun i => by have := getD_fall hp (i + 1) (by omega); simpa using this
  have hfq : ∀ i, Q.getD (i + 1) 0 ≤ Q.getD i 0 := fun i => by have := getD_fall hq (i + 1) (by omega); simpa using this
  obtain ⟨h1, h2, h3⟩ := um_inv (fun i => P.getD i 0) (fun i => Q.getD i 0) hfp hfq 16
  obtain ⟨h4, h5⟩ := um_count (fun i => P.getD i 0) (fun i => Q.getD i 0) 16
  generalize (um (fun i => P.getD i 0) (fun i => Q.getD i 0) 16).1 = U at *
  generalize (um (fun i => P.getD i 0) (fun i => Q.getD i 0) 16).2.1 = i at *
  generalize (um (fun i => P.getD i 0) (fun i => Q.getD i 0) 16).2.2 = k at *
  have noz : ∀ (hn : ∀ y ∈ U, 1 ≤ y), eqc 0 U = 0 := fun hn => by
    rcases Int.lt_or_le 0 (eqc 0 U) with h | h
    · have := hn 0 (eqc_mem h); omega
    · have := (eqc_bd 0 U).1; omega
  have zer : ∀ (L : List Int) (n : Nat), eqc 0 (pre (fun i => L.getD i 0) n) = 0 → n ≤ L.length := fun L n hz => by
    rcases Nat.lt_or_ge L.length n with h | h
    · rw [pre_parts n (by omega), eqc_append, eqc_replicate, if_pos rfl] at hz
      have := (eqc_bd 0 L).1
      omega
    · exact h
  have hi : P.length ≤ i := by
    rcases Nat.lt_or_ge i P.length with h | h
    · have hz := noz fun y hy => by have := (h2 y hy).1; have := getD_pos hp h; omega
      have h0 := h3 0
      rw [hz] at h0
      have a := (eqc_bd 0 (pre (fun i => P.getD i 0) i)).1
      have b := (eqc_bd 0 (pre (fun i => Q.getD i 0) k)).1
      have := zer Q k (by omega)
      omega
    · exact h
  have hk : Q.length ≤ k := by
    rcases Nat.lt_or_ge k Q.length with h | h
    · have hz := noz fun y hy => by have := (h2 y hy).2; have := getD_pos hq h; omega
      have h0 := h3 0
      rw [hz] at h0
      have a := (eqc_bd 0 (pre (fun i => P.getD i 0) i)).1
      have b := (eqc_bd 0 (pre (fun i => Q.getD i 0) k)).1
      have := zer P i (by omega)
      omega
    · exact h
  apply mono_eq h1
  · unfold pad
    refine mono_append hM (mono_replicate _ _) fun x hx y hy => ?_
    have := List.eq_of_mem_replicate hy
    have := hM1 x hx
    omega
  · intro v
    rw [h3, pre_parts i hi, pre_parts k hk]
    unfold pad
    rw [eqc_append, eqc_append, eqc_append, eqc_replicate, eqc_replicate, eqc_replicate, hMe]
    split <;> omega
end NP
end Go.Proofs.YtmlomapifldlpaaDoor

namespace Go.Proofs.YtmlomapifldlpaaDoor
namespace NP
set_option linter.unusedVariables false
theorem mono_split {A B : List Int} (h : mono (A ++ B)) : mono A ∧ mono B ∧ ∀ x ∈ A, ∀ y ∈ B, y ≤ x := by
  induction A with
  | nil => exact ⟨trivial, h, fun x hx => by simp at hx⟩
  | cons x r ih =>
    obtain ⟨h1, h2⟩ := h
    obtain ⟨h3, h4, h5⟩ := ih h2
    refine ⟨⟨fun y hy => h1 y (List.mem_append_left _ hy), h3⟩, h4, fun z hz y hy => ?_⟩
    rcases List.mem_cons.1 hz with rfl | hz
    · exact h1 y (List.mem_append_right _ hy)
    · exact h5 z hz y hy
theorem mono_head {D : List Int} (h : mono D) (i : Nat) (hi : i < D.length) : D[i] ≤ D[0]'(by omega) := by
  match D, h with
  | [], _ => simp at hi
  | y :: t, h =>
    match i, hi with
    | 0, _ => exact Int.le_refl _
    | i + 1, hi => exact h.1 _ (List.getElem_mem _)
theorem insK_mono {M : List Int} (h : mono M) (x : Int) : mono (insK M x) := by
  have hs := ff_spec (fun (j : Nat) => decide (x ≤ M.getD j 0)) M.length
  have e := List.take_append_drop (posOf x M) M
  rw [← e] at h
  obtain ⟨h1, h2, h3⟩ := mono_split h
  have hd : ∀ y ∈ M.drop (posOf x M), y ≤ x := fun y hy => by
    obtain ⟨i, hi, rfl⟩ := List.getElem_of_mem hy
    simp at hi
    rcases hs.2.2 with hs2 | hs2
    · have : posOf x M = M.length := hs2
      omega
    · have hp : posOf x M < M.length := by omega
      have hx : ¬ x ≤ M.getD (posOf x M) 0 := of_decide_eq_false hs2
      rw [getD_lt hp] at hx
      have h4 := mono_head h2 i (by simp; omega)
      simp at h4
      rw [List.getElem_drop]
      omega
  unfold insK
  refine mono_append h1 ⟨hd, h2⟩ fun a ha b hb => ?_
  rcases List.mem_cons.1 hb with rfl | hb
  · obtain ⟨i, hi, rfl⟩ := List.getElem_of_mem ha
    simp at hi
    have := of_decide_eq_true (hs.2.1 i (by unfold posOf at hi; omega))
    rw [getD_lt (by omega)] at this
    rw [List.getElem_take]
    exact this
  · exact h3 a ha b hb
theorem insK_eqc (M : List Int) (x k : Int) : eqc k (insK M x) = eqc k M + (if x = k then 1 else 0) := by
  have e : eqc k M = eqc k (M.take (posOf x M)) + eqc k (M.drop (posOf x M)) := by rw [← eqc_append, List.take_append_drop]
  unfold insK
  rw [eqc_append, eqc_cons, e]
  omega
theorem insK_sum (M : List Int) (x : Int) : sumL (insK M x) = sumL M + x := by
  have e : sumL M = sumL (M.take (posOf x M)) + sumL (M.drop (posOf x M)) := by rw [← sumL_append, List.take_append_drop]
  unfold insK
  rw [sumL_append, sumL, e]
  omega
theorem fold_facts (L : List Int) : ∀ M, mono M → mono (L.foldl insK M) ∧ (∀ k, eqc k (L.foldl insK M) = eqc k M + eqc k L) ∧ sumL (L.foldl insK M) = sumL M + sumL L := by
  induction L with
  | nil => intro M h; exact ⟨h, fun k => by simp [eqc], by simp [sumL]⟩
  | cons x r ih =>
    intro M h
    obtain ⟨h1, h2, h3⟩ := ih (insK M x) (insK_mono h x)
    refine ⟨h1, fun k => ?_, ?_⟩
    · rw [List.foldl_cons, h2, insK_eqc, eqc_cons]; omega
    · rw [List.foldl_cons, h3, insK_sum, sumL]; omega
theorem mrg_mono (L : List Int) : mono (mrg L) := (fold_facts L [] trivial).1
theorem mrg_eqc (L : List Int) (k : Int) : eqc k (mrg L) = eqc k L := by have := (fold_facts L [] trivial).2.1 k; unfold mrg; simpa [eqc] using this
theorem mrg_sum (L : List Int) : sumL (mrg L) = sumL L := by have := (fold_facts L [] trivial).2.2; unfold mrg; simpa [sumL] using this
theorem mrg_len (L : List Int) : (mrg L).length = L.length := by have := (fold_ins L []).1; unfold mrg; simpa using this
theorem mrg_mem {L : List Int} {y : Int} (h : y ∈ mrg L) : y ∈ L := by
  rcases (fold_ins L []).2 y h with h | h
  · exact h
  · simp at h
theorem cnt_eqc {A B : List Int} (h : ∀ k, eqc k A = eqc k B) (hl : A.length = B.length) (t : Int) : cnt t A = cnt t B := by
  induction A generalizing B with
  | nil =>
    have : B = [] := List.eq_nil_of_length_eq_zero (by simp at hl; omega)
    subst this; rfl
  | cons x r ih =>
    have hx : x ∈ B := eqc_mem (by rw [← h x]; exact eqc_pos (by simp))
    obtain ⟨b1, b2, rfl⟩ := List.append_of_mem hx
    have h2 := ih (B := b1 ++ b2) (fun k => by
      have := h k
      rw [eqc_cons, eqc_append, eqc_cons] at this
      rw [eqc_append]; omega) (by simp at hl ⊢; omega)
    rw [cnt, h2, cnt_append, cnt_append, cnt]
    omega
theorem mono_get {L : List Int} (h : mono L) (j : Nat) (hj : j + 1 < L.length) : L[j + 1] ≤ L[j] := by
  induction L generalizing j with
  | nil => simp at hj
  | cons x r ih =>
    match j with
    | 0 => simp; exact h.1 _ (List.getElem_mem _)
    | j + 1 => simpa using ih h.2 j (by simp at hj; omega)
theorem valid_mono {M : List Int} (h : mono M) (h1 : ∀ x ∈ M, 1 ≤ x) (hs : sumL M ≤ 16) : valid M = true := by
  refine valid_of_preS (fun j hj _ => ?_) hs
  have hb := (elem_le_sum (fun x hx => by have := h1 x hx; omega) hj).1
  refine ⟨h1 _ (List.getElem_mem hj), by omega, fun h0 => ?_⟩
  have := mono_get h (j - 1) (by omega)
  simp only [show j - 1 + 1 = j by omega] at this
  exact this
def uni (P Q : List Int) : List Int := mrg (P ++ Q)
theorem valid_ge1 {L : List Int} (h : valid L = true) : ∀ x ∈ L, 1 ≤ x := fun x hx => by
  obtain ⟨k, hk, rfl⟩ := List.getElem_of_mem hx
  exact (preS_of_valid h k hk hk).1
theorem uni_ge1 {P Q : List Int} (h : two P Q = true) : ∀ x ∈ uni P Q, 1 ≤ x := fun x hx => by
  obtain ⟨hp, hq, _⟩ := two_out h
  rcases List.mem_append.1 (mrg_mem hx) with hx | hx
  · exact valid_ge1 hp x hx
  · exact valid_ge1 hq x hx
theorem valid_uni {P Q : List Int} (h : two P Q = true) : valid (uni P Q) = true :=
  valid_mono (mrg_mono _) (uni_ge1 h) (by unfold uni; rw [mrg_sum, sumL_append]; exact (two_out h).2.2)
theorem um_uni {P Q : List Int} (h : two P Q = true) : (um (fun i => P.getD i 0) (fun i => Q.getD i 0) 16).1 = pad (uni P Q) :=
  um_end h (mrg_mono _) (fun k => by unfold uni; rw [mrg_eqc, eqc_append]) (by unfold uni; rw [mrg_len]; simp) (uni_ge1 h)
def uniF (P Q : List Int) : List Int := if two P Q then uni P Q else []
theorem uniF_yes {P Q : List Int} (h : two P Q = true) : uniF P Q = uni P Q := by simp [uniF, h]
theorem uniF_no {P Q : List Int} (h : two P Q = false) : uniF P Q = [] := by simp [uniF, h]
theorem uniF_len (P Q : List Int) : (uniF P Q).length ≤ 16 := by
  unfold uniF
  split
  · rename_i h
    exact (valid_bd (valid_uni h)).2.2.2
  · simp
/-- parts with the same numbers at all places are the same -/
theorem valid_ext {A B : List Int} (hA : valid A = true) (hB : valid B = true) (h : ∀ j, A.getD j 0 = B.getD j 0) : A = B := by
  have hl : A.length = B.length := by
    rcases Nat.lt_trichotomy A.length B.length with h1 | h1 | h1
    · have := h A.length
      rw [getD_ge (Nat.le_refl _)] at this
      have := getD_pos hB h1
      omega
    · exact h1
    · have := h B.length
      rw [getD_ge (L := B) (Nat.le_refl _)] at this
      have := getD_pos hA h1
      omega
  apply List.ext_getElem hl
  intro j h1 h2
  have := h j
  rwa [getD_lt h1, getD_lt h2] at this
theorem conj_getD {L : List Int} (h : valid L = true) (j : Nat) : (conj L).getD j 0 = cnt ((j : Int) + 1) L := by
  rcases Nat.lt_or_ge j (conj L).length with h1 | h1
  · rw [getD_lt h1, conj_get]
  · rw [getD_ge h1]
    rw [conj_len] at h1
    exact (cnt_none fun x hx => by have := head_ge h x hx; omega).symm
theorem two_conj {P Q : List Int} (h : two P Q = true) : two (conj P) (conj Q) = true := by
  obtain ⟨hp, hq, hs⟩ := two_out h
  unfold two
  rw [valid_conj hp, valid_conj hq, sumL_conj hp, sumL_conj hq, decide_eq_true hs]
  rfl
theorem cnt_uni (P Q : List Int) (t : Int) : cnt t (uni P Q) = cnt t P + cnt t Q := by
  rw [← cnt_append]
  exact cnt_eqc (fun k => by unfold uni; rw [mrg_eqc]) (by unfold uni; rw [mrg_len]) t
theorem conj_uni {P Q : List Int} (h : two P Q = true) : conj (uni P Q) = adp (conj P) (conj Q) := by
  obtain ⟨hp, hq, hs⟩ := two_out h
  refine valid_ext (valid_conj (valid_uni h)) (valid_adp (two_conj h)) fun j => ?_
  rw [conj_getD (valid_uni h), adp_getD, conj_getD hp, conj_getD hq, cnt_uni]
theorem conj_adp {P Q : List Int} (h : two P Q = true) : conj (adp P Q) = uni (conj P) (conj Q) := by
  obtain ⟨hp, hq, hs⟩ := two_out h
  have h2 := two_conj h
  have e := conj_uni h2
  rw [conj_conj hp, conj_conj hq] at e
  rw [← e, conj_conj (valid_uni h2)]
theorem adp_comm (P Q : List Int) : adp P Q = adp Q P := by
  unfold adp
  rw [Nat.max_comm]
  apply List.map_congr_left
  intro i _
  omega
theorem two_comm (P Q : List Int) : two P Q = two Q P := by
  unfold two
  rw [Int.add_comm (sumL P), Bool.and_comm (valid P)]
theorem uni_len (P Q : List Int) : (uni P Q).length = P.length + Q.length := by unfold uni; rw [mrg_len]; simp
end NP
end Go.Proofs.YtmlomapifldlpaaDoor
namespace Go.Proofs.YtmlomapifldlpaaDoor
namespace NP
def sqRT (L : List Int) (d : Int) (k : Nat) : List Int := ((List.range k).filter fun i => decide (d < L.getD i 0)).map fun i => L.getD i 0 - d
theorem sqRT_succ (L : List Int) (d : Int) (k : Nat) : sqRT L d (k + 1) = sqRT L d k ++ if d < L.getD k 0 then [L.getD k 0 - d] else [] := by
  unfold sqRT
  rw [List.range_succ, List.filter_append, List.map_append]
  obtain ⟨f, hf⟩ : ∃ f : Nat → Int, ∀ i, L.getD i 0 = f i := ⟨_, fun _ => rfl⟩
  simp only [hf]
  congr 1
  by_cases h : d < f k <;> simp [h]
theorem sqRT_len (L : List Int) (d : Int) (k : Nat) : (sqRT L d k).length ≤ k := by
  unfold sqRT
  rw [List.length_map]
  exact Nat.le_trans (List.length_filter_le _ _) (by simp)
def sqR (L : List Int) : List Int := sqRT L (durS L) (durS L)
def sqB (L : List Int) : List Int := L.drop (durS L)
def sqRF (L : List Int) : List Int := if valid L then sqR L else []
def sqBF (L : List Int) : List Int := if valid L then sqB L else []
def sqD (L : List Int) : Int := if valid L then (durS L : Int) else 0
theorem sqRF_yes {L : List Int} (h : valid L = true) : sqRF L = sqR L := by simp [sqRF, h]
theorem sqRF_no {L : List Int} (h : valid L = false) : sqRF L = [] := by simp [sqRF, h]
theorem sqBF_yes {L : List Int} (h : valid L = true) : sqBF L = sqB L := by simp [sqBF, h]
theorem sqBF_no {L : List Int} (h : valid L = false) : sqBF L = [] := by simp [sqBF, h]
theorem sqD_yes {L : List Int} (h : valid L = true) : sqD L = (durS L : Int) := by simp [sqD, h]
theorem sqD_no {L : List Int} (h : valid L = false) : sqD L = 0 := by simp [sqD, h]
/-- what stands in the rows of the square, less the square -/
def sqArr (L : List Int) : List Int := (List.range 16).map fun j => if j < durS L then L.getD j 0 - (durS L : Int) else 0
def sqOk (d : Int) (R B : List Int) : Bool := decide (0 ≤ d) && decide (d ≤ 16) && valid R && valid B && decide ((R.length : Int) ≤ d) && decide (B.getD 0 0 ≤ d) && decide (d * d + sumL R + sumL B ≤ 16)
def sqPut (d : Int) (R B : List Int) : List Int := adp (List.replicate d.toNat d) R ++ B
def sqPutF (d : Int) (R B : List Int) : List Int := if sqOk d R B then sqPut d R B else []
theorem sqPutF_yes {d : Int} {R B : List Int} (h : sqOk d R B = true) : sqPutF d R B = sqPut d R B := by simp [sqPutF, h]
theorem sqPutF_no {d : Int} {R B : List Int} (h : sqOk d R B = false) : sqPutF d R B = [] := by simp [sqPutF, h]
theorem sqOk_iff (d : Int) (R B : List Int) : sqOk d R B = true ↔ 0 ≤ d ∧ d ≤ 16 ∧ valid R = true ∧ valid B = true ∧ (R.length : Int) ≤ d ∧ B.getD 0 0 ≤ d ∧ d * d + sumL R + sumL B ≤ 16 := by
  simp [sqOk, and_assoc]

def sqTab (N : List Nat) : Bool :=
  let L := N.map Int.ofNat
  valid (sqR L) && valid (sqB L) && decide (pad (sqR L) = sqArr L) && decide (sqR (conj L) = conj (sqB L)) && decide (sqB (conj L) = conj (sqR L)) && sqOk (durS L) (sqR L) (sqB L) && decide (sqPut (durS L) (sqR L) (sqB L) = L)
set_option maxRecDepth 100000 in
theorem sqTab_all : all16.all sqTab = true := by decide +kernel
theorem sq_facts {L : List Int} (h : valid L = true) : valid (sqR L) = true ∧ valid (sqB L) = true ∧ pad (sqR L) = sqArr L ∧ sqR (conj L) = conj (sqB L) ∧ sqB (conj L) = conj (sqR L) ∧ sqOk (durS L) (sqR L) (sqB L) = true ∧ sqPut (durS L) (sqR L) (sqB L) = L := by
  obtain ⟨N, hN, rfl⟩ := of_all sqTab_all h
  simp only [sqTab, Bool.and_eq_true, decide_eq_true_eq] at hN
  obtain ⟨⟨⟨⟨⟨⟨h1, h2⟩, h3⟩, h4⟩, h5⟩, h6⟩, h7⟩ := hN
  exact ⟨h1, h2, h3, h4, h5, h6, h7⟩
theorem sqRF_len (L : List Int) : (sqRF L).length ≤ 16 := by
  unfold sqRF
  split
  · rename_i h; exact (valid_bd (sq_facts h).1).2.2.2
  · simp
theorem sqBF_len (L : List Int) : (sqBF L).length ≤ 16 := by
  unfold sqBF
  split
  · rename_i h; exact (valid_bd (sq_facts h).2.1).2.2.2
  · simp

/-- the square itself -/
def sqs (n : Nat) : List Int := List.replicate n (n : Int)
theorem sqs_valid {n : Nat} (h : n ≤ 4) : valid (sqs n) = true := by
  match n, h with
  | 0, _ => rfl
  | 1, _ => rfl
  | 2, _ => rfl
  | 3, _ => rfl
  | 4, _ => rfl
theorem sumL_rep (n : Nat) (x : Int) : sumL (List.replicate n x) = (n : Int) * x := by
  induction n with
  | zero => simp [sumL]
  | succ n ih =>
    rw [List.replicate_succ]
    show x + sumL _ = _
    rw [ih, Int.natCast_add, Int.add_mul]
    simp
    omega
theorem sqs_sum (n : Nat) : sumL (sqs n) = (n : Int) * (n : Int) := sumL_rep n n
theorem sqs_getD (n i : Nat) : (sqs n).getD i 0 = if i < n then (n : Int) else 0 := by
  unfold sqs
  rw [List.getD_eq_getElem?_getD, List.getElem?_replicate]
  split <;> rfl
theorem sq4 {n : Nat} {x : Int} (hx : 0 ≤ x) (h : (n : Int) * (n : Int) + x ≤ 16) : n ≤ 4 := by
  rcases Nat.lt_or_ge 4 n with h1 | h1
  · have h2 : (5 : Int) * 5 ≤ (n : Int) * (n : Int) := Int.mul_le_mul (by omega) (by omega) (by omega) (by omega)
    omega
  · exact h1
theorem sq_put {n : Nat} {R B : List Int} (h : sqOk n R B = true) :
    two (sqs n) R = true ∧ two (adp (sqs n) R) B = true ∧ sqPut n R B = adp (sqs n) R ++ B ∧ mono (adp (sqs n) R ++ B) ∧ (adp (sqs n) R).length = n ∧ (∀ x ∈ adp (sqs n) R ++ B, 1 ≤ x) ∧ valid (sqPut n R B) = true := by
  obtain ⟨h0, h16, hvR, hvB, hRl, hB0, hs⟩ := (sqOk_iff _ _ _).1 h
  have bR := valid_bd hvR
  have bB := valid_bd hvB
  have h4 : n ≤ 4 := sq4 (x := sumL R + sumL B) (by omega) (by omega)
  have hv := sqs_valid h4
  have hss := sqs_sum n
  have t1 : two (sqs n) R = true := by simp [two, hv, hvR, hss]; omega
  have hvP := valid_adp t1
  have hsP := adp_sum (sqs n) R
  have t2 : two (adp (sqs n) R) B = true := by simp [two, hvP, hvB, hsP, hss]; omega
  have hlP : (adp (sqs n) R).length = n := by rw [adp_len]; simp [sqs]; omega
  have hge : ∀ x ∈ adp (sqs n) R, (n : Int) ≤ x := fun x hx => by
    obtain ⟨i, hi, rfl⟩ := List.getElem_of_mem hx
    have e := adp_getD (sqs n) R i
    rw [getD_lt hi, sqs_getD, if_pos (by omega)] at e
    have := (getD_nn hvR i).1
    omega
  have hle : ∀ y ∈ B, y ≤ (n : Int) := fun y hy => by
    have := head_ge hvB y hy
    have e : B.headD 0 = B.getD 0 0 := by cases B <;> rfl
    omega
  have hm : mono (adp (sqs n) R ++ B) := mono_append (mono_valid hvP) (mono_valid hvB) fun x hx y hy => by
    have := hge x hx
    have := hle y hy
    omega
  have h1 : ∀ x ∈ adp (sqs n) R ++ B, 1 ≤ x := fun x hx => by
    rcases List.mem_append.1 hx with hx | hx
    · exact valid_ge1 hvP x hx
    · exact valid_ge1 hvB x hx
  have hput : sqPut n R B = adp (sqs n) R ++ B := by unfold sqPut sqs; simp
  refine ⟨t1, t2, hput, hm, hlP, h1, ?_⟩
  rw [hput]
  exact valid_mono hm h1 (by rw [sumL_append, hsP, hss]; omega)
theorem sq_um {n : Nat} {R B : List Int} (h : sqOk n R B = true) : (um (fun i => (adp (sqs n) R).getD i 0) (fun i => B.getD i 0) 16).1 = pad (sqPut n R B) := by
  obtain ⟨_, t2, hp, hm, _, h1, _⟩ := sq_put h
  rw [hp]
  exact um_end t2 hm (fun k => eqc_append k _ _) (List.length_append) h1
theorem getD_app (A B : List Int) (j : Nat) : (A ++ B).getD j 0 = if j < A.length then A.getD j 0 else B.getD (j - A.length) 0 := by
  rw [List.getD_eq_getElem?_getD, List.getElem?_append]
  split <;> rw [List.getD_eq_getElem?_getD]
theorem sq_back {n : Nat} {R B : List Int} (h : sqOk n R B = true) : durS (sqPut n R B) = n ∧ sqR (sqPut n R B) = R ∧ sqB (sqPut n R B) = B := by
  obtain ⟨t1, t2, hp, hm, hl, h1, hv⟩ := sq_put h
  obtain ⟨h0, h16, hvR, hvB, hRl, hB0, hs⟩ := (sqOk_iff _ _ _).1 h
  have hg : ∀ j, j < n → (sqPut n R B).getD j 0 = (n : Int) + R.getD j 0 := fun j hj => by
    rw [hp, getD_app, if_pos (by omega), adp_getD, sqs_getD, if_pos hj]
  have hd : durS (sqPut n R B) = n := durS_unique (fun j hj => by rw [hg j hj]; have := (getD_nn hvR j).1; omega) (by
    rw [hp, getD_app, if_neg (by omega), hl, Nat.sub_self]
    omega)
  have hRt : ∀ k, k ≤ n → sqRT (sqPut n R B) (n : Int) k = R.take k := by
    intro k
    induction k with
    | zero => intro _; simp [sqRT]
    | succ k ih =>
      intro hk
      rw [sqRT_succ, ih (by omega), hg k (by omega)]
      by_cases hkR : k < R.length
      · have := getD_pos hvR hkR
        rw [if_pos (by omega), List.take_succ_eq_append_getElem hkR, getD_lt hkR]
        congr 2
        omega
      · rw [getD_ge (L := R) (by omega), if_neg (by omega), List.append_nil, List.take_of_length_le (by omega), List.take_of_length_le (by omega)]
  refine ⟨hd, ?_, ?_⟩
  · unfold sqR
    rw [hd, hRt n (Nat.le_refl _), List.take_of_length_le (by omega)]
  · unfold sqB
    rw [hd, hp, List.drop_append, List.drop_eq_nil_of_le (by omega), hl, Nat.sub_self]
    rfl
theorem sqPutF_len (d : Int) (R B : List Int) : (sqPutF d R B).length ≤ 16 := by
  unfold sqPutF
  split
  · rename_i h
    obtain ⟨n, rfl⟩ := Int.eq_ofNat_of_zero_le ((sqOk_iff _ _ _).1 h).1
    exact (valid_bd (sq_put h).2.2.2.2.2.2).2.2.2
  · simp

/-- doubled parts -/
def dbl (P : List Int) : List Int := P.map fun x => 2 * x
theorem adp_self (P : List Int) : adp P P = dbl P := by
  apply List.ext_getElem
  · simp [adp, dbl]
  · intro i h1 h2
    have hi : i < P.length := by simpa [dbl] using h2
    simp [adp, dbl, List.getElem?_eq_getElem hi]
    omega
theorem two_self (P : List Int) : two P P = (valid P && decide (2 * sumL P ≤ 16)) := by
  unfold two
  cases valid P <;> simp
  constructor <;> intro h <;> omega
theorem dbl_take (P : List Int) (k : Nat) (h : k < P.length) : dbl (P.take (k + 1)) = dbl (P.take k) ++ [2 * P[k]] := by
  unfold dbl
  rw [List.take_succ_eq_append_getElem h, List.map_append]
  rfl
end NP
end Go.Proofs.YtmlomapifldlpaaDoor
namespace Go.Proofs.YtmlomapifldlpaaDoor
namespace NP
set_option linter.unusedVariables false
/-- arms of the first d places -/
def armsTo (L : List Int) (d : Nat) : List Int := (List.range d).map fun (i : Nat) => L.getD i 0 - ((i : Int) + 1)
theorem armsTo_len (L : List Int) (d : Nat) : (armsTo L d).length = d := by simp [armsTo]
theorem armsTo_succ (L : List Int) (d : Nat) : armsTo L (d + 1) = armsTo L d ++ [L.getD d 0 - ((d : Int) + 1)] := by
  unfold armsTo; rw [List.range_succ, List.map_append]; rfl
theorem armsTo_getD (L : List Int) (d i : Nat) (h : i < d) : (armsTo L d).getD i 0 = L.getD i 0 - ((i : Int) + 1) := by
  rw [getD_lt (by rw [armsTo_len]; exact h)]; simp [armsTo]
theorem armsTo_congr {L M : List Int} (h : ∀ i, L.getD i 0 = M.getD i 0) (d : Nat) : armsTo L d = armsTo M d := by
  unfold armsTo; exact List.map_congr_left fun i _ => by rw [h]
def froA (L : List Int) : List Int := armsTo L (durS L)
def froB (L : List Int) : List Int := armsTo (conj L) (durS L)
def froAF (L : List Int) : List Int := if valid L then froA L else []
def froBF (L : List Int) : List Int := if valid L then froB L else []
theorem froAF_yes {L : List Int} (h : valid L = true) : froAF L = froA L := by simp [froAF, h]
theorem froAF_no {L : List Int} (h : valid L = false) : froAF L = [] := by simp [froAF, h]
theorem froBF_yes {L : List Int} (h : valid L = true) : froBF L = froB L := by simp [froBF, h]
theorem froBF_no {L : List Int} (h : valid L = false) : froBF L = [] := by simp [froBF, h]
theorem durS_le {L : List Int} (h : valid L = true) : durS L ≤ 16 := Nat.le_trans (durS_spec L).1 (valid_bd h).2.2.2
theorem froAF_len (L : List Int) : (froAF L).length ≤ 16 := by
  unfold froAF
  split
  · rename_i h; unfold froA; rw [armsTo_len]; exact durS_le h
  · simp
theorem froBF_len (L : List Int) : (froBF L).length ≤ 16 := by
  unfold froBF
  split
  · rename_i h; unfold froB; rw [armsTo_len]; exact durS_le h
  · simp
/-- how many of the first n places q holds at -/
def nb (q : Nat → Bool) : Nat → Nat
  | 0 => 0
  | n + 1 => nb q n + if q n then 1 else 0
theorem nb_le (q : Nat → Bool) (n : Nat) : nb q n ≤ n := by
  induction n with
  | zero => exact Nat.le_refl _
  | succ n ih => simp only [nb]; split <;> omega
theorem nb_to {q : Nat → Bool} {m : Nat} (n : Nat) (h : ∀ i, i < n → (q i = true ↔ i < m)) : nb q n = min n m := by
  induction n with
  | zero => simp [nb]
  | succ n ih =>
    rw [nb, ih fun i hi => h i (by omega)]
    have := h n (by omega)
    split
    · rename_i hq; have := this.1 hq; omega
    · rename_i hq
      have : ¬ n < m := fun hc => hq (this.2 hc)
      omega
theorem nb_mono {q r : Nat → Bool} (n : Nat) (h : ∀ i, i < n → q i = true → r i = true) : nb q n ≤ nb r n := by
  induction n with
  | zero => exact Nat.le_refl _
  | succ n ih =>
    have h1 := ih fun i hi => h i (by omega)
    have h2 := h n (by omega)
    simp only [nb]
    split
    · rename_i hq; rw [if_pos (h2 hq)]; omega
    · split <;> omega
theorem nb_all {q : Nat → Bool} (n : Nat) (h : ∀ i, i < n → q i = true) : nb q n = n := by
  rw [nb_to (m := n) n fun i hi => ⟨fun _ => hi, fun _ => h i hi⟩]; omega
/-- strictly falling numbers of at least 0, all less than m -/
def dnB (m : Int) (A : List Int) : Bool := decide (∀ i, i < A.length → (0 ≤ A.getD i 0 ∧ A.getD i 0 < m ∧ (0 < i → A.getD i 0 < A.getD (i - 1) 0)))
theorem dnB_iff (m : Int) (A : List Int) : dnB m A = true ↔ ∀ i, i < A.length → (0 ≤ A.getD i 0 ∧ A.getD i 0 < m ∧ (0 < i → A.getD i 0 < A.getD (i - 1) 0)) := by simp [dnB]
theorem dnB_at {m : Int} {A : List Int} {i : Nat} (hi : i < A.length) (h : ¬ (0 ≤ A.getD i 0 ∧ A.getD i 0 < m ∧ (0 < i → A.getD i 0 < A.getD (i - 1) 0))) : dnB m A = false := by
  cases hd : dnB m A with
  | false => rfl
  | true => exact absurd ((dnB_iff m A).1 hd i hi) h
/-- those of the arms ahead are greater by their distance -/
theorem dn_gap {m : Int} {A : List Int} (h : dnB m A = true) : ∀ i j, j ≤ i → i < A.length → A.getD i 0 + ((i : Int) - j) ≤ A.getD j 0 := by
  intro i
  induction i with
  | zero => intro j hj hi; obtain rfl : j = 0 := (by omega); omega
  | succ i ih =>
    intro j hj hi
    rcases Nat.lt_or_ge j (i + 1) with h1 | h1
    · have h2 := ((dnB_iff m A).1 h (i + 1) hi).2.2 (by omega)
      simp only [Nat.add_sub_cancel] at h2
      have := ih j (by omega) (by omega)
      omega
    · obtain rfl : j = i + 1 := by omega
      omega
theorem dn_low {m : Int} {A : List Int} (h : dnB m A = true) (i : Nat) (hi : i < A.length) : (A.length : Int) - 1 - i ≤ A.getD i 0 := by
  have h1 := dn_gap h (A.length - 1) i (by omega) (by omega)
  have h2 := ((dnB_iff m A).1 h (A.length - 1) (by omega)).1
  omega
def pofOk (A B : List Int) : Bool := dnB 16 A && dnB 16 B && decide (A.length = B.length) && decide (sumL A + sumL B + (A.length : Int) ≤ 16)
/-- how many of the legs come down to row j -/
def leg (B : List Int) (j : Nat) : Nat := nb (fun i => decide ((j : Int) ≤ B.getD i 0 + i)) B.length
def pofG (A B : List Int) (j : Nat) : Int := if j < A.length then A.getD j 0 + j + 1 else leg B j
def pofN (A B : List Int) : Nat := if A.length = 0 then 0 else (B.getD 0 0 + 1).toNat
/-- the parts of arms and legs -/
def pof (A B : List Int) : List Int := (List.range (pofN A B)).map fun (j : Nat) => pofG A B j
theorem pof_len (A B : List Int) : (pof A B).length = pofN A B := by simp [pof]
theorem pof_getD (A B : List Int) (j : Nat) : (pof A B).getD j 0 = if j < pofN A B then pofG A B j else 0 := by
  by_cases h : j < pofN A B
  · rw [getD_lt (by rw [pof_len]; exact h), if_pos h]; simp [pof]
  · rw [getD_ge (by rw [pof_len]; omega), if_neg h]
theorem pofOk_out {A B : List Int} (h : pofOk A B = true) : dnB 16 A = true ∧ dnB 16 B = true ∧ A.length = B.length ∧ sumL A + sumL B + (A.length : Int) ≤ 16 := by
  unfold pofOk at h
  simp only [Bool.and_eq_true, decide_eq_true_eq] at h
  exact ⟨h.1.1.1, h.1.1.2, h.1.2, h.2⟩
def pre2 (A B : List Int) : Prop := dnB 16 A = true ∧ dnB 16 B = true ∧ A.length = B.length
theorem pofOk_pre {A B : List Int} (h : pofOk A B = true) : pre2 A B := ⟨(pofOk_out h).1, (pofOk_out h).2.1, (pofOk_out h).2.2.1⟩
theorem leg_anti (B : List Int) {j k : Nat} (h : j ≤ k) : leg B k ≤ leg B j := nb_mono _ fun i _ hi => by
  have := of_decide_eq_true hi
  exact decide_eq_true (by omega)
theorem leg_zero {B : List Int} (hB : dnB 16 B = true) {j : Nat} (h : B.getD 0 0 < j) : leg B j = 0 := by
  have : leg B j = min B.length 0 := nb_to _ fun i hi => ⟨fun hq => by
    have h1 := of_decide_eq_true hq
    have h2 := dn_gap hB i 0 (by omega) hi
    omega, fun hq => by omega⟩
  omega
theorem leg_le (B : List Int) (j : Nat) : leg B j ≤ B.length := nb_le _ _
theorem leg_pos {B : List Int} (h0 : 0 < B.length) {j : Nat} (h : (j : Int) ≤ B.getD 0 0) : 1 ≤ leg B j := by
  have e : nb (fun i => decide ((j : Int) ≤ B.getD i 0 + i)) 1 = 1 := by
    have e0 : (fun (i : Nat) => decide ((j : Int) ≤ B.getD i 0 + i)) 0 = true := decide_eq_true (by show (j : Int) ≤ B.getD 0 0 + ((0 : Nat) : Int); omega)
    show 0 + (if (fun (i : Nat) => decide ((j : Int) ≤ B.getD i 0 + i)) 0 = true then 1 else 0) = 1
    rw [if_pos e0]
  have : ∀ n, 1 ≤ n → 1 ≤ nb (fun i => decide ((j : Int) ≤ B.getD i 0 + i)) n := by
    intro n hn
    induction n with
    | zero => omega
    | succ n ih =>
      rcases Nat.eq_zero_or_pos n with h1 | h1
      · subst h1; exact Nat.le_of_eq e.symm
      · have := ih h1; simp only [nb]; split <;> omega
  exact this _ h0
theorem pofN_ge {A B : List Int} (h : pre2 A B) : A.length ≤ pofN A B ∧ pofN A B ≤ 16 := by
  obtain ⟨hA, hB, hl⟩ := id h
  unfold pofN
  split
  · omega
  · have h1 := dn_low hB 0 (by omega)
    have h2 := (dnB_iff 16 B).1 hB 0 (by omega)
    omega
theorem pof_pos {A B : List Int} (h : pre2 A B) {j : Nat} (hj : j < pofN A B) : 1 ≤ pofG A B j ∧ pofG A B j ≤ 32 := by
  obtain ⟨hA, hB, hl⟩ := id h
  have hN := pofN_ge h
  unfold pofG
  split
  · rename_i hj2
    have := (dnB_iff 16 A).1 hA j hj2
    omega
  · rename_i hj2
    unfold pofN at hj
    split at hj
    · omega
    · have h1 := leg_pos (B := B) (by omega) (j := j) (by omega)
      have h2 := leg_le B j
      omega
theorem pof_fall {A B : List Int} (h : pre2 A B) {j : Nat} (hj : j + 1 < pofN A B) : pofG A B (j + 1) ≤ pofG A B j := by
  obtain ⟨hA, hB, hl⟩ := id h
  unfold pofG
  by_cases h1 : j + 1 < A.length
  · rw [if_pos h1, if_pos (by omega)]
    have := dn_gap hA (j + 1) j (by omega) h1
    omega
  · rw [if_neg h1]
    by_cases h2 : j < A.length
    · rw [if_pos h2]
      have := (dnB_iff 16 A).1 hA j h2
      have h3 := leg_le B (j + 1)
      omega
    · rw [if_neg h2]
      have := leg_anti B (show j ≤ j + 1 by omega)
      omega
/-- what row i of the diagonal gives to row j -/
def ctr (A B : List Int) (i j : Nat) : Int := (if j = i then 1 + A.getD i 0 else 0) + (if i + 1 ≤ j ∧ (j : Int) ≤ i + B.getD i 0 then 1 else 0)
def fro (A B : List Int) : Nat → Nat → Int
  | 0, _ => 0
  | n + 1, j => fro A B n j + ctr A B n j
/-- the program's diagram, when n rows of the diagonal are done, the arm of the next (t) and k cells of its leg -/
def fmid (A B : List Int) (n : Nat) (t : Bool) (k : Nat) : List Int := (List.range 16).map fun j => fro A B n j + (if t = true ∧ j = n then 1 + A.getD n 0 else 0) + (if n + 1 ≤ j ∧ j < n + 1 + k then 1 else 0)
theorem fmid_len (A B : List Int) (n : Nat) (t : Bool) (k : Nat) : (fmid A B n t k).length = 16 := by simp [fmid]
theorem fmid_get (A B : List Int) (n : Nat) (t : Bool) (k j : Nat) (h : j < (fmid A B n t k).length) : (fmid A B n t k)[j] = fro A B n j + (if t = true ∧ j = n then 1 + A.getD n 0 else 0) + (if n + 1 ≤ j ∧ j < n + 1 + k then 1 else 0) := by simp [fmid]
theorem fmid_zero (A B : List Int) : fmid A B 0 false 0 = List.replicate 16 0 := by
  apply List.ext_getElem
  · rw [fmid_len]; rfl
  · intro j h1 h2
    rw [fmid_get, List.getElem_replicate]
    simp [fro]
    omega
theorem fmid_arm (A B : List Int) (n : Nat) : (fmid A B n false 0).set n (fro A B n n + (1 + A.getD n 0)) = fmid A B n true 0 := by
  apply List.ext_getElem
  · rw [List.length_set, fmid_len, fmid_len]
  · intro j h1 h2
    by_cases hj : n = j
    · subst hj
      rw [List.getElem_set_self, fmid_get, if_pos ⟨rfl, rfl⟩, if_neg (show ¬ (n + 1 ≤ n ∧ n < n + 1 + 0) by omega)]
      omega
    · rw [List.getElem_set_ne hj, fmid_get, fmid_get]
      have : ¬ j = n := fun e => hj e.symm
      simp [this]
theorem fmid_leg (A B : List Int) (n k : Nat) : (fmid A B n true k).set (n + 1 + k) (fro A B n (n + 1 + k) + 1) = fmid A B n true (k + 1) := by
  apply List.ext_getElem
  · rw [List.length_set, fmid_len, fmid_len]
  · intro j h1 h2
    by_cases hj : n + 1 + k = j
    · subst hj
      rw [List.getElem_set_self, fmid_get, if_neg (by omega), if_pos (by omega)]
      omega
    · rw [List.getElem_set_ne hj, fmid_get, fmid_get]
      congr 1
      by_cases h3 : n + 1 ≤ j ∧ j < n + 1 + k
      · rw [if_pos h3, if_pos (by omega)]
      · rw [if_neg h3, if_neg (by omega)]
theorem fmid_next (A B : List Int) (n k : Nat) (hk : (k : Int) = B.getD n 0) : fmid A B n true k = fmid A B (n + 1) false 0 := by
  apply List.ext_getElem
  · rw [fmid_len, fmid_len]
  · intro j h1 h2
    rw [fmid_get, fmid_get]
    simp only [fro, ctr, true_and, Bool.false_eq_true, false_and, if_false]
    rw [if_neg (by omega : ¬ (n + 1 + 1 ≤ j ∧ j < n + 1 + 1 + 0))]
    (repeat' split) <;> omega
theorem fro_eq (A B : List Int) (j : Nat) : ∀ n, fro A B n j = (if j < n then 1 + A.getD j 0 else 0) + (nb (fun i => decide (i + 1 ≤ j) && decide ((j : Int) ≤ i + B.getD i 0)) n : Nat) := by
  intro n
  induction n with
  | zero => rfl
  | succ n ih =>
    rw [fro, ih, ctr, nb]
    have e : (if n + 1 ≤ j ∧ (j : Int) ≤ n + B.getD n 0 then (1 : Int) else 0) = (((if (decide (n + 1 ≤ j) && decide ((j : Int) ≤ n + B.getD n 0)) = true then 1 else 0 : Nat)) : Int) := by
      by_cases hc : n + 1 ≤ j ∧ (j : Int) ≤ n + B.getD n 0
      · rw [if_pos hc, if_pos (by rw [decide_eq_true hc.1, decide_eq_true hc.2]; rfl)]; rfl
      · rw [if_neg hc, if_neg (by intro hq; rw [Bool.and_eq_true, decide_eq_true_eq, decide_eq_true_eq] at hq; exact hc hq)]; rfl
    rw [e]
    by_cases h1 : j = n
    · subst h1
      rw [if_pos rfl, if_neg (show ¬ j < j by omega), if_pos (show j < j + 1 by omega)]
      omega
    · rw [if_neg h1]
      by_cases h2 : j < n
      · rw [if_pos h2, if_pos (show j < n + 1 by omega)]; omega
      · rw [if_neg h2, if_neg (show ¬ j < n + 1 by omega)]; omega
theorem fro_bd {A B : List Int} (hA : dnB 16 A = true) {n j : Nat} (hn : n ≤ A.length) (hn16 : n ≤ 16) : 0 ≤ fro A B n j ∧ fro A B n j ≤ 40 := by
  rw [fro_eq]
  have := nb_le (fun i => decide (i + 1 ≤ j) && decide ((j : Int) ≤ i + B.getD i 0)) n
  split
  · rename_i h
    have := (dnB_iff 16 A).1 hA j (by omega)
    omega
  · omega
theorem fro_end {A B : List Int} (h : pre2 A B) (j : Nat) : fro A B A.length j = if j < pofN A B then pofG A B j else 0 := by
  obtain ⟨hA, hB, hl⟩ := id h
  have hN := pofN_ge h
  rw [fro_eq]
  by_cases h1 : j < A.length
  · rw [if_pos h1, if_pos (by omega), pofG, if_pos h1]
    have : nb (fun i => decide (i + 1 ≤ j) && decide ((j : Int) ≤ i + B.getD i 0)) A.length = min A.length j := nb_to _ fun i hi => by
      have := dn_low hB i (by omega)
      rw [Bool.and_eq_true, decide_eq_true_eq, decide_eq_true_eq]
      omega
    rw [this]
    omega
  · rw [if_neg h1]
    have e : nb (fun i => decide (i + 1 ≤ j) && decide ((j : Int) ≤ i + B.getD i 0)) A.length = leg B j := by
      unfold leg
      rw [← hl]
      have : ∀ n, n ≤ A.length → nb (fun i => decide (i + 1 ≤ j) && decide ((j : Int) ≤ i + B.getD i 0)) n = nb (fun i => decide ((j : Int) ≤ B.getD i 0 + i)) n := by
        intro n
        induction n with
        | zero => intro _; rfl
        | succ n ih =>
          intro hn
          rw [nb, nb, ih (by omega)]
          congr 1
          rw [decide_eq_true (by omega : n + 1 ≤ j), Bool.true_and, Int.add_comm]
      exact this _ (Nat.le_refl _)
    rw [e]
    by_cases h2 : j < pofN A B
    · rw [if_pos h2, pofG, if_neg h1]; omega
    · rw [if_neg h2]
      unfold pofN at h2
      split at h2
      · rename_i h0
        unfold leg
        rw [← hl, h0]
        rfl
      · have h5 := (dnB_iff 16 B).1 hB 0 (by omega)
        rw [leg_zero hB (by omega)]; omega
theorem fmid_end {A B : List Int} (h : pre2 A B) : fmid A B A.length false 0 = pad (pof A B) := by
  have hN := pofN_ge h
  have hl : (pof A B).length ≤ 16 := by rw [pof_len]; exact hN.2
  apply List.ext_getElem
  · rw [fmid_len, pad_len hl]
  · intro j h1 h2
    rw [fmid_get]
    have e := pad_getD hl j
    rw [getD_lt h2, pof_getD] at e
    rw [e, fro_end h]
    simp
    omega
/-- the sum of the program's diagram -/
theorem sumTo_ctr (A B : List Int) (i : Nat) (hi : i < 16) (hA : 0 ≤ B.getD i 0) (hB : i + B.getD i 0 ≤ 15) : ∀ n, (n : Nat) ≤ 16 → sumTo ((List.range 16).map fun j => ctr A B i j) n = (if i < n then 1 + A.getD i 0 else 0) + (if (n : Int) ≤ i + 1 then 0 else if (n : Int) ≤ i + 1 + B.getD i 0 then (n : Int) - (i + 1) else B.getD i 0) := by
  intro n
  induction n with
  | zero => intro _; simp [sumTo]; omega
  | succ n ih =>
    intro hn
    have e : ((List.range 16).map fun j => ctr A B i j).getD n 0 = ctr A B i n := by rw [getD_lt (by simp; omega)]; simp
    rw [sumTo, ih (by omega), e, ctr]
    (repeat' split) <;> omega
theorem sumTo_fro (A B : List Int) (m : Nat) : ∀ d, sumTo ((List.range 16).map fun j => fro A B (d + 1) j) m = sumTo ((List.range 16).map fun j => fro A B d j) m + sumTo ((List.range 16).map fun j => ctr A B d j) m := by
  intro d
  induction m with
  | zero => rfl
  | succ m ih =>
    rw [sumTo, sumTo, sumTo, ih]
    have e : ∀ (f : Nat → Int), ((List.range 16).map f).getD m 0 = if m < 16 then f m else 0 := fun f => by
      by_cases h : m < 16
      · rw [getD_lt (by simp; exact h), if_pos h]; simp
      · rw [getD_ge (by simp; omega), if_neg h]
    rw [e, e, e]
    split
    · rw [fro]; omega
    · omega
theorem pof_sum {A B : List Int} (h : pre2 A B) : sumL (pof A B) = sumL A + sumL B + A.length := by
  obtain ⟨hA, hB, hl⟩ := id h
  have hN := pofN_ge h
  have key : ∀ d, d ≤ A.length → sumTo ((List.range 16).map fun j => fro A B d j) 16 = sumTo A d + sumTo B d + d := by
    intro d
    induction d with
    | zero =>
      intro _
      have : ∀ n, sumTo ((List.range 16).map fun j => fro A B 0 j) n = 0 := by
        intro n
        induction n with
        | zero => rfl
        | succ n ih =>
          rw [sumTo, ih]
          rcases Nat.lt_or_ge n 16 with h | h
          · rw [getD_lt (by simp; exact h)]; simp [fro]
          · rw [getD_ge (by simp; omega)]; rfl
      rw [this]; rfl
    | succ d ih =>
      intro hd
      have h1 := (dnB_iff 16 B).1 hB d (by omega)
      have h2 := dn_gap hB d 0 (by omega) (by omega)
      have h3 := (dnB_iff 16 B).1 hB 0 (by omega)
      rw [sumTo_fro, ih (by omega), sumTo_ctr A B d (by omega) h1.1 (by omega) 16 (Nat.le_refl _), sumTo, sumTo]
      (repeat' split) <;> omega
  have e := key A.length (Nat.le_refl _)
  rw [sumTo_all A _ (Nat.le_refl _), sumTo_all B _ (by omega)] at e
  have e2 : ((List.range 16).map fun j => fro A B A.length j) = pad (pof A B) := by
    rw [← fmid_end h]
    unfold fmid
    apply List.map_congr_left
    intro j _
    simp
    omega
  rw [e2] at e
  have hl2 : (pof A B).length ≤ 16 := by rw [pof_len]; exact hN.2
  have e3 : sumTo (pad (pof A B)) 16 = sumTo (pof A B) 16 := by
    have : ∀ n, sumTo (pad (pof A B)) n = sumTo (pof A B) n := by
      intro n
      induction n with
      | zero => rfl
      | succ n ih => rw [sumTo, sumTo, ih, pad_getD hl2]
    exact this 16
  rw [e3, sumTo_all _ 16 hl2] at e
  exact e
theorem valid_pof {A B : List Int} (h0 : pofOk A B = true) : valid (pof A B) = true := by
  have h := pofOk_pre h0
  have hN := pofN_ge h
  have hs := pof_sum h
  have ho := (pofOk_out h0).2.2.2
  apply valid_of_preS _ (by omega)
  have hge : ∀ x ∈ pof A B, 0 ≤ x := fun x hx => by
    obtain ⟨k, hk, rfl⟩ := List.getElem_of_mem hx
    rw [← getD_lt hk, pof_getD]
    split
    · rename_i h1; have := pof_pos h h1; omega
    · omega
  intro j hj _
  have hj2 : j < pofN A B := by rw [pof_len] at hj; exact hj
  have hb := (elem_le_sum hge hj).1
  have e : (pof A B)[j] = pofG A B j := by rw [← getD_lt hj, pof_getD, if_pos hj2]
  have hp := pof_pos h hj2
  refine ⟨by omega, by omega, fun hj0 => ?_⟩
  have e2 : (pof A B)[j - 1]'(by omega) = pofG A B (j - 1) := by rw [← getD_lt (by omega), pof_getD, if_pos (by omega)]
  have := pof_fall h (j := j - 1) (by omega)
  rw [show j - 1 + 1 = j by omega] at this
  omega
def pofF (A B : List Int) : List Int := if pofOk A B then pof A B else []
theorem pofF_yes {A B : List Int} (h : pofOk A B = true) : pofF A B = pof A B := by simp [pofF, h]
theorem pofF_no {A B : List Int} (h : pofOk A B = false) : pofF A B = [] := by simp [pofF, h]
theorem pofF_len (A B : List Int) : (pofF A B).length ≤ 16 := by
  unfold pofF
  split
  · rename_i h; rw [pof_len]; exact (pofN_ge (pofOk_pre h)).2
  · simp
theorem conj_getD' {L : List Int} (h : valid L = true) (j : Nat) : (conj L).getD j 0 = cnt ((j : Int) + 1) L := by
  rcases Nat.lt_or_ge j (conj L).length with h1 | h1
  · rw [getD_lt h1, conj_get]
  · rw [getD_ge h1]
    rw [conj_len] at h1
    exact (cnt_none fun x hx => by have := head_ge h x hx; omega).symm
theorem dur_lt {L : List Int} {i : Nat} (h : i < durS L) : (i : Int) < L.getD i 0 := (durS_spec L).2.1 i h
theorem froA_dn {L : List Int} (hv : valid L = true) : dnB 16 (froA L) = true := by
  rw [dnB_iff]
  intro i hi
  unfold froA at hi ⊢
  rw [armsTo_len] at hi
  rw [armsTo_getD _ _ _ hi]
  have h1 := dur_lt hi
  have h2 := getD_nn hv i
  refine ⟨by omega, by omega, fun h0 => ?_⟩
  rw [armsTo_getD _ _ _ (by omega)]
  have := getD_fall hv i h0
  omega
theorem froA_conj {L : List Int} (hv : valid L = true) : froA (conj L) = froB L := by unfold froA froB; rw [durS_conj hv]
theorem froB_conj {L : List Int} (hv : valid L = true) : froB (conj L) = froA L := by unfold froA froB; rw [durS_conj hv, conj_conj hv]
theorem fro_pre {L : List Int} (hv : valid L = true) : pre2 (froA L) (froB L) :=
  ⟨froA_dn hv, by rw [← froA_conj hv]; exact froA_dn (valid_conj hv), by unfold froA froB; rw [armsTo_len, armsTo_len]⟩
theorem pof_fro {L : List Int} (hv : valid L = true) : pof (froA L) (froB L) = L := by
  have hA : (froA L).length = durS L := armsTo_len _ _
  have hB : (froB L).length = durS L := armsTo_len _ _
  have hds := durS_spec L
  have hlen : pofN (froA L) (froB L) = L.length := by
    unfold pofN
    rw [hA]
    have h0 := durS_pos hv
    split
    · omega
    · unfold froB
      rw [armsTo_getD _ _ _ (by omega)]
      have hc := head_conj hv
      have e : (conj L).getD 0 0 = (conj L).headD 0 := by cases conj L <;> rfl
      rw [e]
      have := headD_bd (valid_conj hv)
      omega
  apply List.ext_getElem
  · rw [pof_len, hlen]
  · intro j h1 h2
    rw [← getD_lt h1, ← getD_lt h2, pof_getD, if_pos (by omega), pofG, hA]
    by_cases hj : j < durS L
    · rw [if_pos hj]
      unfold froA
      rw [armsTo_getD _ _ _ hj]
      omega
    · rw [if_neg hj]
      have hle : L.getD j 0 ≤ durS L := by
        have h3 : L.getD j 0 ≤ L.getD (durS L) 0 := by
          rw [getD_lt h2, getD_lt (by omega)]
          exact falls_all hv j (durS L) h2 (by omega)
        have := hds.2.2
        omega
      have hnn := getD_nn hv j
      have : leg (froB L) j = min (durS L) (L.getD j 0).toNat := by
        unfold leg
        rw [hB]
        refine nb_to _ fun i hi => ?_
        have e : (froB L).getD i 0 = (conj L).getD i 0 - ((i : Int) + 1) := by unfold froB; exact armsTo_getD _ _ _ hi
        rw [decide_eq_true_eq, e, conj_getD' hv]
        have := cnt_ge_iff hv h2 ((i : Int) + 1)
        rw [getD_lt h2] at hnn ⊢
        omega
      rw [this]
      omega
theorem pofOk_fro {L : List Int} (hv : valid L = true) : pofOk (froA L) (froB L) = true := by
  have hp := fro_pre hv
  have hs := pof_sum hp
  rw [pof_fro hv] at hs
  have := (valid_bd hv).2.1
  unfold pofOk
  rw [hp.1, hp.2.1, decide_eq_true hp.2.2, decide_eq_true (by omega)]
  rfl
end NP
end Go.Proofs.YtmlomapifldlpaaDoor
namespace Go.Proofs.YtmlomapifldlpaaDoor
namespace NP
set_option linter.unusedVariables false
theorem nb_ge {q : Nat → Bool} {m : Nat} (n : Nat) (hm : m ≤ n) (h : ∀ i, i < m → q i = true) : m ≤ nb q n := by
  induction n with
  | zero => omega
  | succ n ih =>
    simp only [nb]
    rcases Nat.lt_or_ge n m with h1 | h1
    · have e := nb_all (q := q) n fun i hi => h i (by omega)
      rw [e, if_pos (h n h1)]; omega
    · have := ih h1
      omega
theorem nb_few {q : Nat → Bool} {m : Nat} (n : Nat) (h : ∀ i, i < n → q i = true → i < m) : nb q n ≤ m := by
  have key : nb q n ≤ nb (fun i => decide (i < m)) n := nb_mono n fun i hi hq => decide_eq_true (h i hi hq)
  have e : nb (fun i => decide (i < m)) n = min n m := nb_to n fun i _ => by simp
  omega
theorem pof_dur {A B : List Int} (h : pofOk A B = true) : durS (pof A B) = A.length := by
  have hp := pofOk_pre h
  have hN := pofN_ge hp
  refine durS_unique (fun j hj => ?_) ?_
  · rw [pof_getD, if_pos (by omega), pofG, if_pos hj]
    have := (dnB_iff 16 A).1 hp.1 j hj
    omega
  · rw [pof_getD]
    split
    · rw [pofG, if_neg (by omega)]
      have := leg_le B A.length
      have := hp.2.2
      omega
    · omega
theorem froA_pof {A B : List Int} (h : pofOk A B = true) : froA (pof A B) = A := by
  have hp := pofOk_pre h
  have hN := pofN_ge hp
  unfold froA
  rw [pof_dur h]
  apply List.ext_getElem
  · rw [armsTo_len]
  · intro j h1 h2
    rw [← getD_lt h1, ← getD_lt h2, armsTo_getD _ _ _ h2, pof_getD, if_pos (by omega), pofG, if_pos h2]
    omega
theorem cnt_pof {A B : List Int} (h : pofOk A B = true) {i : Nat} (hi : i < A.length) : cnt ((i : Int) + 1) (pof A B) = B.getD i 0 + i + 1 := by
  have hp := pofOk_pre h
  have hN := pofN_ge hp
  have hv := valid_pof h
  have hl := hp.2.2
  have hb := (dnB_iff 16 B).1 hp.2.1 i (by omega)
  have hlow := dn_low hp.2.1 i (by omega)
  have hgap := dn_gap hp.2.1 i 0 (by omega) (by omega)
  have hb0 := (dnB_iff 16 B).1 hp.2.1 0 (by omega)
  have hNe : (pofN A B : Int) = B.getD 0 0 + 1 := by unfold pofN; rw [if_neg (by omega)]; omega
  obtain ⟨m, hm⟩ : ∃ m : Nat, (m : Int) = B.getD i 0 + i + 1 := ⟨(B.getD i 0 + i + 1).toNat, by omega⟩
  have hmN : m ≤ pofN A B := by omega
  have hlen := pof_len A B
  have lo : (m : Int) ≤ cnt ((i : Int) + 1) (pof A B) := by
    have h1 : m - 1 < (pof A B).length := by omega
    have h2 := (cnt_ge_iff hv h1 ((i : Int) + 1)).2 (by
      rw [← getD_lt h1, pof_getD, if_pos (by omega), pofG]
      split
      · have := dn_low hp.1 (m - 1) (by omega)
        omega
      · have : i + 1 ≤ leg B (m - 1) := nb_ge _ (by omega) fun i' hi' => decide_eq_true (by
          have := dn_gap hp.2.1 i i' (by omega) (by omega)
          omega)
        omega)
    omega
  have hi' : cnt ((i : Int) + 1) (pof A B) ≤ m := by
    rcases Nat.lt_or_ge m (pofN A B) with h1 | h1
    · have h2 : m < (pof A B).length := by omega
      have h3 := cnt_ge_iff hv h2 ((i : Int) + 1)
      have h4 : ¬ ((i : Int) + 1 ≤ (pof A B)[m]) := by
        rw [← getD_lt h2, pof_getD, if_pos h1, pofG, if_neg (by omega)]
        have : leg B m ≤ i := nb_few _ fun i' hi' hq => by
          have hq' := of_decide_eq_true hq
          rcases Nat.lt_or_ge i' i with h5 | h5
          · exact h5
          · have := dn_gap hp.2.1 i' i h5 hi'
            omega
        omega
      have : ¬ ((m : Int) + 1 ≤ cnt ((i : Int) + 1) (pof A B)) := fun hc => h4 (h3.1 hc)
      omega
    · have := (cnt_bd ((i : Int) + 1) (pof A B)).2
      omega
  omega
theorem froB_pof {A B : List Int} (h : pofOk A B = true) : froB (pof A B) = B := by
  have hp := pofOk_pre h
  unfold froB
  rw [pof_dur h]
  apply List.ext_getElem
  · rw [armsTo_len]; exact hp.2.2
  · intro j h1 h2
    have hj : j < A.length := by rw [armsTo_len] at h1; exact h1
    rw [← getD_lt h1, ← getD_lt h2, armsTo_getD _ _ _ hj, conj_getD' (valid_pof h), cnt_pof h hj]
    omega
end NP
end Go.Proofs.YtmlomapifldlpaaDoor
namespace Go.Proofs.YtmlomapifldlpaaDoor
namespace NP
set_option linter.unusedVariables false
def allTo (p : Nat → Bool) (n : Nat) : Bool := (List.range n).all p
theorem allTo_iff (p : Nat → Bool) (n : Nat) : allTo p n = true ↔ ∀ j, j < n → p j = true := by simp [allTo]
theorem allTo_no {p : Nat → Bool} {n j : Nat} (hj : j < n) (h : p j = false) : allTo p n = false := by
  cases e : allTo p n with
  | false => rfl
  | true => rw [(allTo_iff p n).1 e j hj] at h; exact h
theorem allTo_yes {p : Nat → Bool} {n : Nat} (h : ∀ j, j < n → p j = true) : allTo p n = true := (allTo_iff p n).2 h

def kRem (m r : Int) (L : List Int) : Bool := allTo (fun j => L.getD j 0 % m == r || L.getD j 0 % m == m - r) L.length
def kFall (s t : Int) (L : List Int) : Bool := allTo (fun j => decide ((if L.getD j 0 % 3 = 0 then t else s) ≤ L.getD j 0 - L.getD (j + 1) 0)) (L.length - 1)
def kSelf (L : List Int) : Bool := decide (L = conj L)
def kNoOne (L : List Int) : Bool := allTo (fun j => decide (L.getD j 0 ≠ 1)) L.length
def kNone (m : Nat) (L : List Int) : Bool := allTo (fun j => decide (L.getD j 0 ≠ L.getD (j + (m - 1)) 0)) (L.length - (m - 1))

/-- a stair -/
def stairs (s : Nat) : List Int := (List.range s).map fun (i : Nat) => (s : Int) - (i : Int)
theorem stairs_len (s : Nat) : (stairs s).length = s := by simp [stairs]
theorem stairs_getD (s i : Nat) : (stairs s).getD i 0 = if i < s then (s : Int) - (i : Int) else 0 := by
  unfold stairs
  rw [List.getD_eq_getElem?_getD, List.getElem?_map]
  by_cases h : i < s
  · rw [List.getElem?_range h, if_pos h]; rfl
  · rw [List.getElem?_eq_none (by simp; omega), if_neg h]; rfl
theorem stairs_sum {s : Nat} (h : s ≤ 16) : sumL (stairs s) = (s : Int) * ((s : Int) + 1) / 2 := by
  have : ∀ s : Nat, s < 17 → sumL (stairs s) = (s : Int) * ((s : Int) + 1) / 2 := by decide +kernel
  exact this s (by omega)
theorem stairs_mul {s : Nat} (h : s ≤ 16) : 0 ≤ (s : Int) * ((s : Int) + 1) ∧ (s : Int) * ((s : Int) + 1) ≤ 272 := by
  have : ∀ s : Nat, s < 17 → 0 ≤ (s : Int) * ((s : Int) + 1) ∧ (s : Int) * ((s : Int) + 1) ≤ 272 := by decide +kernel
  exact this s (by omega)
theorem stairs_five {s : Nat} (h : s ≤ 16) (h2 : (s : Int) * ((s : Int) + 1) / 2 ≤ 16) : s ≤ 5 := by
  have : ∀ s : Nat, s < 17 → (s : Int) * ((s : Int) + 1) / 2 ≤ 16 → s ≤ 5 := by decide +kernel
  exact this s (by omega) h2
theorem stairs_valid {s : Nat} (h : s ≤ 5) : valid (stairs s) = true := by
  have : ∀ s : Nat, s < 6 → valid (stairs s) = true := by decide +kernel
  exact this s (by omega)
def stOk (P : List Int) (k : Int) : Bool := valid P && decide ((P.length : Int) ≤ k) && decide (k ≤ 16) && decide (sumL P + k * (k + 1) / 2 ≤ 16)
def stPut (P : List Int) (k : Int) : List Int := adp P (stairs k.toNat)
def stPutF (P : List Int) (k : Int) : List Int := if stOk P k then stPut P k else []
theorem stPutF_yes {P : List Int} {k : Int} (h : stOk P k = true) : stPutF P k = stPut P k := by simp [stPutF, h]
theorem stPutF_no {P : List Int} {k : Int} (h : stOk P k = false) : stPutF P k = [] := by simp [stPutF, h]
theorem stOk_iff (P : List Int) (k : Int) : stOk P k = true ↔ valid P = true ∧ (P.length : Int) ≤ k ∧ k ≤ 16 ∧ sumL P + k * (k + 1) / 2 ≤ 16 := by
  unfold stOk; simp only [Bool.and_eq_true, decide_eq_true_eq, and_assoc]
theorem st_put {P : List Int} {s : Nat} (h : stOk P s = true) : s ≤ 5 ∧ two P (stairs s) = true ∧ valid (stPut P s) = true ∧ stPut P s = adp P (stairs s) := by
  obtain ⟨hv, hl, h16, hs⟩ := (stOk_iff _ _).1 h
  have hb := valid_bd hv
  have h5 : s ≤ 5 := stairs_five (by omega) (by omega)
  have ht : two P (stairs s) = true := by
    unfold two
    rw [hv, stairs_valid h5, stairs_sum (by omega)]
    simp only [Bool.and_self, Bool.true_and, decide_eq_true_eq]
    exact hs
  have he : stPut P s = adp P (stairs s) := by unfold stPut; rw [Int.toNat_natCast]
  exact ⟨h5, ht, he ▸ valid_adp ht, he⟩
theorem stPutF_len (P : List Int) (k : Int) : (stPutF P k).length ≤ 16 := by
  unfold stPutF
  split
  · rename_i h
    have h1 := (stOk_iff _ _).1 h
    obtain ⟨s, rfl⟩ := Int.eq_ofNat_of_zero_le (show 0 ≤ k by omega)
    exact (valid_bd (st_put h).2.2.1).2.2.2
  · simp

/-- what is left on a stair -/
def stT (L : List Int) (k : Nat) : List Int := ((List.range k).filter fun (i : Nat) => decide (0 < L.getD i 0 - ((L.length : Int) - (i : Int)))).map fun (i : Nat) => L.getD i 0 - ((L.length : Int) - (i : Int))
theorem stT_succ (L : List Int) (k : Nat) : stT L (k + 1) = stT L k ++ if 0 < L.getD k 0 - ((L.length : Int) - (k : Int)) then [L.getD k 0 - ((L.length : Int) - (k : Int))] else [] := by
  unfold stT
  rw [List.range_succ, List.filter_append, List.map_append]
  obtain ⟨f, hf⟩ : ∃ f : Nat → Int, ∀ i, L.getD i 0 - ((L.length : Int) - (i : Int)) = f i := ⟨_, fun _ => rfl⟩
  simp only [hf]
  congr 1
  by_cases h : 0 < f k <;> simp [h]
theorem stT_len (L : List Int) (k : Nat) : (stT L k).length ≤ k := by
  unfold stT
  rw [List.length_map]
  exact Nat.le_trans (List.length_filter_le _ _) (by simp)
def stCut (L : List Int) : List Int := stT L L.length
def stArr (L : List Int) : List Int := (List.range 16).map fun (j : Nat) => if j < L.length then L.getD j 0 - ((L.length : Int) - (j : Int)) else 0
def dis (L : List Int) : Bool := valid L && kFall 1 1 L
theorem dis_iff (L : List Int) : dis L = true ↔ valid L = true ∧ kFall 1 1 L = true := by unfold dis; simp
def stCutF (L : List Int) : List Int := if dis L then stCut L else []
theorem stCutF_yes {L : List Int} (h : dis L = true) : stCutF L = stCut L := by simp [stCutF, h]
theorem stCutF_no {L : List Int} (h : dis L = false) : stCutF L = [] := by simp [stCutF, h]
def stN (L : List Int) : Int := if dis L then (L.length : Int) else 0
theorem stN_yes {L : List Int} (h : dis L = true) : stN L = (L.length : Int) := by simp [stN, h]
theorem stN_no {L : List Int} (h : dis L = false) : stN L = 0 := by simp [stN, h]
def stTab (N : List Nat) : Bool :=
  let L := N.map Int.ofNat
  !kFall 1 1 L || valid (stCut L) && decide (pad (stCut L) = stArr L) && stOk (stCut L) L.length && decide (stPut (stCut L) L.length = L) && decide (L.length ≤ 5)
set_option maxRecDepth 100000 in
theorem stTab_all : all16.all stTab = true := by decide +kernel
theorem st_facts {L : List Int} (h : dis L = true) : valid (stCut L) = true ∧ pad (stCut L) = stArr L ∧ stOk (stCut L) L.length = true ∧ stPut (stCut L) L.length = L ∧ L.length ≤ 5 := by
  obtain ⟨hv, hk⟩ := (dis_iff L).1 h
  obtain ⟨N, hN, rfl⟩ := of_all stTab_all hv
  simp only [stTab, Bool.or_eq_true, Bool.and_eq_true, decide_eq_true_eq, hk, Bool.not_true, Bool.false_eq_true, false_or] at hN
  obtain ⟨⟨⟨⟨h1, h2⟩, h3⟩, h4⟩, h5⟩ := hN
  exact ⟨h1, h2, h3, h4, h5⟩
theorem stCutF_len (L : List Int) : (stCutF L).length ≤ 16 := by
  unfold stCutF
  split
  · rename_i h; exact (valid_bd (st_facts h).1).2.2.2
  · simp
def stTab2 (N : List Nat) : Bool :=
  let P := N.map Int.ofNat
  (List.range 6).all fun s => !stOk P s || dis (stPut P s) && decide (stCut (stPut P s) = P) && decide ((stPut P s).length = s)
set_option maxRecDepth 100000 in
theorem stTab2_all : all16.all stTab2 = true := by decide +kernel
theorem st_back {P : List Int} {s : Nat} (h : stOk P s = true) : dis (stPut P s) = true ∧ stCut (stPut P s) = P ∧ (stPut P s).length = s := by
  obtain ⟨hv, -, -, -⟩ := (stOk_iff _ _).1 h
  have h5 := (st_put h).1
  obtain ⟨N, hN, rfl⟩ := of_all stTab2_all hv
  have hs := List.all_eq_true.1 hN s (by simp; omega)
  simp only [Bool.or_eq_true, Bool.and_eq_true, decide_eq_true_eq, h, Bool.not_true, Bool.false_eq_true, false_or] at hs
  exact ⟨hs.1.1, hs.1.2, hs.2⟩

/-- hooks of the diagonal of own conjugates -/
def h2o (L : List Int) : List Int := (froA L).map fun a => a + 1 + a
def slf (L : List Int) : Bool := valid L && kSelf L
theorem slf_iff (L : List Int) : slf L = true ↔ valid L = true ∧ kSelf L = true := by unfold slf; simp
def h2oF (L : List Int) : List Int := if slf L then h2o L else []
theorem h2oF_yes {L : List Int} (h : slf L = true) : h2oF L = h2o L := by simp [h2oF, h]
theorem h2oF_no {L : List Int} (h : slf L = false) : h2oF L = [] := by simp [h2oF, h]
def halves (P : List Int) : List Int := P.map fun x => x / 2
def o2h (P : List Int) : List Int := pof (halves P) (halves P)
def dod (L : List Int) : Bool := valid L && (kRem 2 1 L && kFall 1 1 L)
theorem dod_iff (L : List Int) : dod L = true ↔ valid L = true ∧ kRem 2 1 L = true ∧ kFall 1 1 L = true := by unfold dod; simp
def o2hF (L : List Int) : List Int := if dod L then o2h L else []
theorem o2hF_yes {L : List Int} (h : dod L = true) : o2hF L = o2h L := by simp [o2hF, h]
theorem o2hF_no {L : List Int} (h : dod L = false) : o2hF L = [] := by simp [o2hF, h]
def hoTab (N : List Nat) : Bool :=
  let L := N.map Int.ofNat
  (!kSelf L || dod (h2o L) && decide (o2h (h2o L) = L) && decide ((h2o L).length = durS L) && decide (sumL (h2o L) = sumL L)) &&
  (!(kRem 2 1 L && kFall 1 1 L) || pofOk (halves L) (halves L) && slf (o2h L) && decide (h2o (o2h L) = L))
set_option maxRecDepth 100000 in
theorem hoTab_all : all16.all hoTab = true := by decide +kernel
theorem h2o_facts {L : List Int} (h : slf L = true) : dod (h2o L) = true ∧ o2h (h2o L) = L ∧ (h2o L).length = durS L ∧ sumL (h2o L) = sumL L := by
  obtain ⟨hv, hk⟩ := (slf_iff L).1 h
  obtain ⟨N, hN, rfl⟩ := of_all hoTab_all hv
  simp only [hoTab, Bool.or_eq_true, Bool.and_eq_true, decide_eq_true_eq, hk, Bool.not_true, Bool.false_eq_true, false_or] at hN
  exact ⟨hN.1.1.1.1, hN.1.1.1.2, hN.1.1.2, hN.1.2⟩
theorem o2h_facts {L : List Int} (h : dod L = true) : pofOk (halves L) (halves L) = true ∧ slf (o2h L) = true ∧ h2o (o2h L) = L := by
  obtain ⟨hv, hk1, hk2⟩ := (dod_iff L).1 h
  obtain ⟨N, hN, rfl⟩ := of_all hoTab_all hv
  simp only [hoTab, Bool.or_eq_true, Bool.and_eq_true, decide_eq_true_eq, hk1, hk2, Bool.and_self, Bool.not_true, Bool.false_eq_true, false_or] at hN
  exact ⟨hN.2.1.1, hN.2.1.2, hN.2.2⟩
theorem h2oF_len (L : List Int) : (h2oF L).length ≤ 16 := by
  unfold h2oF
  split
  · rename_i h; exact (valid_bd ((dod_iff _).1 (h2o_facts h).1).1).2.2.2
  · simp
theorem o2hF_len (L : List Int) : (o2hF L).length ≤ 16 := by
  unfold o2hF
  split
  · rename_i h; exact (valid_bd ((slf_iff _).1 (o2h_facts h).2.1).1).2.2.2
  · simp

/-- Franklin's map -/
def slp (L : List Int) : Nat := ff (fun n => decide (L.getD n 0 = L.getD 0 0 - (n : Int))) L.length
def lastP (L : List Int) : Int := L.getD (L.length - 1) 0
def frA (L : List Int) : List Int := (List.range (L.length - 1)).map fun (j : Nat) => L.getD j 0 + if (j : Int) < lastP L then 1 else 0
def frB (L : List Int) : List Int := ((List.range L.length).map fun (j : Nat) => L.getD j 0 - if j < slp L then 1 else 0) ++ [(slp L : Int)]
def fr (L : List Int) : List Int := if lastP L ≤ (slp L : Int) then frA L else frB L
def mayS (L : List Int) : Bool := decide (0 < L.length) && (decide (slp L < L.length) || (decide (lastP L ≠ (L.length : Int)) && decide (lastP L ≠ (L.length : Int) + 1)))
def frOk (L : List Int) : Bool := valid L && (kFall 1 1 L && mayS L)
theorem frOk_iff (L : List Int) : frOk L = true ↔ valid L = true ∧ kFall 1 1 L = true ∧ mayS L = true := by unfold frOk; simp
def frF (L : List Int) : List Int := if frOk L then fr L else []
theorem frF_yes {L : List Int} (h : frOk L = true) : frF L = fr L := by simp [frF, h]
theorem frF_no {L : List Int} (h : frOk L = false) : frF L = [] := by simp [frF, h]
def frTab (N : List Nat) : Bool :=
  let L := N.map Int.ofNat
  !(kFall 1 1 L && mayS L) || frOk (fr L) && decide (fr (fr L) = L) && decide (sumL (fr L) = sumL L) && (decide ((fr L).length = L.length + 1) || decide ((fr L).length + 1 = L.length)) &&
   decide (slp L ≤ L.length) && decide (1 ≤ lastP L) && decide (L.length ≤ 5) && (!decide (lastP L ≤ (slp L : Int)) || decide (lastP L ≤ (L.length : Int) - 1))
set_option maxRecDepth 100000 in
theorem frTab_all : all16.all frTab = true := by decide +kernel
theorem fr_facts {L : List Int} (h : frOk L = true) : frOk (fr L) = true ∧ fr (fr L) = L ∧ sumL (fr L) = sumL L ∧ ((fr L).length = L.length + 1 ∨ (fr L).length + 1 = L.length) ∧ slp L ≤ L.length ∧ 1 ≤ lastP L ∧ L.length ≤ 5 ∧ (lastP L ≤ (slp L : Int) → lastP L ≤ (L.length : Int) - 1) := by
  obtain ⟨hv, hk1, hk2⟩ := (frOk_iff L).1 h
  obtain ⟨N, hN, rfl⟩ := of_all frTab_all hv
  simp only [frTab, Bool.or_eq_true, Bool.and_eq_true, decide_eq_true_eq, hk1, hk2, Bool.and_self, Bool.not_true, Bool.false_eq_true, false_or] at hN
  obtain ⟨⟨⟨⟨⟨⟨⟨h1, h2⟩, h3⟩, h4⟩, h5⟩, h6⟩, h7⟩, h8⟩ := hN
  exact ⟨h1, h2, h3, h4, h5, h6, h7, fun hc => by simpa [hc] using h8⟩
theorem frF_len (L : List Int) : (frF L).length ≤ 16 := by
  unfold frF
  split
  · rename_i h; exact (valid_bd ((frOk_iff _).1 (fr_facts h).1).1).2.2.2
  · simp
end NP
end Go.Proofs.YtmlomapifldlpaaDoor
namespace Go.Proofs.YtmlomapifldlpaaDoor
open Go.RowKit
theorem run_eqItems_arr {P : Program} {e : TypeId} (he : P.underlying e = some (.int .i64)) (hp : P.plainKey e = true) (d : Nat) (D E : List Int) (w : World) :
    ∀ l : List Nat, (∀ k ∈ l, k < D.length ∧ k < E.length) → (Op.eqItems (d + 1) e 1 (arr D) (arr E) l).run P w = .ok (l.all fun k => D.getD k 0 == E.getD k 0) w
  | [], _ => by simp [Op.eqItems]
  | k :: l, h => by
    obtain ⟨h1, h2⟩ := h k (by simp)
    have ih := run_eqItems_arr he hp d D E w l fun j hj => h j (by simp [hj])
    have p1 : (part e (arr D) (k * 1)).run P w = .ok (.int .i64 D[k]) w := run_part_plain w hp (by rw [Nat.mul_one]; exact arr_get D k h1)
    have p2 : (part e (arr E) (k * 1)).run P w = .ok (.int .i64 E[k]) w := run_part_plain w hp (by rw [Nat.mul_one]; exact arr_get E k h2)
    have p3 := run_equalIn_int (P := P) w d e .i64 .i64 D[k] E[k] he
    have g1 : D.getD k 0 = D[k] := by rw [List.getD_eq_getElem?_getD, List.getElem?_eq_getElem h1]; rfl
    have g2 : E.getD k 0 = E[k] := by rw [List.getD_eq_getElem?_getD, List.getElem?_eq_getElem h2]; rfl
    simp only [Op.eqItems, Sem.run_bind, p1, p2, p3, Result.andThen_ok, List.all_cons, g1, g2]
    cases hq : (D[k] == E[k])
    · simp
    · simpa using ih
theorem all_getD_eq {D E : List Int} (h : D.length = E.length) : ((List.range D.length).all fun k => D.getD k 0 == E.getD k 0) = decide (D = E) := by
  rw [Bool.eq_iff_iff, List.all_eq_true, decide_eq_true_eq]
  constructor
  · intro hh
    apply List.ext_getElem h
    intro i h1 h2
    have := hh i (by simpa using h1)
    rw [List.getD_eq_getElem?_getD, List.getElem?_eq_getElem h1, List.getD_eq_getElem?_getD, List.getElem?_eq_getElem h2] at this
    simpa using this
  · rintro rfl k _
    simp
theorem run_equal_arr {P : Program} {t e : TypeId} {n : Nat} {i : TypeInfo} (ht : P.underlying t = some (.array n e)) (he : P.underlying e = some (.int .i64)) (hp : P.plainKey e = true) (hi : P.info? e = some i) (hc : P.cellsOf e = 1) (D E : List Int) (hD : D.length = n) (hE : E.length = n) (w : World) :
    (Op.equalIn 10000 t (.agg (arr D)) (.agg (arr E))).run P w = .ok (decide (D = E)) w := by
  rw [show (10000 : Nat) = 9998 + 1 + 1 from rfl, run_equalIn_array w (9998 + 1) (arr D) (arr E) ht hi, hc, run_eqItems_arr he hp 9998 D E w _ (fun k hk => by simp at hk; omega), ← hD, all_getD_eq (by omega)]
end Go.Proofs.YtmlomapifldlpaaDoor
