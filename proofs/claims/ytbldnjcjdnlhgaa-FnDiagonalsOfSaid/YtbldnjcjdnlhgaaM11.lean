/-
  Plain mathematics of the promise of diagonals.
-/
import Derived.Test.YtbldnjcjdnlhgaaM4
import Derived.Test.YtbldnjcjdnlhgaaM6
namespace Go.Proofs.Ytbldnjcjdnlhgaa
namespace NP
set_option linter.unusedVariables false
/-- the first row that ends at or ahead of a diagonal -/
def mm (L : List Int) (d : Int) : Nat := ff (fun i => decide (d + (i : Int) < L.getD i 0)) L.length
theorem ff_spec2 (p : Nat → Bool) (n : Nat) : ff p n ≤ n ∧ (∀ j, j < ff p n → p j = true) ∧ (ff p n = n ∨ p (ff p n) = false) := by
  induction n with
  | zero => exact ⟨Nat.le_refl _, fun j hj => by simp [ff, ffrom] at hj, .inl rfl⟩
  | succ n ih =>
    obtain ⟨h1, h2, h3⟩ := ih
    rcases h3 with h3 | h3
    · cases hp : p n with
      | true =>
        have e : ff p (n + 1) = n + 1 := ff_eq (fun j hj => by
          rcases Nat.lt_or_ge j n with h | h
          · exact h2 j (by omega)
          · obtain rfl : j = n := by omega
            exact hp) (Nat.le_refl _) (.inl rfl)
        rw [e]
        exact ⟨Nat.le_refl _, fun j hj => by
          rcases Nat.lt_or_ge j n with h | h
          · exact h2 j (by omega)
          · obtain rfl : j = n := by omega
            exact hp, .inl rfl⟩
      | false =>
        have e : ff p (n + 1) = n := ff_eq (fun j hj => h2 j (by omega)) (by omega) (.inr hp)
        rw [e]
        exact ⟨by omega, fun j hj => h2 j (by omega), .inr hp⟩
    · have e : ff p (n + 1) = ff p n := ff_eq h2 (by omega) (.inr h3)
      rw [e]
      exact ⟨by omega, h2, .inr h3⟩
theorem getD_mono {L : List Int} (hv : valid L = true) {i j : Nat} (h : i ≤ j) : L.getD j 0 ≤ L.getD i 0 := by
  induction j with
  | zero => obtain rfl : i = 0 := by omega
            exact Int.le_refl _
  | succ j ih =>
    rcases Nat.lt_or_ge j i with h1 | h1
    · obtain rfl : i = j + 1 := by omega
      exact Int.le_refl _
    · refine Int.le_trans ?_ (ih h1)
      rcases Nat.lt_or_ge (j + 1) L.length with h2 | h2
      · rw [getD_lt h2, getD_lt (by omega)]
        have := (preS_of_valid hv (j + 1) h2 h2).2.2 (by omega)
        simpa using this
      · rw [getD_ge h2]
        rcases Nat.lt_or_ge j L.length with h3 | h3
        · have := getD_pos hv h3; omega
        · rw [getD_ge h3]; exact Int.le_refl _
theorem mm_lt {L : List Int} (hv : valid L = true) (d : Int) (i : Nat) (h : i < mm L d) : d + (i : Int) < L.getD i 0 := of_decide_eq_true ((ff_spec2 _ _).2.1 i h)
theorem mm_ge {L : List Int} (hv : valid L = true) (d : Int) (i : Nat) (h : mm L d ≤ i) (hi : i < L.length) : L.getD i 0 ≤ d + (i : Int) := by
  have hs := (ff_spec2 (fun i => decide (d + (i : Int) < L.getD i 0)) L.length).2.2
  have hm : mm L d < L.length := by omega
  rcases hs with hs | hs
  · unfold mm at hm h; omega
  · have h1 : ¬ (d + ((mm L d : Nat) : Int) < L.getD (mm L d) 0) := of_decide_eq_false hs
    have h2 := getD_mono hv h
    omega
theorem mm_le (L : List Int) (d : Int) : mm L d ≤ L.length := (ff_spec2 _ _).1
/-- a diagonal's cells -/
theorem dc_mm {L : List Int} (hv : valid L = true) (d : Int) (n : Nat) (hn : n ≤ L.length) : dc L d n = max 0 (min (n : Int) (mm L d) - max 0 (-d)) := by
  induction n with
  | zero => simp only [dc]; omega
  | succ n ih =>
    rw [dc_succ, ih (by omega)]
    rcases Nat.lt_or_ge n (mm L d) with h | h
    · have := mm_lt hv d n h
      split <;> omega
    · have := mm_ge hv d n h (by omega)
      rw [if_neg (by omega)]
      omega
theorem dc_mm' {L : List Int} (hv : valid L = true) (d : Int) : dc L d L.length = max 0 ((mm L d : Int) - max 0 (-d)) := by
  rw [dc_mm hv d _ (Nat.le_refl _)]
  have := mm_le L d
  omega
theorem dia_get (L : List Int) (t : Nat) (h : t < (dia L).length) : (dia L)[t] = dc L ((t : Int) + 1 - L.length) L.length := by simp [dia]
theorem dia_len (L : List Int) : (dia L).length = L.length - 1 + (L.headD 0).toNat := by simp [dia]
theorem dia_pos {L : List Int} (hv : valid L = true) (t : Nat) (h : t < (dia L).length) : 1 ≤ (dia L)[t] := by
  rw [dia_get, dc_mm' hv]
  rw [dia_len] at h
  have hl := mm_le L ((t : Int) + 1 - L.length)
  have h0 : 0 < L.length := by
    rcases Nat.eq_zero_or_pos L.length with h0 | h0
    · obtain rfl := List.eq_nil_of_length_eq_zero h0
      simp at h
    · exact h0
  rcases Int.lt_or_le ((t : Int) + 1 - L.length) 0 with hd | hd
  · obtain ⟨i, hi⟩ : ∃ i : Nat, (i : Int) = -((t : Int) + 1 - L.length) := ⟨(-((t : Int) + 1 - L.length)).toNat, by omega⟩
    have hiL : i < L.length := by omega
    rcases Nat.lt_or_ge i (mm L ((t : Int) + 1 - L.length)) with h1 | h1
    · omega
    · have := mm_ge hv _ i h1 hiL
      have := getD_pos hv hiL
      omega
  · rcases Nat.eq_zero_or_pos (mm L ((t : Int) + 1 - L.length)) with h1 | h1
    · have := mm_ge hv ((t : Int) + 1 - L.length) 0 (by omega) h0
      have hH : L.getD 0 0 = L.headD 0 := by cases L <;> rfl
      have := headD_bd hv
      omega
    · omega
theorem dur_of_mono {L : List Int} (hv : valid L = true) (m : Nat) (h : m = 0 ∨ ((m - 1 : Nat) : Int) < L.getD (m - 1) 0) : m ≤ durS L := by
  have hs := durS_spec L
  rcases h with h | h
  · omega
  · have hml : m - 1 < L.length := by
      rcases Nat.lt_or_ge (m - 1) L.length with h1 | h1
      · exact h1
      · rw [getD_ge h1] at h; omega
    rcases Nat.lt_or_ge (m - 1) (durS L) with h1 | h1
    · omega
    · have hf := (ff_spec2 (fun k => decide ((k : Int) < L.getD k 0)) L.length).2.2
      have e : durS L = ff (fun (k : Nat) => decide ((k : Int) < L.getD k 0)) L.length := rfl
      rw [← e] at hf
      rcases hf with hf | hf
      · omega
      · have h2 : ¬ (((durS L : Nat) : Int) < L.getD (durS L) 0) := of_decide_eq_false hf
        have h3 := getD_mono hv h1
        omega
theorem dia_dur {L : List Int} (hv : valid L = true) (t : Nat) (h : t < (dia L).length) : (dia L)[t] ≤ (durS L : Int) := by
  rw [dia_get, dc_mm' hv]
  generalize (t : Int) + 1 - L.length = d
  rcases Int.lt_or_le d 0 with hd | hd
  · obtain ⟨j, hj⟩ : ∃ j : Nat, j = ((mm L d : Int) + d).toNat := ⟨_, rfl⟩
    have hju : j ≤ durS L := dur_of_mono hv j (by
      rcases Nat.eq_zero_or_pos j with h0 | h0
      · exact .inl h0
      · right
        have h1 := mm_lt hv d (mm L d - 1) (by omega)
        have h2 := getD_mono hv (i := j - 1) (j := mm L d - 1) (by omega)
        omega)
    omega
  · have hju : mm L d ≤ durS L := dur_of_mono hv (mm L d) (by
      rcases Nat.eq_zero_or_pos (mm L d) with h0 | h0
      · exact .inl h0
      · right
        have h1 := mm_lt hv d (mm L d - 1) (by omega)
        omega)
    omega
/-- how many numbers below n stand in a window -/
def win (c x : Int) : Nat → Int
  | 0 => 0
  | n + 1 => win c x n + (if 0 ≤ (n : Int) + c ∧ (n : Int) + c < x then 1 else 0)
theorem win_eq (c x : Int) (hc : c ≤ 0) (hx : 0 ≤ x) (n : Nat) : win c x n = max 0 (min ((n : Int) + c) x) := by
  induction n with
  | zero => simp only [win]; omega
  | succ n ih => simp only [win, ih]; split <;> omega
def dsumTo (L : List Int) (n : Nat) : Nat → Int
  | 0 => 0
  | t + 1 => dsumTo L n t + dc L ((t : Int) + 1 - L.length) n
theorem dsumTo_zero (L : List Int) (t : Nat) : dsumTo L 0 t = 0 := by
  induction t with
  | zero => rfl
  | succ t ih => simp [dsumTo, ih, dc]
theorem dsumTo_succ (L : List Int) (n t : Nat) : dsumTo L (n + 1) t = dsumTo L n t + win ((1 : Int) - L.length + n) (L.getD n 0) t := by
  induction t with
  | zero => simp [dsumTo, win]
  | succ t ih =>
    simp only [dsumTo, ih, dc_succ, win]
    have e : (t : Int) + 1 - L.length + n = (t : Int) + (1 - L.length + n) := by omega
    rw [e]
    omega
theorem dsumTo_sum {L : List Int} (hv : valid L = true) (n : Nat) (hn : n ≤ L.length) : dsumTo L n (L.length - 1 + (L.headD 0).toNat) = sumL (L.take n) := by
  induction n with
  | zero => rw [dsumTo_zero]; rfl
  | succ n ih =>
    rw [dsumTo_succ, ih (by omega), sumL_take_succ L n (by omega), getD_lt (by omega)]
    have h1 := preS_of_valid hv n (by omega) (by omega)
    have h2 := head_ge hv L[n] (List.getElem_mem _)
    have h3 := headD_bd hv
    rw [win_eq _ _ (by omega) (by omega)]
    omega
theorem sum_map_range (f : Nat → Int) (n : Nat) : sumL ((List.range (n + 1)).map f) = sumL ((List.range n).map f) + f n := by
  rw [List.range_succ, List.map_append, sumL_append]; simp [sumL]
theorem dsumTo_map (L : List Int) (n t : Nat) : sumL ((List.range t).map fun (t : Nat) => dc L ((t : Int) + 1 - L.length) n) = dsumTo L n t := by
  induction t with
  | zero => rfl
  | succ t ih => rw [sum_map_range, ih]; rfl
theorem dia_sum {L : List Int} (hv : valid L = true) : sumL (dia L) = sumL L := by
  unfold dia
  rw [dsumTo_map, dsumTo_sum hv _ (Nat.le_refl _), List.take_of_length_le (Nat.le_refl _)]
/-- a cell lies in a diagram if its mirror lies in the conjugate -/
theorem cell_conj {L : List Int} (hv : valid L = true) (i k : Nat) (hi : i < L.length) : ((k : Int) < L.getD i 0) ↔ (i : Int) < (conj L).getD k 0 := by
  rw [getD_lt hi]
  rcases Nat.lt_or_ge k (conj L).length with hk | hk
  · rw [getD_lt hk, conj_get]
    have := cnt_ge_iff hv hi ((k : Int) + 1)
    omega
  · rw [getD_ge hk]
    rw [conj_len] at hk
    have h2 := head_ge hv L[i] (List.getElem_mem _)
    have := headD_bd hv
    omega
/-- the first row that ends ahead of a diagonal, of the conjugate -/
theorem mm_conj {L : List Int} (hv : valid L = true) (h0 : 0 < L.length) (d : Nat) (hd : d + mm L d ≤ (L.headD 0).toNat) : mm (conj L) (-(d : Int)) = d + mm L d := by
  have hm := mm_le L d
  show ff (fun i => decide (-(d : Int) + (i : Int) < (conj L).getD i 0)) (conj L).length = d + mm L d
  refine ff_eq (fun j hj => decide_eq_true ?_) (by rw [conj_len]; exact hd) ?_
  · rcases Nat.lt_or_ge j d with h1 | h1
    · have h2 : 1 ≤ (conj L).getD j 0 := getD_pos (valid_conj hv) (by rw [conj_len]; omega)
      omega
    · have h3 := mm_lt hv d (j - d) (by omega)
      have h4 := (cell_conj hv (j - d) j (by omega)).1 (by omega)
      omega
  · rcases Nat.lt_or_ge (d + mm L d) (L.headD 0).toNat with h1 | h1
    · right
      apply decide_eq_false
      intro h2
      rcases Nat.lt_or_ge (mm L d) L.length with h3 | h3
      · have h4 := (cell_conj hv (mm L d) (d + mm L d) h3).2 (by omega)
        have h5 := mm_ge hv d (mm L d) (Nat.le_refl _) h3
        omega
      · have e : (conj L).getD (d + mm L d) 0 = cnt (((d + mm L d : Nat) : Int) + 1) L := by rw [getD_lt (by rw [conj_len]; exact h1), conj_get]
        have h6 := cnt_bd (((d + mm L d : Nat) : Int) + 1) L
        omega
    · left; rw [conj_len]; omega
theorem mm_fits {L : List Int} (hv : valid L = true) (h0 : 0 < L.length) (d : Nat) (hd : d < (L.headD 0).toNat) : d + mm L d ≤ (L.headD 0).toNat := by
  rcases Nat.eq_zero_or_pos (mm L d) with h1 | h1
  · omega
  · have h2 := mm_lt hv d (mm L d - 1) (by omega)
    have h3 := getD_mono hv (i := 0) (j := mm L d - 1) (by omega)
    have hH : L.getD 0 0 = L.headD 0 := by cases L <;> rfl
    omega
/-- a diagonal right of the first is one below the first, of the conjugate -/
theorem dc_conj {L : List Int} (hv : valid L = true) (h0 : 0 < L.length) (d : Nat) (hd : d < (L.headD 0).toNat) : dc (conj L) (-(d : Int)) (conj L).length = dc L d L.length := by
  rw [dc_mm' (valid_conj hv), dc_mm' hv, mm_conj hv h0 d (mm_fits hv h0 d hd)]
  omega
theorem dc_conj' {L : List Int} (hv : valid L = true) (h0 : 0 < L.length) (d : Int) (h1 : -(L.length : Int) < d) (h2 : d < L.headD 0) : dc (conj L) (-d) (conj L).length = dc L d L.length := by
  have hh := headD_bd hv
  rcases Int.lt_or_le d 0 with h | h
  · obtain ⟨e, he⟩ := Int.eq_ofNat_of_zero_le (by omega : 0 ≤ -d)
    have hd : d = -(e : Int) := by omega
    have hc0 : 0 < (conj L).length := by have := conj_nil_iff hv; omega
    have := dc_conj (valid_conj hv) hc0 e (by
      have : (conj L).headD 0 = cnt 1 L := by
        rw [headD_get (conj L) hc0, conj_get]; simp
      rw [this, cnt_one hv]
      omega)
    rw [conj_conj hv] at this
    rw [he, hd]
    exact this.symm
  · obtain ⟨e, rfl⟩ := Int.eq_ofNat_of_zero_le h
    exact dc_conj hv h0 e (by omega)
theorem dia_conj {L : List Int} (hv : valid L = true) : dia (conj L) = (dia L).reverse := by
  rcases Nat.eq_zero_or_pos L.length with h0 | h0
  · obtain rfl := List.eq_nil_of_length_eq_zero h0
    rfl
  · have hh := headD_bd hv
    have hhead : (conj L).headD 0 = L.length := by
      have hc0 : 0 < (conj L).length := by
        have := conj_nil_iff hv
        omega
      rw [headD_get (conj L) hc0, conj_get]
      have := cnt_one hv
      simpa using this
    have hlen : (dia (conj L)).length = (dia L).length := by
      have hc1 : 0 < (conj L).length := by have := conj_nil_iff hv; omega
      rw [conj_len] at hc1
      rw [dia_len, dia_len, conj_len, hhead]
      omega
    apply List.ext_getElem
    · rw [List.length_reverse, hlen]
    · intro t h1 h2
      rw [List.getElem_reverse, dia_get, dia_get]
      rw [hlen] at h1
      have h3 := h1
      rw [dia_len] at h3
      rw [← dc_conj' hv h0 (((((dia L).length - 1 - t : Nat) : Int) + 1 - L.length)) (by rw [dia_len]; omega) (by rw [dia_len]; omega)]
      congr 1
      rw [dia_len, conj_len]
      omega
end NP
end Go.Proofs.Ytbldnjcjdnlhgaa
