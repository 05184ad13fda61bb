/-
  Plain mathematics of the promises of times and corners. Plain mathematics of the promise of diagonals. The way around parts in a box. Walks: opposites in a box, by the program. Walks of the program: the way around parts in a box. Plain mathematics of counts: how many parts have a sum, none greater than a number. Plain mathematics of counts, over whole numbers. Walks: inRange, countTo of the model; withMany, countsUpTo of the program. Walks: whether the sides of a box are in limits, of the model. Walks: parts in a box, by the model. Walks of the model: the way around parts in a box.
-/
import Derived.Test.YtgkghebjaedjmaaZF1
import Derived.Test.YtgkghebjaedjmaaZF2
import Derived.Lib.Repeat
import Derived.Lib.UnsafeStr
import Derived.Test.YtgkghebjaedjmaaProg
import Derived.Deep.QuietTactic
import Derived.BigQuiet
import Derived.StillTailTactics
import Derived.IntWalk
import Derived.Lib.Hide
import Derived.Shelf.Abstract
namespace Go.Proofs.Ytgkghebjaedjmaa
namespace NP
set_option linter.unusedVariables false
/-- the numbers times how often they come, up to n -/
def wti (L : List Int) : Nat → Int
  | 0 => 0
  | n + 1 => wti L n + ((n : Int) + 1) * eqc ((n : Int) + 1) L
def ctim (L : List Int) : Nat → Int
  | 0 => 0
  | n + 1 => ctim L n + eqc ((n : Int) + 1) L
theorem wti_nil (n : Nat) : wti [] n = 0 := by
  induction n with
  | zero => rfl
  | succ n ih => simp [wti, ih, eqc]
theorem ctim_nil (n : Nat) : ctim [] n = 0 := by
  induction n with
  | zero => rfl
  | succ n ih => simp [ctim, ih, eqc]
theorem wti_cons (x : Int) (r : List Int) (n : Nat) : wti (x :: r) n = wti r n + (if 1 ≤ x ∧ x ≤ n then x else 0) := by
  induction n with
  | zero => simp [wti]; omega
  | succ n ih =>
    simp only [wti, ih, eqc]
    by_cases hx : x = (n : Int) + 1
    · subst hx
      rw [if_pos rfl, if_neg (by omega), if_pos (by omega), Int.mul_add]
      omega
    · rw [if_neg hx, Int.zero_add]
      split <;> split <;> omega
theorem ctim_cons (x : Int) (r : List Int) (n : Nat) : ctim (x :: r) n = ctim r n + (if 1 ≤ x ∧ x ≤ n then 1 else 0) := by
  induction n with
  | zero => simp [ctim]; omega
  | succ n ih =>
    simp only [ctim, ih, eqc]
    by_cases hx : x = (n : Int) + 1
    · subst hx
      rw [if_pos rfl, if_neg (by omega), if_pos (by omega)]
      omega
    · rw [if_neg hx, Int.zero_add]
      split <;> split <;> omega
theorem wti_sum (L : List Int) (n : Nat) (h : ∀ x ∈ L, 1 ≤ x ∧ x ≤ n) : wti L n = sumL L := by
  induction L with
  | nil => rw [wti_nil]; rfl
  | cons x r ih =>
    rw [wti_cons, ih (fun y hy => h y (by simp [hy])), if_pos (h x (by simp))]
    simp [sumL]; omega
theorem ctim_len (L : List Int) (n : Nat) (h : ∀ x ∈ L, 1 ≤ x ∧ x ≤ n) : ctim L n = L.length := by
  induction L with
  | nil => rw [ctim_nil]; rfl
  | cons x r ih =>
    rw [ctim_cons, ih (fun y hy => h y (by simp [hy])), if_pos (h x (by simp))]
    simp
theorem sum_tim (L : List Int) (n : Nat) : sumL ((List.range n).map fun (j : Nat) => eqc ((j : Int) + 1) L) = ctim L n := by
  induction n with
  | zero => rfl
  | succ n ih => rw [List.range_succ, List.map_append, sumL_append, ih]; simp [ctim, sumL]
theorem valid_mem {L : List Int} (h : valid L = true) : ∀ x ∈ L, 1 ≤ x ∧ x ≤ (((L.headD 0).toNat : Nat) : Int) := by
  intro x hx
  have hg := head_ge h x hx
  obtain ⟨n, hn, e⟩ := List.mem_iff_getElem.1 hx
  have := preS_of_valid h n hn hn
  omega
theorem tim_sum {L : List Int} (h : valid L = true) : sumL (tim L) = L.length := by
  unfold tim
  rw [sum_tim]
  exact ctim_len L _ (valid_mem h)
theorem eqc_mul_bd (L : List Int) (n : Nat) (hn : n ≤ 16) (hl : L.length ≤ 16) : 0 ≤ ((n : Int) + 1) * eqc ((n : Int) + 1) L ∧ ((n : Int) + 1) * eqc ((n : Int) + 1) L ≤ 272 := by
  have h := eqc_bd ((n : Int) + 1) L
  generalize eqc ((n : Int) + 1) L = y at h ⊢
  have h1 : 0 ≤ ((n : Int) + 1) * y := Int.mul_nonneg (by omega) h.1
  have h2 : ((n : Int) + 1) * y ≤ 17 * 16 := Int.mul_le_mul (by omega) (by omega) h.1 (by omega)
  omega
theorem wti_bd (L : List Int) (hl : L.length ≤ 16) (n : Nat) (hn : n ≤ 17) : 0 ≤ wti L n ∧ wti L n ≤ 272 * n := by
  induction n with
  | zero => simp [wti]
  | succ n ih =>
    have := ih (by omega)
    have := eqc_mul_bd L n (by omega) hl
    simp only [wti]
    omega
theorem tim_conj {L : List Int} (h : valid L = true) (k : Nat) (hk : k < (L.headD 0).toNat) : eqc ((k : Int) + 1) L = cnt ((k : Int) + 1) L - (if k + 1 < (L.headD 0).toNat then cnt ((k : Int) + 2) L else 0) := by
  rw [eqc_cnt]
  split
  · congr 1
  · rename_i h1
    have e : cnt ((k : Int) + 1 + 1) L = 0 := by
      apply cnt_none
      intro x hx
      have := valid_mem h x hx
      omega
    omega
/-- how many numbers come -/
def nz (L : List Int) : Nat → Nat
  | 0 => 0
  | n + 1 => nz L n + (if 0 < eqc ((n : Int) + 1) L then 1 else 0)
theorem nz_nil (n : Nat) : nz [] n = 0 := by
  induction n with
  | zero => rfl
  | succ n ih => simp [nz, ih, eqc]
theorem nz_le (L : List Int) (n : Nat) : nz L n ≤ n := by
  induction n with
  | zero => simp [nz]
  | succ n ih => simp only [nz]; split <;> omega
theorem nz_cons (x : Int) (r : List Int) (n : Nat) : nz (x :: r) n = nz r n + (if 1 ≤ x ∧ x ≤ n ∧ eqc x r ≤ 0 then 1 else 0) := by
  induction n with
  | zero => simp [nz]; omega
  | succ n ih =>
    have e : eqc ((n : Int) + 1) (x :: r) = (if x = (n : Int) + 1 then 1 else 0) + eqc ((n : Int) + 1) r := rfl
    simp only [nz, ih]
    by_cases hx : x = (n : Int) + 1
    · subst hx
      have hb := (eqc_bd ((n : Int) + 1) r).1
      rw [if_pos rfl] at e
      split <;> split <;> split <;> split <;> omega
    · rw [if_neg hx, Int.zero_add] at e
      rw [e]
      split <;> split <;> split <;> omega
theorem fl_len_shift (p : Nat → Bool) (n : Nat) : (fl p (n + 1)).length = (if p 0 then 1 else 0) + (fl (fun i => p (i + 1)) n).length := by
  induction n with
  | zero => rw [fl_succ]; simp [fl]; split <;> simp_all
  | succ n ih =>
    rw [fl_succ, List.length_append, ih, fl_succ, List.length_append]
    split <;> split <;> simp_all <;> omega
theorem isC_tail (x : Int) (r : List Int) (i : Nat) : isC (x :: r) (i + 1) = isC r i := by
  unfold isC
  simp
theorem eqc_none (x : Int) (r : List Int) (h : ∀ y ∈ r, y < x) : eqc x r = 0 := by
  induction r with
  | nil => rfl
  | cons y t ih =>
    have := h y (by simp)
    simp only [eqc]
    rw [if_neg (by omega), ih (fun z hz => h z (by simp [hz]))]
    rfl
/-- falls: each at most the one ahead -/
def mono : List Int → Prop
  | [] => True
  | x :: r => (∀ y ∈ r, y ≤ x) ∧ mono r
theorem crn_nz (L : List Int) (hm : mono L) (n : Nat) (h : ∀ x ∈ L, 1 ≤ x ∧ x ≤ n) : (crn L).length = nz L n := by
  induction L with
  | nil => rw [nz_nil]; rfl
  | cons x r ih =>
    have ih' := ih hm.2 (fun y hy => h y (by simp [hy]))
    have hx := h x (by simp)
    rw [nz_cons, ← ih']
    unfold crn
    rw [crnTo_fl, crnTo_fl, List.length_cons, fl_len_shift, fl_congr _ (isC r) _ (fun i _ => isC_tail x r i)]
    rw [Nat.add_comm]
    congr 1
    cases r with
    | nil => simp [isC, eqc]; omega
    | cons y t =>
      have e : isC (x :: y :: t) 0 = decide (y < x) := by unfold isC; simp
      rw [e]
      have hy := hm.1 y (by simp)
      by_cases hyx : y < x
      · rw [decide_eq_true hyx]
        have e2 : eqc x (y :: t) = 0 := eqc_none x _ fun z hz => by
          rcases List.mem_cons.1 hz with rfl | hz
          · exact hyx
          · have := hm.2.1 z hz; omega
        rw [e2, if_pos rfl, if_pos (by omega)]
      · have hyx2 : y = x := by omega
        subst hyx2
        have := (eqc_bd y t).1
        rw [decide_eq_false hyx, if_neg (by simp), if_neg (by simp [eqc]; omega)]
theorem mono_of {L : List Int} (h : ∀ i (hi : i + 1 < L.length), L[i + 1] ≤ L[i]) : mono L := by
  induction L with
  | nil => trivial
  | cons x r ih =>
    have hr : mono r := ih fun i hi => by have := h (i + 1) (by simpa using hi); simpa using this
    refine ⟨fun y hy => ?_, hr⟩
    cases r with
    | nil => simp at hy
    | cons z t =>
      have h0 := h 0 (by simp)
      simp at h0
      rcases List.mem_cons.1 hy with rfl | hy
      · exact h0
      · exact Int.le_trans (hr.1 y hy) h0
theorem mono_valid {L : List Int} (h : valid L = true) : mono L := mono_of fun i hi => by
  have := (preS_of_valid h (i + 1) hi hi).2.2 (by omega)
  simpa using this
theorem crn_len_nz {L : List Int} (h : valid L = true) : (crn L).length = nz L (L.headD 0).toNat := crn_nz L (mono_valid h) _ (valid_mem h)
theorem nz_fl (L : List Int) (n : Nat) : (fl (fun i => decide (0 < eqc ((i : Int) + 1) L)) n).length = nz L n := by
  induction n with
  | zero => rfl
  | succ n ih =>
    rw [fl_succ, List.length_append, ih]
    simp only [nz]
    split <;> split <;> simp_all
theorem crn_conj_nz {L : List Int} (h : valid L = true) : (crn (conj L)).length = nz L (L.headD 0).toNat := by
  unfold crn
  rw [crnTo_fl, conj_len, fl_congr _ (fun i => decide (0 < eqc ((i : Int) + 1) L)) _ (fun i hi => ?_), nz_fl]
  have hi1 : i < (conj L).length := by rw [conj_len]; exact hi
  unfold isC
  rw [getD_lt hi1, conj_get, eqc_cnt]
  by_cases h1 : i + 1 < (conj L).length
  · rw [decide_eq_false (by omega), Bool.false_or, getD_lt h1, conj_get]
    have e : (((i + 1 : Nat) : Int) + 1) = (i : Int) + 1 + 1 := by omega
    rw [e]
    apply decide_eq_decide.2
    omega
  · rw [decide_eq_true (by omega), Bool.true_or]
    have e : cnt ((i : Int) + 1 + 1) L = 0 := by
      apply cnt_none
      intro x hx
      have := valid_mem h x hx
      rw [conj_len] at h1
      omega
    have e1 : 0 < cnt ((i : Int) + 1) L := by
      cases L with
      | nil => simp at hi
      | cons x r =>
        have := (cnt_bd ((i : Int) + 1) r).1
        simp only [cnt]
        simp only [List.headD_cons] at hi
        rw [if_pos (by omega)]
        omega
    rw [e, eq_comm, decide_eq_true_eq]
    omega
theorem fl_asc (p : Nat → Bool) (n : Nat) : ∀ i (h : i + 1 < (fl p n).length), (fl p n)[i] < (fl p n)[i + 1] := by
  have hp : (fl p n).Pairwise (· < ·) := by
    unfold fl
    rw [List.pairwise_map]
    exact (List.Pairwise.filter _ List.pairwise_lt_range).imp fun h => by simpa using h
  intro i h
  exact List.pairwise_iff_getElem.1 hp i (i + 1) (by omega) h (by omega)
theorem asc_of_eq {X Y : List Int} (e : X = Y) (h : ∀ i (hi : i + 1 < Y.length), Y[i] < Y[i + 1]) : ∀ i (hi : i + 1 < X.length), X[i] < X[i + 1] := by subst e; exact h
theorem get_of_eq {X Y : List Int} {f : Nat → Int} (e : X = Y) (h : ∀ k (hk : k < Y.length), Y[k] = f k) : ∀ k (hk : k < X.length), X[k] = f k := by subst e; exact h
end NP
end Go.Proofs.Ytgkghebjaedjmaa
namespace Go.Proofs.Ytgkghebjaedjmaa
namespace NP
set_option linter.unusedVariables false
/-- the first row that ends at or ahead of a diagonal -/
def mm (L : List Int) (d : Int) : Nat := ff (fun i => decide (d + (i : Int) < L.getD i 0)) L.length
theorem ff_spec2 (p : Nat → Bool) (n : Nat) : ff p n ≤ n ∧ (∀ j, j < ff p n → p j = true) ∧ (ff p n = n ∨ p (ff p n) = false) := by
  induction n with
  | zero => exact ⟨Nat.le_refl _, fun j hj => by simp [ff, ffrom] at hj, .inl rfl⟩
  | succ n ih =>
    obtain ⟨h1, h2, h3⟩ := ih
    rcases h3 with h3 | h3
    · cases hp : p n with
      | true =>
        have e : ff p (n + 1) = n + 1 := ff_eq (fun j hj => by
          rcases Nat.lt_or_ge j n with h | h
          · exact h2 j (by omega)
          · obtain rfl : j = n := by omega
            exact hp) (Nat.le_refl _) (.inl rfl)
        rw [e]
        exact ⟨Nat.le_refl _, fun j hj => by
          rcases Nat.lt_or_ge j n with h | h
          · exact h2 j (by omega)
          · obtain rfl : j = n := by omega
            exact hp, .inl rfl⟩
      | false =>
        have e : ff p (n + 1) = n := ff_eq (fun j hj => h2 j (by omega)) (by omega) (.inr hp)
        rw [e]
        exact ⟨by omega, fun j hj => h2 j (by omega), .inr hp⟩
    · have e : ff p (n + 1) = ff p n := ff_eq h2 (by omega) (.inr h3)
      rw [e]
      exact ⟨by omega, h2, .inr h3⟩
theorem getD_mono {L : List Int} (hv : valid L = true) {i j : Nat} (h : i ≤ j) : L.getD j 0 ≤ L.getD i 0 := by
  induction j with
  | zero => obtain rfl : i = 0 := by omega
            exact Int.le_refl _
  | succ j ih =>
    rcases Nat.lt_or_ge j i with h1 | h1
    · obtain rfl : i = j + 1 := by omega
      exact Int.le_refl _
    · refine Int.le_trans ?_ (ih h1)
      rcases Nat.lt_or_ge (j + 1) L.length with h2 | h2
      · rw [getD_lt h2, getD_lt (by omega)]
        have := (preS_of_valid hv (j + 1) h2 h2).2.2 (by omega)
        simpa using this
      · rw [getD_ge h2]
        rcases Nat.lt_or_ge j L.length with h3 | h3
        · have := getD_pos hv h3; omega
        · rw [getD_ge h3]; exact Int.le_refl _
theorem mm_lt {L : List Int} (hv : valid L = true) (d : Int) (i : Nat) (h : i < mm L d) : d + (i : Int) < L.getD i 0 := of_decide_eq_true ((ff_spec2 _ _).2.1 i h)
theorem mm_ge {L : List Int} (hv : valid L = true) (d : Int) (i : Nat) (h : mm L d ≤ i) (hi : i < L.length) : L.getD i 0 ≤ d + (i : Int) := by
  have hs := (ff_spec2 (fun i => decide (d + (i : Int) < L.getD i 0)) L.length).2.2
  have hm : mm L d < L.length := by omega
  rcases hs with hs | hs
  · unfold mm at hm h; omega
  · have h1 : ¬ (d + ((mm L d : Nat) : Int) < L.getD (mm L d) 0) := of_decide_eq_false hs
    have h2 := getD_mono hv h
    omega
theorem mm_le (L : List Int) (d : Int) : mm L d ≤ L.length := (ff_spec2 _ _).1
/-- a diagonal's cells -/
theorem dc_mm {L : List Int} (hv : valid L = true) (d : Int) (n : Nat) (hn : n ≤ L.length) : dc L d n = max 0 (min (n : Int) (mm L d) - max 0 (-d)) := by
  induction n with
  | zero => simp only [dc]; omega
  | succ n ih =>
    rw [dc_succ, ih (by omega)]
    rcases Nat.lt_or_ge n (mm L d) with h | h
    · have := mm_lt hv d n h
      split <;> omega
    · have := mm_ge hv d n h (by omega)
      rw [if_neg (by omega)]
      omega
theorem dc_mm' {L : List Int} (hv : valid L = true) (d : Int) : dc L d L.length = max 0 ((mm L d : Int) - max 0 (-d)) := by
  rw [dc_mm hv d _ (Nat.le_refl _)]
  have := mm_le L d
  omega
theorem dia_get (L : List Int) (t : Nat) (h : t < (dia L).length) : (dia L)[t] = dc L ((t : Int) + 1 - L.length) L.length := by simp [dia]
theorem dia_len (L : List Int) : (dia L).length = L.length - 1 + (L.headD 0).toNat := by simp [dia]
theorem dia_pos {L : List Int} (hv : valid L = true) (t : Nat) (h : t < (dia L).length) : 1 ≤ (dia L)[t] := by
  rw [dia_get, dc_mm' hv]
  rw [dia_len] at h
  have hl := mm_le L ((t : Int) + 1 - L.length)
  have h0 : 0 < L.length := by
    rcases Nat.eq_zero_or_pos L.length with h0 | h0
    · obtain rfl := List.eq_nil_of_length_eq_zero h0
      simp at h
    · exact h0
  rcases Int.lt_or_le ((t : Int) + 1 - L.length) 0 with hd | hd
  · obtain ⟨i, hi⟩ : ∃ i : Nat, (i : Int) = -((t : Int) + 1 - L.length) := ⟨(-((t : Int) + 1 - L.length)).toNat, by omega⟩
    have hiL : i < L.length := by omega
    rcases Nat.lt_or_ge i (mm L ((t : Int) + 1 - L.length)) with h1 | h1
    · omega
    · have := mm_ge hv _ i h1 hiL
      have := getD_pos hv hiL
      omega
  · rcases Nat.eq_zero_or_pos (mm L ((t : Int) + 1 - L.length)) with h1 | h1
    · have := mm_ge hv ((t : Int) + 1 - L.length) 0 (by omega) h0
      have hH : L.getD 0 0 = L.headD 0 := by cases L <;> rfl
      have := headD_bd hv
      omega
    · omega
theorem dur_of_mono {L : List Int} (hv : valid L = true) (m : Nat) (h : m = 0 ∨ ((m - 1 : Nat) : Int) < L.getD (m - 1) 0) : m ≤ durS L := by
  have hs := durS_spec L
  rcases h with h | h
  · omega
  · have hml : m - 1 < L.length := by
      rcases Nat.lt_or_ge (m - 1) L.length with h1 | h1
      · exact h1
      · rw [getD_ge h1] at h; omega
    rcases Nat.lt_or_ge (m - 1) (durS L) with h1 | h1
    · omega
    · have hf := (ff_spec2 (fun k => decide ((k : Int) < L.getD k 0)) L.length).2.2
      have e : durS L = ff (fun (k : Nat) => decide ((k : Int) < L.getD k 0)) L.length := rfl
      rw [← e] at hf
      rcases hf with hf | hf
      · omega
      · have h2 : ¬ (((durS L : Nat) : Int) < L.getD (durS L) 0) := of_decide_eq_false hf
        have h3 := getD_mono hv h1
        omega
theorem dia_dur {L : List Int} (hv : valid L = true) (t : Nat) (h : t < (dia L).length) : (dia L)[t] ≤ (durS L : Int) := by
  rw [dia_get, dc_mm' hv]
  generalize (t : Int) + 1 - L.length = d
  rcases Int.lt_or_le d 0 with hd | hd
  · obtain ⟨j, hj⟩ : ∃ j : Nat, j = ((mm L d : Int) + d).toNat := ⟨_, rfl⟩
    have hju : j ≤ durS L := dur_of_mono hv j (by
      rcases Nat.eq_zero_or_pos j with h0 | h0
      · exact .inl h0
      · right
        have h1 := mm_lt hv d (mm L d - 1) (by omega)
        have h2 := getD_mono hv (i := j - 1) (j := mm L d - 1) (by omega)
        omega)
    omega
  · have hju : mm L d ≤ durS L := dur_of_mono hv (mm L d) (by
      rcases Nat.eq_zero_or_pos (mm L d) with h0 | h0
      · exact .inl h0
      · right
        have h1 := mm_lt hv d (mm L d - 1) (by omega)
        omega)
    omega
/-- how many numbers below n stand in a window -/
def win (c x : Int) : Nat → Int
  | 0 => 0
  | n + 1 => win c x n + (if 0 ≤ (n : Int) + c ∧ (n : Int) + c < x then 1 else 0)
theorem win_eq (c x : Int) (hc : c ≤ 0) (hx : 0 ≤ x) (n : Nat) : win c x n = max 0 (min ((n : Int) + c) x) := by
  induction n with
  | zero => simp only [win]; omega
  | succ n ih => simp only [win, ih]; split <;> omega
def dsumTo (L : List Int) (n : Nat) : Nat → Int
  | 0 => 0
  | t + 1 => dsumTo L n t + dc L ((t : Int) + 1 - L.length) n
theorem dsumTo_zero (L : List Int) (t : Nat) : dsumTo L 0 t = 0 := by
  induction t with
  | zero => rfl
  | succ t ih => simp [dsumTo, ih, dc]
theorem dsumTo_succ (L : List Int) (n t : Nat) : dsumTo L (n + 1) t = dsumTo L n t + win ((1 : Int) - L.length + n) (L.getD n 0) t := by
  induction t with
  | zero => simp [dsumTo, win]
  | succ t ih =>
    simp only [dsumTo, ih, dc_succ, win]
    have e : (t : Int) + 1 - L.length + n = (t : Int) + (1 - L.length + n) := by omega
    rw [e]
    omega
theorem dsumTo_sum {L : List Int} (hv : valid L = true) (n : Nat) (hn : n ≤ L.length) : dsumTo L n (L.length - 1 + (L.headD 0).toNat) = sumL (L.take n) := by
  induction n with
  | zero => rw [dsumTo_zero]; rfl
  | succ n ih =>
    rw [dsumTo_succ, ih (by omega), sumL_take_succ L n (by omega), getD_lt (by omega)]
    have h1 := preS_of_valid hv n (by omega) (by omega)
    have h2 := head_ge hv L[n] (List.getElem_mem _)
    have h3 := headD_bd hv
    rw [win_eq _ _ (by omega) (by omega)]
    omega
theorem sum_map_range (f : Nat → Int) (n : Nat) : sumL ((List.range (n + 1)).map f) = sumL ((List.range n).map f) + f n := by
  rw [List.range_succ, List.map_append, sumL_append]; simp [sumL]
theorem dsumTo_map (L : List Int) (n t : Nat) : sumL ((List.range t).map fun (t : Nat) => dc L ((t : Int) + 1 - L.length) n) = dsumTo L n t := by
  induction t with
  | zero => rfl
  | succ t ih => rw [sum_map_range, ih]; rfl
theorem dia_sum {L : List Int} (hv : valid L = true) : sumL (dia L) = sumL L := by
  unfold dia
  rw [dsumTo_map, dsumTo_sum hv _ (Nat.le_refl _), List.take_of_length_le (Nat.le_refl _)]
/-- a cell lies in a diagram if its mirror lies in the conjugate -/
theorem cell_conj {L : List Int} (hv : valid L = true) (i k : Nat) (hi : i < L.length) : ((k : Int) < L.getD i 0) ↔ (i : Int) < (conj L).getD k 0 := by
  rw [getD_lt hi]
  rcases Nat.lt_or_ge k (conj L).length with hk | hk
  · rw [getD_lt hk, conj_get]
    have := cnt_ge_iff hv hi ((k : Int) + 1)
    omega
  · rw [getD_ge hk]
    rw [conj_len] at hk
    have h2 := head_ge hv L[i] (List.getElem_mem _)
    have := headD_bd hv
    omega
/-- the first row that ends ahead of a diagonal, of the conjugate -/
theorem mm_conj {L : List Int} (hv : valid L = true) (h0 : 0 < L.length) (d : Nat) (hd : d + mm L d ≤ (L.headD 0).toNat) : mm (conj L) (-(d : Int)) = d + mm L d := by
  have hm := mm_le L d
  show ff (fun i => decide (-(d : Int) + (i : Int) < (conj L).getD i 0)) (conj L).length = d + mm L d
  refine ff_eq (fun j hj => decide_eq_true ?_) (by rw [conj_len]; exact hd) ?_
  · rcases Nat.lt_or_ge j d with h1 | h1
    · have h2 : 1 ≤ (conj L).getD j 0 := getD_pos (valid_conj hv) (by rw [conj_len]; omega)
      omega
    · have h3 := mm_lt hv d (j - d) (by omega)
      have h4 := (cell_conj hv (j - d) j (by omega)).1 (by omega)
      omega
  · rcases Nat.lt_or_ge (d + mm L d) (L.headD 0).toNat with h1 | h1
    · right
      apply decide_eq_false
      intro h2
      rcases Nat.lt_or_ge (mm L d) L.length with h3 | h3
      · have h4 := (cell_conj hv (mm L d) (d + mm L d) h3).2 (by omega)
        have h5 := mm_ge hv d (mm L d) (Nat.le_refl _) h3
        omega
      · have e : (conj L).getD (d + mm L d) 0 = cnt (((d + mm L d : Nat) : Int) + 1) L := by rw [getD_lt (by rw [conj_len]; exact h1), conj_get]
        have h6 := cnt_bd (((d + mm L d : Nat) : Int) + 1) L
        omega
    · left; rw [conj_len]; omega
theorem mm_fits {L : List Int} (hv : valid L = true) (h0 : 0 < L.length) (d : Nat) (hd : d < (L.headD 0).toNat) : d + mm L d ≤ (L.headD 0).toNat := by
  rcases Nat.eq_zero_or_pos (mm L d) with h1 | h1
  · omega
  · have h2 := mm_lt hv d (mm L d - 1) (by omega)
    have h3 := getD_mono hv (i := 0) (j := mm L d - 1) (by omega)
    have hH : L.getD 0 0 = L.headD 0 := by cases L <;> rfl
    omega
/-- a diagonal right of the first is one below the first, of the conjugate -/
theorem dc_conj {L : List Int} (hv : valid L = true) (h0 : 0 < L.length) (d : Nat) (hd : d < (L.headD 0).toNat) : dc (conj L) (-(d : Int)) (conj L).length = dc L d L.length := by
  rw [dc_mm' (valid_conj hv), dc_mm' hv, mm_conj hv h0 d (mm_fits hv h0 d hd)]
  omega
theorem dc_conj' {L : List Int} (hv : valid L = true) (h0 : 0 < L.length) (d : Int) (h1 : -(L.length : Int) < d) (h2 : d < L.headD 0) : dc (conj L) (-d) (conj L).length = dc L d L.length := by
  have hh := headD_bd hv
  rcases Int.lt_or_le d 0 with h | h
  · obtain ⟨e, he⟩ := Int.eq_ofNat_of_zero_le (by omega : 0 ≤ -d)
    have hd : d = -(e : Int) := by omega
    have hc0 : 0 < (conj L).length := by have := conj_nil_iff hv; omega
    have := dc_conj (valid_conj hv) hc0 e (by
      have : (conj L).headD 0 = cnt 1 L := by
        rw [headD_get (conj L) hc0, conj_get]; simp
      rw [this, cnt_one hv]
      omega)
    rw [conj_conj hv] at this
    rw [he, hd]
    exact this.symm
  · obtain ⟨e, rfl⟩ := Int.eq_ofNat_of_zero_le h
    exact dc_conj hv h0 e (by omega)
theorem dia_conj {L : List Int} (hv : valid L = true) : dia (conj L) = (dia L).reverse := by
  rcases Nat.eq_zero_or_pos L.length with h0 | h0
  · obtain rfl := List.eq_nil_of_length_eq_zero h0
    rfl
  · have hh := headD_bd hv
    have hhead : (conj L).headD 0 = L.length := by
      have hc0 : 0 < (conj L).length := by
        have := conj_nil_iff hv
        omega
      rw [headD_get (conj L) hc0, conj_get]
      have := cnt_one hv
      simpa using this
    have hlen : (dia (conj L)).length = (dia L).length := by
      have hc1 : 0 < (conj L).length := by have := conj_nil_iff hv; omega
      rw [conj_len] at hc1
      rw [dia_len, dia_len, conj_len, hhead]
      omega
    apply List.ext_getElem
    · rw [List.length_reverse, hlen]
    · intro t h1 h2
      rw [List.getElem_reverse, dia_get, dia_get]
      rw [hlen] at h1
      have h3 := h1
      rw [dia_len] at h3
      rw [← dc_conj' hv h0 (((((dia L).length - 1 - t : Nat) : Int) + 1 - L.length)) (by rw [dia_len]; omega) (by rw [dia_len]; omega)]
      congr 1
      rw [dia_len, conj_len]
      omega
end NP
end Go.Proofs.Ytgkghebjaedjmaa
namespace Go.Proofs.Ytgkghebjaedjmaa
open NP
set_option linter.unusedVariables false
/-- the column behind k rows, the last one first -/
def colR (L : List Int) (a k : Nat) : Int := if k = 0 then 0 else L.getD (a - k) 0
/-- the steps along k rows -/
def wayR (L : List Int) (a : Nat) : Nat → List UInt8
  | 0 => []
  | k + 1 => wayR L a k ++ (List.replicate (L.getD (a - 1 - k) 0 - colR L a k).toNat 101 ++ [110])
def wayF (L : List Int) (a b : Int) : List UInt8 := if inbF L a b = true then wayR L a.toNat a.toNat ++ List.replicate (b - colR L a.toNat a.toNat).toNat 101 else []
theorem colR_succ (L : List Int) (a k : Nat) : colR L a (k + 1) = L.getD (a - 1 - k) 0 := by
  unfold colR
  rw [if_neg (by omega)]
  congr 1
  omega
theorem colR_bd {L : List Int} (hv : valid L = true) (a k : Nat) : 0 ≤ colR L a k ∧ colR L a k ≤ 16 := by
  unfold colR
  split
  · omega
  · exact getD_nn hv _
theorem colR_le {L : List Int} (hv : valid L = true) {a k : Nat} (h : k < a) : colR L a k ≤ L.getD (a - 1 - k) 0 := by
  unfold colR
  split
  · exact (getD_nn hv _).1
  · exact getD_mono hv (by omega)
theorem colR_end {L : List Int} {a b : Nat} (h : inbF L a b = true) : colR L a a ≤ (b : Int) := by
  unfold colR
  split
  · omega
  · rw [Nat.sub_self]
    unfold inbF at h
    simp only [Bool.and_eq_true, decide_eq_true_eq] at h
    have e : L.getD 0 0 = L.headD 0 := by cases L <;> rfl
    rw [e]
    exact h.2.2.2
theorem wayR_len {L : List Int} (hv : valid L = true) (a : Nat) : ∀ k, (wayR L a k).length ≤ 17 * k
  | 0 => by simp [wayR]
  | k + 1 => by
    have h1 := wayR_len hv a k
    have h2 := getD_nn hv (a - 1 - k)
    have h3 := colR_bd hv a k
    simp only [wayR, List.length_append, List.length_replicate, List.length_singleton]
    omega
theorem wayF_yes {L : List Int} {a b : Nat} (h : inbF L a b = true) : wayF L a b = wayR L a a ++ List.replicate ((b : Int) - colR L a a).toNat 101 := by unfold wayF; rw [if_pos h]; simp
theorem wayF_no {L : List Int} {a b : Int} (h : inbF L a b = false) : wayF L a b = [] := by unfold wayF; rw [if_neg (by rw [h]; decide)]
theorem rep_one (x : UInt8) : ∀ n, Lib.repeatL [x] n = List.replicate n x
  | 0 => rfl
  | n + 1 => by rw [Lib.repeatL, rep_one x n]; rfl
end Go.Proofs.Ytgkghebjaedjmaa
namespace Go.Proofs.Ytgkghebjaedjmaa
open Go.RowKit NP
set_option maxRecDepth 8000
set_option linter.unusedVariables false
set_option linter.unusedSimpArgs false
theorem getD_bdB {L : List Int} (h : valid L = true) (m : Nat) : 0 ≤ L.getD m 0 ∧ L.getD m 0 ≤ 16 := by
  rw [List.getD_eq_getElem?_getD]
  rcases Nat.lt_or_ge m L.length with hm | hm
  · rw [List.getElem?_eq_getElem hm, Option.getD_some]
    have h1 := valid_mem h _ (List.getElem_mem hm)
    have h2 := headD_bd h
    omega
  · rw [List.getElem?_eq_none hm, Option.getD_none]; omega
theorem wpList_id {P : Program} {ops : Array Oper} {Q : Exit → Act → World → Prop} {l : List Oper} {a : Act} {w : World} (h : wpList P ops Q l a w) : wpList P ops Q l a w := h
end Go.Proofs.Ytgkghebjaedjmaa
namespace Go.Proofs.Ytgkghebjaedjmaa
open Go.RowKit NP
set_option maxRecDepth 8000
set_option linter.unusedVariables false
set_option linter.unusedSimpArgs false
theorem isB_below {T e : TypeId} {B b : Nat} {bs : List Value} {w w' : World} (h : Lib.IsBuilder T e B b bs w) (hb : Below w.heap.size w w') : Lib.IsBuilder T e B b bs w' := by
  have key : ∀ p, Lib.BuilderAt T e B b p bs w → Lib.BuilderAt T e B b p bs w' := by
    rintro p ⟨hB, v, hh, hown, hne⟩
    refine ⟨hB, v, (hb.block b (Array.getElem?_eq_some_iff.1 hh).1).trans hh, ownsRow_keep hown (fun g hg => hb.block g ?_), hne⟩
    rcases hown.2 with ⟨h1, -⟩ | ⟨g2, cap, cur, rfl, -, hg2, -⟩
    · subst h1; simp [Value.ownBlock] at hg
    · simp [Value.ownBlock] at hg
      subst hg
      exact (Array.getElem?_eq_some_iff.1 hg2).1
  exact h.imp (key _) (key _)
theorem e_size : (ByteArray.mk #[101]).size = 1 := rfl
theorem strC (l : List UInt8) : Lib.strCells ⟨l.toArray⟩ = Lib.byteCells l := by rw [Lib.strCells_eq]
theorem way_cells (l : List UInt8) (n : Nat) : Lib.byteCells l ++ Lib.strCells ⟨(Lib.repeatL [101] n).toArray⟩ ++ [.int .u8 110] = Lib.byteCells (l ++ (List.replicate n 101 ++ [110])) := by
  rw [strC, rep_one, Lib.byteCells_append, Lib.byteCells_append, List.append_assoc]
  rfl
theorem way_last (l : List UInt8) (n : Nat) : Lib.byteCells l ++ Lib.strCells ⟨(Lib.repeatL [101] n).toArray⟩ = Lib.byteCells (l ++ List.replicate n 101) := by
  rw [strC, rep_one, Lib.byteCells_append]
theorem way_size (n : Nat) : (ByteArray.mk (Lib.repeatL [101] n).toArray).size = n := by
  rw [rep_one]
  simp [ByteArray.size]
set_option maxHeartbeats 1000000 in
theorem bsteps_any (L : List Int) (a b : Nat) (hI : inbF L a b = true) (w : World) :
    Calls Try.prog 69 #[.agg #[.int .i64 a, .int .i64 b], .agg (arr (pad L))] w fun e w' => e = .returned (.string ⟨(wayF L a b).toArray⟩) ∧ Below w.heap.size w w' := by
  obtain ⟨hv, -, ha4, -, hb4⟩ := inb_lim hI
  have hl16 := (valid_bd hv).2.2.2
  have hpl := pad_len hl16
  have hend := colR_end hI
  have HF := Lib.hid (wayF_yes hI)
  have hx0 := ((Blk.new w 85 #[.int .i64 a, .int .i64 b]).alloc (.cells (arr (pad L)) 60)).alloc (.cells #[.pointer none, .slice none 0 0] 113)
  have hd0 := (Blk.new (w.alloc (.cells #[.int .i64 a, .int .i64 b] 85)) 60 (arr (pad L))).alloc (.cells #[.pointer none, .slice none 0 0] 113)
  have hs0 := Lib.fresh_isBuilder 113 5 ((w.alloc (.cells #[.int .i64 a, .int .i64 b] 85)).alloc (.cells (arr (pad L)) 60))
  rw [World.size_alloc] at hd0
  rw [World.size_alloc, World.size_alloc] at hs0
  have hbel0 := (((Below.refl w.heap.size w).alloc (Nat.le_refl _) (.cells #[.int .i64 a, .int .i64 b] 85)).alloc (by simp) (.cells (arr (pad L)) 60)).alloc (by simp; omega) (.cells #[.pointer none, .slice none 0 0] 113)
  have HYB := Lib.hid (fun (m : Nat) (y : Int) (h : y = L.getD m 0) => show 0 ≤ y ∧ y ≤ 16 by rw [h]; exact getD_bdB hv m)
  have HY := Lib.hid (fun (m : Nat) => pad_getD (M := L) hl16 m)
  have HWL := Lib.hid (fun k => wayR_len hv a k)
  have HCB := Lib.hid (fun k => colR_bd hv a k)
  have HCL := Lib.hid (fun k (h : k < a) => colR_le hv h)
  clear hI hv
  go_enter Try.func69, Try.ntmps69
  go_wp2
  go_loopw [6, 7] (fun vc vi wr => ∃ k : Nat, k ≤ a ∧ vi = .int .i64 ((a : Int) - 1 - (k : Int)) ∧ vc = .int .i64 (colR L a k) ∧ Below w.heap.size w wr ∧ w.heap.size + 1 + 1 < wr.heap.size ∧ Blk wr w.heap.size 85 #[.int .i64 a, .int .i64 b] ∧ Blk wr (w.heap.size + 1) 60 (arr (pad L)) ∧ Lib.IsBuilder 113 5 (w.heap.size + 1 + 1) (w.heap.size + 1 + 1) (Lib.byteCells (wayR L a k)) wr) (fun _ vi _ => (intOf vi + 1).toNat)
  case atStart => exact ⟨0, Nat.zero_le _, by go_num, rfl, hbel0, by simp, hx0, hd0, hs0⟩
  case round =>
    obtain ⟨k, hk, rfl, rfl, hbel, hsz, hbX, hbD, hbS⟩ := hrel
    clear hx0 hd0 hs0 hbel0
    have hlen := HWL.out k
    have hcb := HCB.out k
    by_cases hlt : k < a
    · obtain ⟨m, hm⟩ : ∃ m : Nat, m = a - 1 - k := ⟨_, rfl⟩
      have hmi : (a : Int) - 1 - (k : Int) = (m : Int) := by omega
      rw [hmi]
      have HM := Lib.hid hm
      have hm16 : (m : Int) < 16 := by omega
      have hm16' : m < 16 := by omega
      have hcl := HCL.out k hlt
      have HSTEP : Hid (wayR L a (k + 1) = wayR L a k ++ (List.replicate (L.getD (a - 1 - k) 0 - colR L a k).toNat 101 ++ [110])) := Lib.hid rfl
      have HCS := Lib.hid (colR_succ L a k)
      rw [← hm] at HSTEP HCS hcl
      obtain ⟨y, hy⟩ : ∃ y, y = L.getD m 0 := ⟨_, rfl⟩
      have hyb : 0 ≤ y ∧ y ≤ 16 := HYB.out m y hy
      have hcd : wr.cell? ⟨w.heap.size + 1, m, none⟩ = some (.int .i64 y) := by rw [hbD.cell m, arr_get _ m (by omega), ← getD_lt (by omega), HY.out, hy]
      rw [← hy] at HSTEP HCS hcl
      generalize colR L a k = c at *
      obtain ⟨n, hn⟩ : ∃ n : Nat, n = (y - c).toNat := ⟨_, rfl⟩
      rw [← hn] at HSTEP
      have hyc : IntKind.i64.wrap (y - c) = (n : Int) := by rw [IntWalk.i64_in _ (by omega)]; omega
      have hn16 : n ≤ 16 := by omega
      have HD := Lib.hid hbD
      have HX := Lib.hid hbX
      have hA1 : w.heap.size + 1 < wr.heap.size := by omega
      have hA0 : w.heap.size < wr.heap.size := by omega
      clear hn hy hcl hyb hm hmi
      go_wp2_with fail
      refine (sRepeat_any ⟨#[101]⟩ n _ (by omega) (by rw [e_size]; omega)).mono ?_
      rintro e w1 ⟨rfl, hb1⟩
      have hS1 := isB_below hbS hb1
      have hsz1 := hb1.size
      go_wp2_with fail
      refine (sbStr_any _ _ _ _ _ hS1 (by rw [Lib.byteCells_length, way_size]; omega) (by omega)).mono ?_
      rintro e w2 ⟨rfl, hS2, hb2⟩
      have hsz2 := hb2.size
      go_wp2_with fail
      refine (sbByte_any _ _ _ 110 _ (Or.inr hS2) (by rw [List.length_append, Lib.byteCells_length, strC, Lib.byteCells_length, rep_one, List.length_replicate]; omega) (by omega)).mono ?_
      rintro e w3 ⟨rfl, hS3, hb3⟩
      have hsz3 := hb3.size
      have hD3 := ((HD.out.below hb1 hA1).below hb2 (by omega)).below hb3 (by omega)
      have hX3 := ((HX.out.below hb1 hA0).below hb2 (by omega)).below hb3 (by omega)
      have hc3 : w3.cell? ⟨w.heap.size + 1, m, none⟩ = some (.int .i64 y) := by
        rw [hD3.cell m, ← HD.out.cell m]; exact hcd
      have hbel3 := hbel.trans (((hb1.mono (Nat.le_of_lt hA0)).trans (hb2.mono (by omega))).trans (hb3.mono (by omega)))
      go_wp2_with fail
      go_roundw
      case rel =>
        have hm := HM.out
        refine ⟨k + 1, by omega, by go_num, by rw [HCS.out], hbel3, by omega, hX3, hD3, ?_⟩
        rw [HSTEP.out, ← way_cells]
        exact Or.inr hS3
      case measure => simp [intOf] <;> omega
    · obtain rfl : k = a := by omega
      have hneg : decide ((0 : Int) ≤ (k : Int) - 1 - (k : Int)) = false := decide_eq_false (by omega)
      have hc1 : wr.cell? ⟨w.heap.size, 1, none⟩ = some (.int .i64 (b : Int)) := by rw [hbX.cell 1]; rfl
      generalize colR L k k = c at *
      obtain ⟨n, hn⟩ : ∃ n : Nat, n = ((b : Int) - c).toNat := ⟨_, rfl⟩
      rw [← hn] at HF
      have hyc : IntKind.i64.wrap ((b : Int) - c) = (n : Int) := by rw [IntWalk.i64_in _ (by omega)]; omega
      have hn16 : n ≤ 16 := by omega
      clear hn hend
      have hz : (k : Int) - 1 - (k : Int) = -1 := by omega
      rw [hz] at *
      go_wp2_with fail
      refine (sRepeat_any ⟨#[101]⟩ n _ (by omega) (by rw [e_size]; omega)).mono ?_
      rintro e w1 ⟨rfl, hb1⟩
      have hS1 := isB_below hbS hb1
      have hsz1 := hb1.size
      go_wp2_with fail
      refine (sbStr_any _ _ _ _ _ hS1 (by rw [Lib.byteCells_length, way_size]; omega) (by omega)).mono ?_
      rintro e w2 ⟨rfl, hS2, hb2⟩
      have hsz2 := hb2.size
      have hS3 : Lib.IsBuilder 113 5 (w.heap.size + 1 + 1) (w.heap.size + 1 + 1) (Lib.byteCells (wayR L k k ++ List.replicate n 101)) w2 := by
        rw [← way_last]; exact Or.inr hS2
      go_wp2_with fail
      refine (sbString_any _ _ _ _ hS3 (by omega)).mono ?_
      rintro e w3 ⟨rfl, hb3⟩
      have hbel3 := hbel.trans (((hb1.mono (by omega)).trans (hb2.mono (by omega))).trans (hb3.mono (by omega)))
      go_wp2_with fail
      go_ret
      exact ⟨by rw [HF.out]; rfl, hbel3⟩
set_option maxHeartbeats 1000000 in
theorem iPathOf_any (p : Option Addr) (c B : Nat) (L : List Int) (a b : Int) (w : World) (h : Rd w B p (ints L)) (hB : B ≤ w.heap.size) (hl : L.length ≤ 4611686018427387904) :
    Calls Try.prog 36 #[.slice p L.length c, .int .i64 a, .int .i64 b] w fun e w' => e = .returned (.string ⟨(wayF L a b).toArray⟩) ∧ Below w.heap.size w w' := by
  have hi16 : (Try.prog.info? 60).map (·.size) = some (arr (dg L)).size := by rw [arr_size, dg_len]; exact T_info35
  have hsz : (arr (dg L)).size = (arr (List.replicate 16 0)).size := by rw [arr_size, arr_size, dg_len]; rfl
  cases hI : inbF L a b with
  | false =>
    have HI := Lib.hid hI
    have HF := Lib.hid (wayF_no hI)
    clear hI
    rw [HF.out]
    go_enter Try.func36, Try.ntmps36
    go_wp2_with (first
    | (go_at_call 68; refine (partsInBox_any _ _ B L a b _ h hB hl).mono ?_; rintro e w1 ⟨rfl, hb1⟩; rw [HI.out]; have hz1 := hb1.size; have hd0 := (Blk.new w1 60 (arr (List.replicate 16 0))).alloc (.cells #[.int .i64 0, .int .i64 0] 85); have hx0 := Blk.new (w1.alloc (.cells (arr (List.replicate 16 0)) 60)) 85 #[Value.int .i64 0, Value.int .i64 0]; rw [World.size_alloc] at hx0; have hx1 := hx0.rowOff (g' := w1.heap.size) (vs := arr (dg L)) (by omega); have hA := (hb1.alloc hz1 (.cells (arr (List.replicate 16 0)) 60)).alloc (by simp; omega) (.cells #[.int .i64 0, .int .i64 0] 85))
    | ((with_reducible refine wpList_id ?_); refine wpList_store_row rfl 60 (.tmp 7) (.tmp 15) rfl w1.heap.size rfl (arr (dg L)) rfl 60 (arr (List.replicate 16 0)) hd0 hi16 hsz (arr_one _) ?_)
    | ((with_reducible refine wpList_id ?_); refine wpList_store_row rfl 85 (.tmp 8) (.tmp 16) rfl (w1.heap.size + 1) rfl #[.int .i64 a, .int .i64 b] rfl 85 _ hx1 T_box rfl (two_oneB _ _) ?_; have hA2 := below_setRow' (below_setRow' hA (by omega : w.heap.size ≤ w1.heap.size) (arr (dg L))) (by omega : w.heap.size ≤ w1.heap.size + 1) #[.int .i64 a, .int .i64 b]))
    go_ret
    exact ⟨rfl, hA2⟩
  | true =>
    obtain ⟨hv, ha0, ha4, hb0, hb4⟩ := inb_lim hI
    obtain ⟨na, rfl⟩ := Int.eq_ofNat_of_zero_le ha0
    obtain ⟨nb, rfl⟩ := Int.eq_ofNat_of_zero_le hb0
    have HI := Lib.hid hI
    have HBO : Hid (∀ w, Calls Try.prog 69 #[.agg #[.int .i64 na, .int .i64 nb], .agg (arr (dg L))] w fun e w' => e = .returned (.string ⟨(wayF L na nb).toArray⟩) ∧ Below w.heap.size w w') := Lib.hid (fun w => by rw [dg_yes hv]; exact bsteps_any L na nb hI w)
    have hu := Try.underlying60
    have huB := Try.underlying85
    clear hI hv
    go_enter Try.func36, Try.ntmps36
    go_wp2_with (first
    | (go_at_call 68; refine (partsInBox_any _ _ B L na nb _ h hB hl).mono ?_; rintro e w1 ⟨rfl, hb1⟩; rw [HI.out]; have hz1 := hb1.size; have hd0 := (Blk.new w1 60 (arr (List.replicate 16 0))).alloc (.cells #[.int .i64 0, .int .i64 0] 85); have hx0 := Blk.new (w1.alloc (.cells (arr (List.replicate 16 0)) 60)) 85 #[Value.int .i64 0, Value.int .i64 0]; rw [World.size_alloc] at hx0; have hx1 := hx0.rowOff (g' := w1.heap.size) (vs := arr (dg L)) (by omega); have hne : w1.heap.size ≠ w1.heap.size + 1 := (by omega); have hle1 : w.heap.size ≤ w1.heap.size + 1 := (by omega); have hA := (hb1.alloc hz1 (.cells (arr (List.replicate 16 0)) 60)).alloc (by simp; omega) (.cells #[.int .i64 0, .int .i64 0] 85))
    | ((with_reducible refine wpList_id ?_); refine wpList_store_row rfl 60 (.tmp 7) (.tmp 15) rfl w1.heap.size rfl (arr (dg L)) rfl 60 (arr (List.replicate 16 0)) hd0 hi16 hsz (arr_one _) ?_)
    | ((with_reducible refine wpList_id ?_); refine wpList_store_row rfl 85 (.tmp 8) (.tmp 16) rfl (w1.heap.size + 1) rfl #[.int .i64 na, .int .i64 nb] rfl 85 _ hx1 T_box rfl (two_oneB _ _) ?_; have hd2 := (hd0.row (vs := arr (dg L))).rowOff (g' := w1.heap.size + 1) (vs := #[.int .i64 na, .int .i64 nb]) hne; have hx2 := hx1.row (vs := #[.int .i64 na, .int .i64 nb]); have hA2 := below_setRow' (below_setRow' hA hz1 (arr (dg L))) hle1 #[.int .i64 na, .int .i64 nb])
    | ((with_reducible refine wpList_id ?_); refine wpList_load_row rfl 85 (.tmp 8) rfl (w1.heap.size + 1) rfl 85 #[.int .i64 na, .int .i64 nb] (0, 0) _ hx2 huB rfl T_box ?_)
    | ((with_reducible refine wpList_id ?_); refine wpList_load_row rfl 60 (.tmp 7) rfl w1.heap.size rfl 60 (arr (dg L)) (0, 0) _ hd2 hu rfl hi16 ?_)
    | (go_at_call 69; refine (HBO.out _).mono ?_; rintro e w3 ⟨rfl, hb3⟩))
    go_ret
    exact ⟨rfl, hA2.trans (hb3.mono hA2.size)⟩
end Go.Proofs.Ytgkghebjaedjmaa
namespace Go.Proofs.Ytgkghebjaedjmaa
namespace NP
set_option linter.unusedVariables false
/-- how many parts of n, none greater than k -/
def ct : Nat → Nat → Nat
  | 0, _ => 1
  | _ + 1, 0 => 0
  | n + 1, k + 1 => ct (n + 1) k + (if k ≤ n then ct (n - k) (k + 1) else 0)
termination_by n k => n + k
decreasing_by all_goals omega
theorem ct_zero (k : Nat) : ct 0 k = 1 := by unfold ct; rfl
theorem ct_none (n : Nat) (h : 0 < n) : ct n 0 = 0 := by
  cases n with
  | zero => omega
  | succ n => unfold ct; rfl
theorem ct_rec (n k : Nat) (hk : 1 ≤ k) (h : k ≤ n) : ct n k = ct n (k - 1) + ct (n - k) k := by
  cases n with
  | zero => omega
  | succ n =>
    cases k with
    | zero => omega
    | succ k =>
      rw [ct, if_pos (by omega)]
      simp
theorem ct_big (n k : Nat) (hk : 1 ≤ k) (h : n < k) : ct n k = ct n (k - 1) := by
  cases n with
  | zero => rw [ct_zero, ct_zero]
  | succ n =>
    cases k with
    | zero => omega
    | succ k =>
      rw [ct, if_neg (by omega)]
      simp
theorem ct_pow (m : Nat) : ∀ n k, n + k = m → 1 ≤ n → ct n k + 2 ^ (n - k) ≤ 2 ^ n := by
  induction m using Nat.strongRecOn with
  | _ m ih =>
    intro n k hm hn
    cases k with
    | zero => rw [ct_none n hn]; simp
    | succ k =>
      have i1 := ih (n + k) (by omega) n k rfl hn
      rcases Nat.lt_or_ge n (k + 1) with h | h
      · rw [ct_big n (k + 1) (by omega) h, Nat.add_sub_cancel]
        have e : n - (k + 1) = n - k := by omega
        rw [e]; exact i1
      · rw [ct_rec n (k + 1) (by omega) h, Nat.add_sub_cancel]
        have e1 : n - k = n - (k + 1) + 1 := by omega
        rw [e1, Nat.pow_succ] at i1
        rcases Nat.eq_zero_or_pos (n - (k + 1)) with h0 | h0
        · rw [h0, ct_zero]
          rw [h0] at i1
          omega
        · have i2 := ih (n - (k + 1) + (k + 1)) (by omega) (n - (k + 1)) (k + 1) rfl h0
          have := Nat.two_pow_pos (n - (k + 1) - (k + 1))
          omega
theorem ct_le (n k : Nat) (h : n ≤ 40) : ct n k ≤ 1099511627776 := by
  rcases Nat.eq_zero_or_pos n with rfl | h0
  · rw [ct_zero]; decide
  · have h1 := ct_pow _ n k rfl h0
    have h2 : 2 ^ n ≤ 2 ^ 40 := Nat.pow_le_pow_right (by decide) h
    have h3 : (2 : Nat) ^ 40 = 1099511627776 := by decide
    have h4 := Nat.two_pow_pos (n - k)
    omega
/-- counts when a further number may come -/
def wv (D : List Int) (p : Nat) (s : Nat) : Int := if h : p = 0 ∨ s < p then D.getD s 0 else D.getD s 0 + wv D p (s - p)
termination_by s
decreasing_by have := h; omega
theorem wv_low (D : List Int) (p s : Nat) (h : s < p) : wv D p s = D.getD s 0 := by rw [wv, dif_pos (.inr h)]
theorem wv_high (D : List Int) (p s : Nat) (hp : 1 ≤ p) (h : p ≤ s) : wv D p s = D.getD s 0 + wv D p (s - p) := by rw [wv, dif_neg (by omega)]
def wrow (D : List Int) (p : Nat) : List Int := (List.range 41).map (wv D p)
def wmid (D : List Int) (p l : Nat) : List Int := (List.range 41).map fun s => if s < p + l then wv D p s else D.getD s 0
theorem wrow_len (D : List Int) (p : Nat) : (wrow D p).length = 41 := by simp [wrow]
theorem wmid_len (D : List Int) (p l : Nat) : (wmid D p l).length = 41 := by simp [wmid]
theorem wmid_zero {D : List Int} (hD : D.length = 41) (p : Nat) : wmid D p 0 = D := by
  apply List.ext_getElem
  · rw [wmid_len, hD]
  · intro j h1 h2
    simp only [wmid, List.getElem_map, List.getElem_range]
    rw [← getD_lt h2]
    split
    · exact wv_low D p j (by omega)
    · rfl
theorem wmid_end (D : List Int) (p l : Nat) (h : 41 ≤ p + l) : wmid D p l = wrow D p := by
  apply List.map_congr_left
  intro s hs
  rw [List.mem_range] at hs
  rw [if_pos (by omega)]
theorem wmid_lo (D : List Int) (p l : Nat) (hp : 1 ≤ p) (h : l < 41) : (wmid D p l)[l]'(by rw [wmid_len]; exact h) = wv D p l := by
  simp only [wmid, List.getElem_map, List.getElem_range]
  rw [if_pos (by omega)]
theorem wmid_hi (D : List Int) (p l : Nat) (h : l + p < 41) : (wmid D p l)[l + p]'(by rw [wmid_len]; exact h) = D.getD (l + p) 0 := by
  simp only [wmid, List.getElem_map, List.getElem_range]
  rw [if_neg (by omega)]
theorem wmid_set (D : List Int) (p l : Nat) (hp : 1 ≤ p) (h : l + p < 41) : (wmid D p l).set (l + p) (D.getD (l + p) 0 + wv D p l) = wmid D p (l + 1) := by
  apply List.ext_getElem
  · rw [List.length_set, wmid_len, wmid_len]
  · intro j h1 h2
    by_cases hj : l + p = j
    · subst hj
      rw [List.getElem_set_self]
      simp only [wmid, List.getElem_map, List.getElem_range]
      rw [if_pos (by omega), wv_high D p (l + p) hp (by omega), Nat.add_sub_cancel]
    · rw [List.getElem_set_ne hj]
      simp only [wmid, List.getElem_map, List.getElem_range]
      split <;> split <;> first | rfl | omega
/-- the counts of all parts, none greater than k -/
def crow (k : Nat) : List Int := (List.range 41).map fun s => (ct s k : Int)
theorem crow_len (k : Nat) : (crow k).length = 41 := by simp [crow]
theorem crow_getD (k s : Nat) (h : s < 41) : (crow k).getD s 0 = ct s k := by rw [getD_lt (by rw [crow_len]; exact h)]; simp [crow]
theorem crow_get (k s : Nat) (h : s < (crow k).length) : (crow k)[s] = ct s k := by simp [crow]
theorem wv_crow (k : Nat) (s : Nat) (h : s < 41) : wv (crow k) (k + 1) s = ct s (k + 1) := by
  induction s using Nat.strongRecOn with
  | _ s ih =>
    rcases Nat.lt_or_ge s (k + 1) with h1 | h1
    · rw [wv_low _ _ _ h1, crow_getD _ _ h, ct_big s (k + 1) (by omega) h1]; rfl
    · rw [wv_high _ _ _ (by omega) h1, crow_getD _ _ h, ih (s - (k + 1)) (by omega) (by omega), ct_rec s (k + 1) (by omega) h1]
      simp
theorem wrow_crow (k : Nat) : wrow (crow k) (k + 1) = crow (k + 1) := by
  apply List.map_congr_left
  intro s hs
  rw [List.mem_range] at hs
  exact wv_crow k s hs
theorem crow_zero : crow 0 = 1 :: List.replicate 40 0 := by
  have e : ∀ n, (List.range (n + 1)).map (fun s => ((ct s 0 : Nat) : Int)) = 1 :: List.replicate n 0 := by
    intro n
    induction n with
    | zero => simp [ct_zero]
    | succ n ih => rw [List.range_succ, List.map_append, ih, List.replicate_succ', List.map_cons, List.map_nil, ct_none _ (by omega)]; rfl
  exact e 40
end NP
end Go.Proofs.Ytgkghebjaedjmaa
namespace Go.Proofs.Ytgkghebjaedjmaa
namespace NP
set_option linter.unusedVariables false
def ctZ (n k : Int) : Int := if n < 0 then 0 else (ct n.toNat k.toNat : Int)
theorem ctZ_zero (k : Int) : ctZ 0 k = 1 := by unfold ctZ; rw [if_neg (by omega)]; simp [ct_zero]
theorem ctZ_neg (n k : Int) (h : n < 0) : ctZ n k = 0 := by unfold ctZ; rw [if_pos h]
theorem ctZ_none (n : Int) (h : 0 < n) : ctZ n 0 = 0 := by unfold ctZ; rw [if_neg (by omega), Int.toNat_zero, ct_none _ (by omega)]; rfl
theorem ctZ_nat (n k : Nat) : ctZ n k = ct n k := by unfold ctZ; rw [if_neg (by omega)]; simp
theorem ctZ_rec (n k : Int) (hn : 1 ≤ n) (hk : 1 ≤ k) : ctZ n k = ctZ n (k - 1) + ctZ (n - k) k := by
  obtain ⟨n, rfl⟩ := Int.eq_ofNat_of_zero_le (by omega : 0 ≤ n)
  obtain ⟨k, rfl⟩ := Int.eq_ofNat_of_zero_le (by omega : 0 ≤ k)
  have e : (k : Int) - 1 = ((k - 1 : Nat) : Int) := by omega
  rw [e, ctZ_nat, ctZ_nat]
  rcases Nat.lt_or_ge n k with h | h
  · rw [ctZ_neg _ _ (by omega), ct_big n k (by omega) h]; omega
  · have e2 : (n : Int) - k = ((n - k : Nat) : Int) := by omega
    rw [e2, ctZ_nat, ct_rec n k (by omega) h]; omega
theorem ctZ_bd (n k : Int) (h : n ≤ 40) : 0 ≤ ctZ n k ∧ ctZ n k ≤ 1099511627776 := by
  unfold ctZ
  split
  · omega
  · have := ct_le n.toNat k.toNat (by omega)
    omega
theorem ctZ_crow (n k : Int) (h0 : 0 ≤ n) (h : n ≤ 40) : (crow k.toNat).getD n.toNat 0 = ctZ n k := by
  rw [crow_getD _ _ (by omega)]
  unfold ctZ
  rw [if_neg (by omega)]
/-- how many parts have a sum -/
def cpF (n : Int) : Int := if 0 ≤ n ∧ n ≤ 40 then ctZ n n else -1
/-- at most so many -/
def amF (n k : Int) : Int := if (0 ≤ n ∧ n ≤ 40) ∧ (0 ≤ k ∧ k ≤ 40) then ctZ n k else -1
/-- just so many -/
def jpF (n k : Int) : Int := if (0 ≤ n ∧ n ≤ 40) ∧ (0 ≤ k ∧ k ≤ 40) then ctZ (n - k) k else -1
theorem jp_spec (n k : Int) (hn : 0 ≤ n) (hk : 0 < k) : ctZ n k - ctZ n (k - 1) = ctZ (n - k) k := by
  rcases Int.lt_or_le 0 n with h | h
  · rw [ctZ_rec n k (by omega) (by omega)]; omega
  · obtain rfl : n = 0 := by omega
    rw [ctZ_zero, ctZ_zero, ctZ_neg _ _ (by omega)]; rfl
end NP
end Go.Proofs.Ytgkghebjaedjmaa
namespace Go.Proofs.Ytgkghebjaedjmaa
open Go.RowKit NP
set_option maxRecDepth 8000
set_option linter.unusedVariables false

theorem rngYes (n lo hi : Int) (w : World) (h1 : lo ≤ n) (h2 : n ≤ hi) : Calls Try.prog 38 #[.int .i64 n, .int .i64 lo, .int .i64 hi] w fun e w' => e = .returned (.bool true) ∧ w' = w := by
  go_enter Try.func38, Try.ntmps38
  go_wp2
  go_ret
  exact ⟨rfl, rfl⟩
theorem rngNo (n lo hi : Int) (w : World) (h : n < lo ∨ hi < n) : Calls Try.prog 38 #[.int .i64 n, .int .i64 lo, .int .i64 hi] w fun e w' => e = .returned (.bool false) ∧ w' = w := by
  by_cases h1 : lo ≤ n
  · have h2 : hi < n := by omega
    clear h
    go_enter Try.func38, Try.ntmps38
    go_wp2
    go_ret
    exact ⟨ret_bool (by simp; omega), rfl⟩
  · clear h
    go_enter Try.func38, Try.ntmps38
    go_wp2
    go_ret
    exact ⟨rfl, rfl⟩
def inR (n lo hi : Int) : Bool := decide (lo ≤ n) && decide (n ≤ hi)
theorem inRange_any (n lo hi : Int) (w : World) : Calls Try.prog 38 #[.int .i64 n, .int .i64 lo, .int .i64 hi] w fun e w' => e = .returned (.bool (inR n lo hi)) ∧ w = w' := by
  by_cases h : lo ≤ n ∧ n ≤ hi
  · refine (rngYes n lo hi w h.1 h.2).mono ?_
    rintro e w' ⟨rfl, rfl⟩
    exact ⟨ret_bool (by unfold inR; rw [decide_eq_true h.1, decide_eq_true h.2]; rfl), rfl⟩
  · refine (rngNo n lo hi w (by omega)).mono ?_
    rintro e w' ⟨rfl, rfl⟩
    refine ⟨ret_bool ?_, rfl⟩
    unfold inR
    rcases Int.lt_or_le n lo with h1 | h1
    · rw [decide_eq_false (by omega : ¬ lo ≤ n)]; rfl
    · rw [decide_eq_false (by omega : ¬ n ≤ hi)]; simp


theorem T_info41 : (Try.prog.info? 102).map (·.size) = some 41 := by kernel_rfl
theorem T_index41 (D : List Int) (k : Nat) (hk : k < D.length) (h16 : k < 41) (w : World) : (Instr.index 102 (.agg (arr D)) (.int .i64 k)).run Try.prog w = .ok (.int .i64 D[k]) w :=
  run_index_row 102 3 _ 41 Try.underlying102 Try.underlying3 rfl (by kernel_rfl) (arr D) k _ h16 (arr_get D k hk) .i64 w

theorem withMany_any (D : List Int) (hD : D.length = 41) (p : Nat) (hp : 1 ≤ p) (hp40 : p ≤ 40) (hb : ∀ s, s < 41 → (0 ≤ D.getD s 0 ∧ D.getD s 0 ≤ 1099511627776) ∧ 0 ≤ wv D p s ∧ wv D p s ≤ 1099511627776) (w : World) :
    Calls Try.prog 96 #[.agg (arr D), .int .i64 p] w fun e w' => e = .returned (.agg (arr (wrow D p))) ∧ Below w.heap.size w w' := by
  have HD := Lib.hid hD
  have hi41 : (Try.prog.info? 102).map (·.size) = some (arr D).size := by rw [arr_size, hD]; exact T_info41
  have HB := Lib.hid hb
  clear hD hb
  have hrange : (41 : Int) - (p : Int) = ((41 - p : Nat) : Int) := by omega
  have hb0 := (Blk.new w 102 (arr D)).alloc (.cells (arr (List.replicate 41 0)) 102)
  go_enter Try.func96, Try.ntmps96
  go_wp2
  go_loopw [8] (fun i wr => ∃ l : Nat, l ≤ 41 - p ∧ i = .int .i64 l ∧ Below w.heap.size w wr ∧ Blk wr (w.heap.size + 1) 102 (arr (List.replicate 41 0)) ∧ Blk wr w.heap.size 102 (arr (wmid D p l))) (fun i _ => 41 - (intOf i).toNat)
  case atStart =>
    refine ⟨0, Nat.zero_le _, rfl, ((Below.refl _ _).alloc (Nat.le_refl _) _).alloc (by simp) _, ?_, by rw [wmid_zero HD.out]; exact hb0⟩
    have e := Blk.new (w.alloc (.cells (arr D) 102)) 102 (arr (List.replicate 41 0))
    rw [World.size_alloc] at e
    exact e
  case round =>
    obtain ⟨l, hl, rfl, hbel, hb2, hb3⟩ := hrel
    by_cases hlt : l < 41 - p
    · have hlp : l + p < 41 := by omega
      have hl41 : l < 41 := by omega
      have b1 := (HB.out (l + p) hlp).1
      have b2 := (HB.out l hl41).2
      have hs : D.getD (l + p) 0 + wv D p l = wv D p (l + p) := by rw [wv_high D p (l + p) hp (by omega), Nat.add_sub_cancel]
      have b3 := (HB.out (l + p) hlp).2
      rw [← hs] at b3
      have HSET := Lib.hid (wmid_set D p l hp hlp)
      have hc1 : wr.cell? ⟨w.heap.size, l, none⟩ = some (.int .i64 (wv D p l)) := by rw [hb3.cell l, arr_get _ l (by rw [wmid_len]; exact hl41), wmid_lo D p l hp hl41]
      have hc2 : wr.cell? ⟨w.heap.size, l + p, none⟩ = some (.int .i64 (D.getD (l + p) 0)) := by rw [hb3.cell (l + p), arr_get _ (l + p) (by rw [wmid_len]; exact hlp), wmid_hi D p l hlp]
      have hf2 : wr.frozen? ⟨w.heap.size, l + p, none⟩ = false := hb3.free (l + p)
      have hl41' : (l : Int) < 41 := by omega
      clear hs
      obtain ⟨q, hq⟩ : ∃ q : Nat, q = l + p := ⟨_, rfl⟩
      rw [← hq] at hf2 b1 b3
      have hc2' : wr.cell? ⟨w.heap.size, q, none⟩ = some (.int .i64 (D.getD q 0)) := by rw [hq]; exact hc2
      have HSET' : Hid ((wmid D p l).set q (D.getD q 0 + wv D p l) = wmid D p (l + 1)) := Lib.hid (by rw [hq]; exact HSET.out)
      clear hc2 HSET
      have hw : IntKind.i64.wrap ((l : Int) + (p : Int)) = (q : Int) := by rw [IntWalk.i64_in _ (by omega)]; omega
      have hq41 : (q : Int) < 41 := by omega
      have hq41' : q < 41 := by omega
      clear hq
      generalize D.getD q 0 = x at *
      generalize wv D p l = y at *
      have hw2 : IntKind.i64.wrap (x + y) = x + y := IntWalk.i64_in _ (by omega)
      go_wp2
      go_still_tail 10, (by kernel_rfl)
      change wpList _ _ _ _ _ wr.drew
      have hbel' : Below w.heap.size w wr.drew := hbel.trans ((Dr.n wr 1).below _)
      have hb2' : Blk wr.drew (w.heap.size + 1) 102 (arr (List.replicate 41 0)) := hb2
      have hb3' : Blk wr.drew w.heap.size 102 (arr (wmid D p l)) := hb3
      have hf3 : wr.drew.frozen? ⟨w.heap.size, q, none⟩ = false := hf2
      have hc3 : wr.drew.cell? ⟨w.heap.size, q, none⟩ = some (.int .i64 x) := hc2'
      generalize wr.drew = w2 at *
      clear hbel hb2 hb3
      go_wp2
      go_roundw
      case rel =>
        refine ⟨l + 1, by omega, by go_num, hbel'.setCell (by show w.heap.size ≤ w.heap.size; omega) _, hb2'.off (by show w.heap.size + 1 ≠ w.heap.size; omega) _, ?_⟩
        have e := hb3'.set q (.int .i64 (x + y))
        rw [arr_set, HSET'.out] at e
        exact e
      case measure => simp [intOf]; omega
    · obtain rfl : l = 41 - p := by omega
      have HE := Lib.hid (wmid_end D p (41 - p) (by omega))
      have hi2 : (Try.prog.info? 102).map (·.size) = some (arr (wmid D p (41 - p))).size := by rw [arr_size, wmid_len]; exact T_info41
      have hsz : (arr (wmid D p (41 - p))).size = (arr (List.replicate 41 0)).size := by rw [arr_size, arr_size, wmid_len]; rfl
      go_wp2_with (first | (refine wpList_load_row rfl 102 (.tmp 2) rfl w.heap.size rfl 102 (arr (wmid D p (41 - p))) (0, 0) _ hb3 Try.underlying102 rfl hi2 ?_) | (refine wpList_store_row rfl 102 (.tmp 4) (.tmp 22) rfl (w.heap.size + 1) rfl (arr (wmid D p (41 - p))) rfl 102 _ hb2 hi2 hsz (arr_one _) ?_))
      refine bodyPost_ret (results_cell_row rfl _ _ (w.heap.size + 1) 102 (arr (wmid D p (41 - p))) (0, 0) _ rfl hb2.row Try.underlying102 rfl hi2) rfl ?_
      exact ⟨by rw [HE.out], below_setRow' hbel (by omega) _⟩

theorem crow_bd (k : Nat) : ∀ s, s < 41 → (0 ≤ (crow k).getD s 0 ∧ (crow k).getD s 0 ≤ 1099511627776) ∧ 0 ≤ wv (crow k) (k + 1) s ∧ wv (crow k) (k + 1) s ≤ 1099511627776 := fun s hs => by
  rw [crow_getD k s hs, wv_crow k s hs]
  have := ct_le s k (by omega)
  have := ct_le s (k + 1) (by omega)
  omega

theorem countsBy_any (ff : Nat) (he : ∀ (args : Array Value) (w : World), (callFunc ff args).run Try.prog w = .ok (.enter ff args) w) (R : Nat → List Int) (h0 : R 0 = 1 :: List.replicate 40 0) (hl : ∀ j, (R j).length = 41)
    (k : Nat) (hk : k ≤ 40) (hc : ∀ j : Nat, j < k → ∀ w1 : World, Calls Try.prog ff #[.agg (arr (R j)), .int .i64 ((j : Int) + 1)] w1 fun e w2 => e = .returned (.agg (arr (R (j + 1)))) ∧ Below w1.heap.size w1 w2) (w : World) :
    Calls Try.prog 79 #[.int .i64 k, .func (.func ff) #[] #[]] w fun e w' => e = .returned (.agg (arr (R k))) ∧ Below w.heap.size w w' := by
  have hi0 : (Try.prog.info? 102).map (·.size) = some (arr (1 :: List.replicate 40 0)).size := T_info41
  have hsz0 : (arr (1 :: List.replicate 40 0)).size = (arr (List.replicate 41 0)).size := rfl
  have hb1 : Blk ((w.alloc (.cells (arr (List.replicate 41 0)) 102)).alloc (.cells (arr (List.replicate 41 0)) 102)) (w.heap.size + 1) 102 (arr (List.replicate 41 0)) := by
    have e := Blk.new (w.alloc (.cells (arr (List.replicate 41 0)) 102)) 102 (arr (List.replicate 41 0))
    rw [World.size_alloc] at e
    exact e
  have HC := Lib.hid hc
  have HL := Lib.hid hl
  clear hc hl
  go_enter Try.func79, Try.ntmps79
  go_wp2_with (refine wpList_store_row rfl 102 (.tmp 5) (.tmp 7) rfl (w.heap.size + 1) rfl (arr (1 :: List.replicate 40 0)) rfl 102 _ hb1 hi0 hsz0 (arr_one _) ?_)
  go_loopw [6] (fun i wr => ∃ j : Nat, j ≤ k ∧ i = .int .i64 ((j : Int) + 1) ∧ Below w.heap.size w wr ∧ Blk wr w.heap.size 102 (arr (List.replicate 41 0)) ∧ Blk wr (w.heap.size + 1) 102 (arr (R j))) (fun i _ => 50 - (intOf i).toNat)
  case atStart =>
    refine ⟨0, Nat.zero_le _, rfl, below_setRow' (((Below.refl _ _).alloc (Nat.le_refl _) _).alloc (by simp) _) (by omega) _, ?_, ?_⟩
    · exact ((Blk.new w 102 (arr (List.replicate 41 0))).alloc _).rowOff (by omega)
    · rw [h0]; exact hb1.row
  case round =>
    obtain ⟨j, hj, rfl, hbel, hb2, hb3⟩ := hrel
    have hi2 : (Try.prog.info? 102).map (·.size) = some (arr (R j)).size := by rw [arr_size, HL.out]; exact T_info41
    by_cases hlt : j < k
    · have hlt' : (j : Int) + 1 ≤ (k : Int) := by omega
      have hi3 : (Try.prog.info? 102).map (·.size) = some (arr (R (j + 1))).size := by rw [arr_size, HL.out]; exact T_info41
      have hsz : (arr (R (j + 1))).size = (arr (R j)).size := by rw [arr_size, arr_size, HL.out, HL.out]
      have HCj := Lib.hid (HC.out j hlt)
      go_wp2_with (first
        | (refine wpList_load_row rfl 102 (.tmp 5) rfl (w.heap.size + 1) rfl 102 (arr (R j)) (0, 0) _ hb3 Try.underlying102 rfl hi2 ?_)
        | (with_reducible refine (HCj.out _).mono ?_; rintro e w1 ⟨rfl, hbw⟩; have hb3' : Blk w1 (w.heap.size + 1) 102 (arr (R j)) := hb3.below hbw hb3.lt; have hb2' : Blk w1 w.heap.size 102 (arr (List.replicate 41 0)) := hb2.below hbw hb2.lt; have hbel' : Below w.heap.size w w1 := hbel.trans (hbw.mono hbel.size))
        | (refine wpList_store_row rfl 102 (.tmp 5) (.tmp 16) rfl (w.heap.size + 1) rfl (arr (R (j + 1))) rfl 102 _ hb3' hi3 hsz (arr_one _) ?_))
      go_roundw
      case rel => exact ⟨j + 1, by omega, by go_num, below_setRow' hbel' (by omega) _, hb2'.rowOff (by omega), hb3'.row (vs := arr (R (j + 1)))⟩
      case measure => simp [intOf]; omega
    · obtain rfl : j = k := by omega
      have hlt' : (j : Int) < (j : Int) + 1 := by omega
      have hsz : (arr (R j)).size = (arr (List.replicate 41 0)).size := by rw [arr_size, arr_size, HL.out]; rfl
      go_wp2_with (first
        | (refine wpList_load_row rfl 102 (.tmp 5) rfl (w.heap.size + 1) rfl 102 (arr (R j)) (0, 0) _ hb3 Try.underlying102 rfl hi2 ?_)
        | (refine wpList_store_row rfl 102 (.tmp 4) (.tmp 17) rfl w.heap.size rfl (arr (R j)) rfl 102 _ hb2 hi2 hsz (arr_one _) ?_))
      refine bodyPost_ret (results_cell_row rfl _ _ w.heap.size 102 (arr (R j)) (0, 0) _ rfl hb2.row Try.underlying102 rfl hi2) rfl ?_
      exact ⟨rfl, below_setRow' hbel (Nat.le_refl _) _⟩

end Go.Proofs.Ytgkghebjaedjmaa
namespace Go.Proofs.Ytgkghebjaedjmaa
open Go.RowKit NP
set_option maxRecDepth 8000
set_option linter.unusedVariables false
set_option linter.unusedSimpArgs false
theorem validBox_any (a b : Int) (w : World) :
    Calls Try.prog 63 #[.int .i64 a, .int .i64 b] w fun e w' => e = .returned (.bool (limB a b)) ∧ w = w' := by
  by_cases ha : 0 ≤ a ∧ a ≤ 4
  · by_cases hb : 0 ≤ b ∧ b ≤ 4
    · have HR : Hid (limB a b = true) := Lib.hid (decide_eq_true ⟨ha.1, ha.2, hb.1, hb.2⟩)
      go_enter Try.func63, Try.ntmps63
      go_wp2_with (first
        | (go_at_call 38; (with_reducible refine (inRange_yes a _ _ _ ha.1 ha.2).mono ?_); rintro e w' ⟨rfl, rfl⟩)
        | (go_at_call 38; (with_reducible refine (inRange_yes b _ _ _ hb.1 hb.2).mono ?_); rintro e w' ⟨rfl, rfl⟩))
      go_ret
      exact ⟨ret_bool HR.out.symm, rfl⟩
    · have HR : Hid (limB a b = false) := Lib.hid (decide_eq_false (fun h => hb h.2.2))
      have hb' : b < 0 ∨ 4 < b := by omega
      go_enter Try.func63, Try.ntmps63
      go_wp2_with (first
        | (go_at_call 38; (with_reducible refine (inRange_yes a _ _ _ ha.1 ha.2).mono ?_); rintro e w' ⟨rfl, rfl⟩)
        | (go_at_call 38; (with_reducible refine (inRange_no b _ _ _ hb').mono ?_); rintro e w' ⟨rfl, rfl⟩))
      go_ret
      exact ⟨ret_bool HR.out.symm, rfl⟩
  · have HR : Hid (limB a b = false) := Lib.hid (decide_eq_false (fun h => ha ⟨h.1, h.2.1⟩))
    have ha' : a < 0 ∨ 4 < a := by omega
    go_enter Try.func63, Try.ntmps63
    go_wp2_with (go_at_call 38; refine (inRange_no a _ _ _ ha').mono ?_; rintro e w' ⟨rfl, rfl⟩)
    go_ret
    exact ⟨ret_bool HR.out.symm, rfl⟩
end Go.Proofs.Ytgkghebjaedjmaa
namespace Go.Proofs.Ytgkghebjaedjmaa
open Go.RowKit NP
set_option maxRecDepth 8000
set_option linter.unusedVariables false
set_option linter.unusedSimpArgs false
theorem inBox_any (p : Option Addr) (c B : Nat) (L : List Int) (a b : Int) (w : World) (r : Bool) (HR : Hid (r = decide ((L.length : Int) ≤ a ∧ (L.length = 0 ∨ L.headD 0 ≤ b)))) (h : Rd w B p (ints L)) (hl : L.length ≤ 4611686018427387904) :
    Calls Try.prog 66 #[.slice p L.length c, .int .i64 a, .int .i64 b] w fun e w' => e = .returned (.bool r) ∧ w = w' := by
  by_cases h1 : (L.length : Int) ≤ a
  · by_cases h0 : L.length = 0
    · have hr : r = true := by rw [HR.out]; exact decide_eq_true ⟨h1, Or.inl h0⟩
      rw [h0] at h1 ⊢
      have d1 : decide ((0 : Int) ≤ a) = true := decide_eq_true (by omega)
      have h1' : 0 ≤ a := by omega
      clear h0 h1 HR
      go_enter Try.func66, Try.ntmps66
      go_wp2
      go_ret
      exact ⟨ret_bool (by rw [hr]), rfl⟩
    · obtain ⟨g, o, rfl, hB, hc⟩ := h.at_ (k := 0) (by omega)
      rw [Nat.add_zero] at hc
      obtain ⟨x, hx⟩ : ∃ x, x = L[0] := ⟨_, rfl⟩
      have hr : r = decide (x ≤ b) := by
        rw [HR.out, hx]
        have e : L.headD 0 = L[0] := by cases L with
          | nil => exact absurd rfl h0
          | cons y L => rfl
        rw [← e, Bool.eq_iff_iff, decide_eq_true_eq, decide_eq_true_eq]
        exact ⟨fun h => h.2.resolve_left h0, fun h => ⟨h1, Or.inr h⟩⟩
      rw [← hx] at hc
      obtain ⟨n, hn⟩ : ∃ n, n = L.length := ⟨_, rfl⟩
      rw [← hn] at h1 h0 hl ⊢
      have d1 : decide ((n : Int) ≤ a) = true := decide_eq_true h1
      have hn0 : 0 < n := by omega
      have hnz : ((n : Int) == 0) = false := beq_eq_false_iff_ne.2 (by omega)
      clear h HR hx hn
      go_enter Try.func66, Try.ntmps66
      go_wp2
      go_ret
      exact ⟨ret_bool (by rw [hr]), rfl⟩
  · have hr : r = false := by rw [HR.out]; exact decide_eq_false (fun h => h1 h.1)
    obtain ⟨n, hn⟩ : ∃ n, n = L.length := ⟨_, rfl⟩
    rw [← hn] at h1 hl ⊢
    have d1 : decide ((n : Int) ≤ a) = false := decide_eq_false h1
    clear HR hn
    go_enter Try.func66, Try.ntmps66
    go_wp2
    go_ret
    exact ⟨ret_bool (by first | rfl | rw [hr]), rfl⟩
end Go.Proofs.Ytgkghebjaedjmaa
namespace Go.Proofs.Ytgkghebjaedjmaa
open Go.RowKit NP
set_option maxRecDepth 8000
set_option linter.unusedVariables false
set_option linter.unusedSimpArgs false
theorem str_e (l : List UInt8) (x : UInt8) : (ByteArray.mk l.toArray) ++ (ByteArray.mk #[x]) = ByteArray.mk (l ++ [x]).toArray := by
  apply ByteArray.ext
  simp
theorem rep_snoc (l : List UInt8) (j : Nat) (x : UInt8) : l ++ List.replicate (j + 1) x = (l ++ List.replicate j x) ++ [x] := by rw [List.replicate_succ', List.append_assoc]
set_option maxHeartbeats 1000000 in
theorem spath_any (p : Option Addr) (c0 B : Nat) (L : List Int) (a b : Nat) (hI : inbF L a b = true) (w : World) (h : Rd w B p (ints L)) :
    Calls Try.prog 67 #[.slice p L.length c0, .int .i64 a, .int .i64 b] w fun e w' => e = .returned (.string ⟨(wayF L a b).toArray⟩) ∧ w = w' := by
  obtain ⟨hv, -, ha4, -, hb4⟩ := inb_lim hI
  have hl16 := (valid_bd hv).2.2.2
  have HE := Lib.hid (colR_end hI)
  have HF := Lib.hid (wayF_yes hI)
  have HYB := Lib.hid (fun (m : Nat) => getD_nn hv m)
  have HCB := Lib.hid (fun k => colR_bd hv a k)
  have HCL := Lib.hid (fun k (h : k < a) => colR_le hv h)
  have HSE := Lib.hid str_e
  have HWL := Lib.hid (fun k => wayR_len hv a k)
  clear hI hv
  go_enter Try.func67, Try.ntmps67
  go_wp2_with fail
  go_loopw [7, 8, 9] (fun vw vc vi wr => ∃ k : Nat, k ≤ a ∧ vi = .int .i64 ((a : Int) - 1 - (k : Int)) ∧ vc = .int .i64 (colR L a k) ∧ vw = .string ⟨(wayR L a k).toArray⟩ ∧ w = wr) (fun _ _ vi _ => (intOf vi + 1).toNat)
  case atStart => exact ⟨0, Nat.zero_le _, by go_num, rfl, rfl, rfl⟩
  case round =>
    obtain ⟨k, hk, rfl, rfl, rfl, rfl⟩ := hrel
    have hcb := HCB.out k
    have hwl := HWL.out k
    by_cases hlt : k < a
    · obtain ⟨m, hm⟩ : ∃ m : Nat, m = a - 1 - k := ⟨_, rfl⟩
      have hmi : (a : Int) - 1 - (k : Int) = (m : Int) := by omega
      rw [hmi]
      have HM := Lib.hid hm
      have hcl := HCL.out k hlt
      have HSTEP : Hid (wayR L a (k + 1) = wayR L a k ++ (List.replicate (L.getD (a - 1 - k) 0 - colR L a k).toNat 101 ++ [110])) := Lib.hid rfl
      have HCS := Lib.hid (colR_succ L a k)
      rw [← hm] at HSTEP HCS hcl
      have hm4 : m < 4 := by omega
      have hyb := HYB.out m
      have HPART : Hid (∀ (y : Int), y = L.getD m 0 → (m < L.length ∧ ∃ g o, p = some ⟨g, o, none⟩ ∧ w.cell? ⟨g, o + m, none⟩ = some (.int .i64 y)) ∨ (¬ m < L.length ∧ y = 0)) := Lib.hid (fun y hy => by
        by_cases hml : m < L.length
        · obtain ⟨g, o, e1, -, e2⟩ := h.at_ hml
          exact .inl ⟨hml, g, o, e1, by rw [e2, hy, getD_lt hml]⟩
        · exact .inr ⟨hml, by rw [hy, getD_out (by omega)]⟩)
      obtain ⟨y, hy⟩ : ∃ y, y = L.getD m 0 := ⟨_, rfl⟩
      have hpart := HPART.out y hy
      rw [← hy] at HSTEP HCS hcl hyb
      generalize colR L a k = c at *
      generalize wayR L a k = W at *
      obtain ⟨n, hn⟩ : ∃ n : Nat, n = (y - c).toNat := ⟨_, rfl⟩
      rw [← hn] at HSTEP
      have hyc : y = c + (n : Int) := by omega
      have HYC := Lib.hid hyc
      have hn16 : n ≤ 16 := by omega
      clear hn hy HPART hm hmi hyc
      have d0 : decide ((0 : Int) ≤ (m : Int)) = true := decide_eq_true (by omega)
      have fin : ∀ (wr : World), w = wr → True := fun _ _ => trivial
      rcases hpart with ⟨hml, g, o, rfl, hc⟩ | ⟨hml, hy0⟩
      · have hml' : (m : Int) < (L.length : Int) := by omega
        have d1 : decide ((m : Int) < (L.length : Int)) = true := decide_eq_true hml'
        go_wp2_with fail
        go_loopw [7, 8] (fun vw vc wr => ∃ j : Nat, j ≤ n ∧ vc = .int .i64 (c + (j : Int)) ∧ vw = .string ⟨(W ++ List.replicate j 101).toArray⟩ ∧ w = wr) (fun _ vc _ => (y - intOf vc).toNat)
        case atStart => exact ⟨0, Nat.zero_le _, by simp, by simp, rfl⟩
        case round =>
          obtain ⟨j, hj, rfl, rfl, rfl⟩ := hrel
          by_cases hlj : j < n
          · have d2 : decide (c + (j : Int) < y) = true := decide_eq_true (by rw [HYC.out]; omega)
            have hse := HSE.out (W ++ List.replicate j 101) 101
            rw [← rep_snoc] at hse
            have hwr : IntKind.i64.wrap (c + (j : Int) + 1) = c + ((j + 1 : Nat) : Int) := by rw [IntWalk.i64_in _ (by omega)]; omega
            go_wp2_with fail
            go_roundw
            case rel => exact ⟨j + 1, by omega, by first | rfl | (congr 1; push_cast; omega) | go_num, rfl, trivial⟩
            case measure => have := HYC.out; simp [intOf]; omega
          · obtain rfl : j = n := by omega
            have d2 : decide (c + (j : Int) < y) = false := decide_eq_false (by rw [HYC.out]; omega)
            have hse := HSE.out (W ++ List.replicate j 101) 110
            go_wp2_with fail
            go_roundw
            case rel =>
              have hm := HM.out
              exact ⟨k + 1, by omega, by go_num, by rw [HCS.out]; congr 1; have h1 := HYC.out; first | omega | (have h2 := HY0.out; omega), by rw [HSTEP.out], trivial⟩
            case measure => simp [intOf] <;> omega
      · have d1 : decide ((m : Int) < (L.length : Int)) = false := decide_eq_false (by omega)
        have HY0 := Lib.hid hy0
        rw [hy0] at HYC
        clear hy0
        go_wp2_with fail
        go_loopw [7, 8] (fun vw vc wr => ∃ j : Nat, j ≤ n ∧ vc = .int .i64 (c + (j : Int)) ∧ vw = .string ⟨(W ++ List.replicate j 101).toArray⟩ ∧ w = wr) (fun _ vc _ => ((0 : Int) - intOf vc).toNat)
        case atStart => exact ⟨0, Nat.zero_le _, by simp, by simp, rfl⟩
        case round =>
          obtain ⟨j, hj, rfl, rfl, rfl⟩ := hrel
          by_cases hlj : j < n
          · have d2 : decide (c + (j : Int) < (0 : Int)) = true := decide_eq_true (by rw [HYC.out]; omega)
            have hse := HSE.out (W ++ List.replicate j 101) 101
            rw [← rep_snoc] at hse
            have hwr : IntKind.i64.wrap (c + (j : Int) + 1) = c + ((j + 1 : Nat) : Int) := by rw [IntWalk.i64_in _ (by omega)]; omega
            go_wp2_with fail
            go_roundw
            case rel => exact ⟨j + 1, by omega, by first | rfl | (congr 1; push_cast; omega) | go_num, rfl, trivial⟩
            case measure => have := HYC.out; simp [intOf]; omega
          · obtain rfl : j = n := by omega
            have d2 : decide (c + (j : Int) < (0 : Int)) = false := decide_eq_false (by rw [HYC.out]; omega)
            have hse := HSE.out (W ++ List.replicate j 101) 110
            go_wp2_with fail
            go_roundw
            case rel =>
              have hm := HM.out
              exact ⟨k + 1, by omega, by go_num, by rw [HCS.out]; congr 1; have h1 := HYC.out; first | omega | (have h2 := HY0.out; omega), by rw [HSTEP.out], trivial⟩
            case measure => simp [intOf] <;> omega
    · obtain rfl : k = a := by omega
      have hneg : decide ((0 : Int) ≤ -1) = false := by decide
      have hz : (k : Int) - 1 - (k : Int) = -1 := by omega
      rw [hz] at *
      have hend := HE.out
      generalize colR L k k = c at *
      generalize wayR L k k = W at *
      obtain ⟨n, hn⟩ : ∃ n : Nat, n = ((b : Int) - c).toNat := ⟨_, rfl⟩
      rw [← hn] at HF
      have hbc : (b : Int) = c + (n : Int) := by omega
      have HBC := Lib.hid hbc
      have hn20 : n ≤ 20 := by omega
      clear hn hbc hend hz
      go_wp2_with fail
      go_loopw [7, 8] (fun vw vc wr => ∃ j : Nat, j ≤ n ∧ vc = .int .i64 (c + (j : Int)) ∧ vw = .string ⟨(W ++ List.replicate j 101).toArray⟩ ∧ w = wr) (fun _ vc _ => ((b : Int) - intOf vc).toNat)
      case atStart => exact ⟨0, Nat.zero_le _, by simp, by simp, rfl⟩
      case round =>
        obtain ⟨j, hj, rfl, rfl, rfl⟩ := hrel
        by_cases hlj : j < n
        · have d2 : decide (c + (j : Int) < (b : Int)) = true := decide_eq_true (by rw [HBC.out]; omega)
          have hse := HSE.out (W ++ List.replicate j 101) 101
          rw [← rep_snoc] at hse
          have hwr : IntKind.i64.wrap (c + (j : Int) + 1) = c + ((j + 1 : Nat) : Int) := by rw [IntWalk.i64_in _ (by omega)]; omega
          go_wp2_with fail
          go_roundw
          case rel => exact ⟨j + 1, by omega, by first | rfl | (congr 1; push_cast; omega) | go_num, rfl, trivial⟩
          case measure => have := HBC.out; simp [intOf]; omega
        · obtain rfl : j = n := by omega
          have d2 : decide (c + (j : Int) < (b : Int)) = false := decide_eq_false (by rw [HBC.out]; omega)
          go_wp2_with fail
          go_ret
          exact ⟨by rw [HF.out]; rfl, rfl⟩
theorem sPathOf_any (p : Option Addr) (c B : Nat) (L : List Int) (a b : Int) (w : World) (h : Rd w B p (ints L)) (hl : L.length ≤ 4611686018427387904) :
    Calls Try.prog 34 #[.slice p L.length c, .int .i64 a, .int .i64 b] w fun e w' => e = .returned (.string ⟨(wayF L a b).toArray⟩) ∧ Dr w w' := by
  have HPA : Hid (inbF L a b = true → ∀ w', Rd w' B p (ints L) → Calls Try.prog 67 #[.slice p L.length c, .int .i64 a, .int .i64 b] w' fun e w2 => e = .returned (.string ⟨(wayF L a b).toArray⟩) ∧ w' = w2) := Lib.hid (fun hI w' h' => by
    obtain ⟨hv, ha0, ha4, hb0, hb4⟩ := inb_lim hI
    obtain ⟨na, rfl⟩ := Int.eq_ofNat_of_zero_le ha0
    obtain ⟨nb, rfl⟩ := Int.eq_ofNat_of_zero_le hb0
    exact spath_any p c B L na nb hI w' h')
  obtain ⟨v, hv⟩ : ∃ v, v = valid L := ⟨_, rfl⟩
  have HV := Lib.hid hv
  obtain ⟨q, hq⟩ : ∃ q, q = limB a b := ⟨_, rfl⟩
  have HQ := Lib.hid hq
  obtain ⟨r, hr⟩ : ∃ r, r = decide ((L.length : Int) ≤ a ∧ (L.length = 0 ∨ L.headD 0 ≤ b)) := ⟨_, rfl⟩
  have HB := Lib.hid hr
  have HR : Hid (inbF L a b = (v && (q && r))) := Lib.hid (by
    unfold inbF
    rw [← hv, ← hq, hr]
    cases v with
    | false => rfl
    | true =>
      cases q with
      | false => rfl
      | true =>
        simp only [Bool.true_and]
        congr 1
        cases L with
        | nil =>
          have := of_decide_eq_true hq.symm
          simp
          omega
        | cons x L => simp)
  clear hv hq hr
  cases v <;> cases q <;> cases r
  case true.true.true =>
    have HW := Lib.hid (HPA.out HR.out)
    go_enter Try.func34, Try.ntmps34
    go_wp2_with (first
      | (go_at_call 65; refine (validParts_any _ _ B L _ h hl).mono ?_; rintro e w1 ⟨rfl, n, rfl⟩; rw [← HV.out])
      | (go_at_call 63; refine (validBox_any a b _).mono ?_; rintro e w2 ⟨rfl, rfl⟩; rw [← HQ.out])
      | (go_at_call 66; refine (inBox_any _ _ B L a b _ _ HB (h.dr (Dr.n _ _)) hl).mono ?_; rintro e w3 ⟨rfl, rfl⟩)
      | (go_at_call 67; refine (HW.out _ (h.dr (Dr.n _ _))).mono ?_; rintro e w4 ⟨rfl, rfl⟩))
    go_ret
    exact ⟨rfl, Dr.n _ _⟩
  all_goals
    have HF := Lib.hid (wayF_no HR.out)
    rw [HF.out]
    clear HPA
    go_enter Try.func34, Try.ntmps34
    go_wp2_with (first
      | (go_at_call 65; refine (validParts_any _ _ B L _ h hl).mono ?_; rintro e w1 ⟨rfl, n, rfl⟩; rw [← HV.out])
      | (go_at_call 63; refine (validBox_any a b _).mono ?_; rintro e w2 ⟨rfl, rfl⟩; rw [← HQ.out])
      | (go_at_call 66; refine (inBox_any _ _ B L a b _ _ HB (h.dr (Dr.n _ _)) hl).mono ?_; rintro e w3 ⟨rfl, rfl⟩))
    go_ret
    exact ⟨rfl, Dr.n _ _⟩
end Go.Proofs.Ytgkghebjaedjmaa
