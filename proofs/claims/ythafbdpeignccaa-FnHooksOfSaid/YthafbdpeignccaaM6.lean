/-
  Plain mathematics of the promises of times and corners.
-/
import Derived.Test.YthafbdpeignccaaM5
namespace Go.Proofs.Ythafbdpeignccaa
namespace NP
set_option linter.unusedVariables false
/-- the numbers times how often they come, up to n -/
def wti (L : List Int) : Nat → Int
  | 0 => 0
  | n + 1 => wti L n + ((n : Int) + 1) * eqc ((n : Int) + 1) L
def ctim (L : List Int) : Nat → Int
  | 0 => 0
  | n + 1 => ctim L n + eqc ((n : Int) + 1) L
theorem wti_nil (n : Nat) : wti [] n = 0 := by
  induction n with
  | zero => rfl
  | succ n ih => simp [wti, ih, eqc]
theorem ctim_nil (n : Nat) : ctim [] n = 0 := by
  induction n with
  | zero => rfl
  | succ n ih => simp [ctim, ih, eqc]
theorem wti_cons (x : Int) (r : List Int) (n : Nat) : wti (x :: r) n = wti r n + (if 1 ≤ x ∧ x ≤ n then x else 0) := by
  induction n with
  | zero => simp [wti]; omega
  | succ n ih =>
    simp only [wti, ih, eqc]
    by_cases hx : x = (n : Int) + 1
    · subst hx
      rw [if_pos rfl, if_neg (by omega), if_pos (by omega), Int.mul_add]
      omega
    · rw [if_neg hx, Int.zero_add]
      split <;> split <;> omega
theorem ctim_cons (x : Int) (r : List Int) (n : Nat) : ctim (x :: r) n = ctim r n + (if 1 ≤ x ∧ x ≤ n then 1 else 0) := by
  induction n with
  | zero => simp [ctim]; omega
  | succ n ih =>
    simp only [ctim, ih, eqc]
    by_cases hx : x = (n : Int) + 1
    · subst hx
      rw [if_pos rfl, if_neg (by omega), if_pos (by omega)]
      omega
    · rw [if_neg hx, Int.zero_add]
      split <;> split <;> omega
theorem wti_sum (L : List Int) (n : Nat) (h : ∀ x ∈ L, 1 ≤ x ∧ x ≤ n) : wti L n = sumL L := by
  induction L with
  | nil => rw [wti_nil]; rfl
  | cons x r ih =>
    rw [wti_cons, ih (fun y hy => h y (by simp [hy])), if_pos (h x (by simp))]
    simp [sumL]; omega
theorem ctim_len (L : List Int) (n : Nat) (h : ∀ x ∈ L, 1 ≤ x ∧ x ≤ n) : ctim L n = L.length := by
  induction L with
  | nil => rw [ctim_nil]; rfl
  | cons x r ih =>
    rw [ctim_cons, ih (fun y hy => h y (by simp [hy])), if_pos (h x (by simp))]
    simp
theorem sum_tim (L : List Int) (n : Nat) : sumL ((List.range n).map fun (j : Nat) => eqc ((j : Int) + 1) L) = ctim L n := by
  induction n with
  | zero => rfl
  | succ n ih => rw [List.range_succ, List.map_append, sumL_append, ih]; simp [ctim, sumL]
theorem valid_mem {L : List Int} (h : valid L = true) : ∀ x ∈ L, 1 ≤ x ∧ x ≤ (((L.headD 0).toNat : Nat) : Int) := by
  intro x hx
  have hg := head_ge h x hx
  obtain ⟨n, hn, e⟩ := List.mem_iff_getElem.1 hx
  have := preS_of_valid h n hn hn
  omega
theorem tim_sum {L : List Int} (h : valid L = true) : sumL (tim L) = L.length := by
  unfold tim
  rw [sum_tim]
  exact ctim_len L _ (valid_mem h)
theorem eqc_mul_bd (L : List Int) (n : Nat) (hn : n ≤ 16) (hl : L.length ≤ 16) : 0 ≤ ((n : Int) + 1) * eqc ((n : Int) + 1) L ∧ ((n : Int) + 1) * eqc ((n : Int) + 1) L ≤ 272 := by
  have h := eqc_bd ((n : Int) + 1) L
  generalize eqc ((n : Int) + 1) L = y at h ⊢
  have h1 : 0 ≤ ((n : Int) + 1) * y := Int.mul_nonneg (by omega) h.1
  have h2 : ((n : Int) + 1) * y ≤ 17 * 16 := Int.mul_le_mul (by omega) (by omega) h.1 (by omega)
  omega
theorem wti_bd (L : List Int) (hl : L.length ≤ 16) (n : Nat) (hn : n ≤ 17) : 0 ≤ wti L n ∧ wti L n ≤ 272 * n := by
  induction n with
  | zero => simp [wti]
  | succ n ih =>
    have := ih (by omega)
    have := eqc_mul_bd L n (by omega) hl
    simp only [wti]
    omega
theorem tim_conj {L : List Int} (h : valid L = true) (k : Nat) (hk : k < (L.headD 0).toNat) : eqc ((k : Int) + 1) L = cnt ((k : Int) + 1) L - (if k + 1 < (L.headD 0).toNat then cnt ((k : Int) + 2) L else 0) := by
  rw [eqc_cnt]
  split
  · congr 1
  · rename_i h1
    have e : cnt ((k : Int) + 1 + 1) L = 0 := by
      apply cnt_none
      intro x hx
      have := valid_mem h x hx
      omega
    omega
/-- how many numbers come -/
def nz (L : List Int) : Nat → Nat
  | 0 => 0
  | n + 1 => nz L n + (if 0 < eqc ((n : Int) + 1) L then 1 else 0)
theorem nz_nil (n : Nat) : nz [] n = 0 := by
  induction n with
  | zero => rfl
  | succ n ih => simp [nz, ih, eqc]
theorem nz_le (L : List Int) (n : Nat) : nz L n ≤ n := by
  induction n with
  | zero => simp [nz]
  | succ n ih => simp only [nz]; split <;> omega
theorem nz_cons (x : Int) (r : List Int) (n : Nat) : nz (x :: r) n = nz r n + (if 1 ≤ x ∧ x ≤ n ∧ eqc x r ≤ 0 then 1 else 0) := by
  induction n with
  | zero => simp [nz]; omega
  | succ n ih =>
    have e : eqc ((n : Int) + 1) (x :: r) = (if x = (n : Int) + 1 then 1 else 0) + eqc ((n : Int) + 1) r := rfl
    simp only [nz, ih]
    by_cases hx : x = (n : Int) + 1
    · subst hx
      have hb := (eqc_bd ((n : Int) + 1) r).1
      rw [if_pos rfl] at e
      split <;> split <;> split <;> split <;> omega
    · rw [if_neg hx, Int.zero_add] at e
      rw [e]
      split <;> split <;> split <;> omega
theorem fl_len_shift (p : Nat → Bool) (n : Nat) : (fl p (n + 1)).length = (if p 0 then 1 else 0) + (fl (fun i => p (i + 1)) n).length := by
  induction n with
  | zero => rw [fl_succ]; simp [fl]; split <;> simp_all
  | succ n ih =>
    rw [fl_succ, List.length_append, ih, fl_succ, List.length_append]
    split <;> split <;> simp_all <;> omega
theorem isC_tail (x : Int) (r : List Int) (i : Nat) : isC (x :: r) (i + 1) = isC r i := by
  unfold isC
  simp
theorem eqc_none (x : Int) (r : List Int) (h : ∀ y ∈ r, y < x) : eqc x r = 0 := by
  induction r with
  | nil => rfl
  | cons y t ih =>
    have := h y (by simp)
    simp only [eqc]
    rw [if_neg (by omega), ih (fun z hz => h z (by simp [hz]))]
    rfl
/-- falls: each at most the one ahead -/
def mono : List Int → Prop
  | [] => True
  | x :: r => (∀ y ∈ r, y ≤ x) ∧ mono r
theorem crn_nz (L : List Int) (hm : mono L) (n : Nat) (h : ∀ x ∈ L, 1 ≤ x ∧ x ≤ n) : (crn L).length = nz L n := by
  induction L with
  | nil => rw [nz_nil]; rfl
  | cons x r ih =>
    have ih' := ih hm.2 (fun y hy => h y (by simp [hy]))
    have hx := h x (by simp)
    rw [nz_cons, ← ih']
    unfold crn
    rw [crnTo_fl, crnTo_fl, List.length_cons, fl_len_shift, fl_congr _ (isC r) _ (fun i _ => isC_tail x r i)]
    rw [Nat.add_comm]
    congr 1
    cases r with
    | nil => simp [isC, eqc]; omega
    | cons y t =>
      have e : isC (x :: y :: t) 0 = decide (y < x) := by unfold isC; simp
      rw [e]
      have hy := hm.1 y (by simp)
      by_cases hyx : y < x
      · rw [decide_eq_true hyx]
        have e2 : eqc x (y :: t) = 0 := eqc_none x _ fun z hz => by
          rcases List.mem_cons.1 hz with rfl | hz
          · exact hyx
          · have := hm.2.1 z hz; omega
        rw [e2, if_pos rfl, if_pos (by omega)]
      · have hyx2 : y = x := by omega
        subst hyx2
        have := (eqc_bd y t).1
        rw [decide_eq_false hyx, if_neg (by simp), if_neg (by simp [eqc]; omega)]
theorem mono_of {L : List Int} (h : ∀ i (hi : i + 1 < L.length), L[i + 1] ≤ L[i]) : mono L := by
  induction L with
  | nil => trivial
  | cons x r ih =>
    have hr : mono r := ih fun i hi => by have := h (i + 1) (by simpa using hi); simpa using this
    refine ⟨fun y hy => ?_, hr⟩
    cases r with
    | nil => simp at hy
    | cons z t =>
      have h0 := h 0 (by simp)
      simp at h0
      rcases List.mem_cons.1 hy with rfl | hy
      · exact h0
      · exact Int.le_trans (hr.1 y hy) h0
theorem mono_valid {L : List Int} (h : valid L = true) : mono L := mono_of fun i hi => by
  have := (preS_of_valid h (i + 1) hi hi).2.2 (by omega)
  simpa using this
theorem crn_len_nz {L : List Int} (h : valid L = true) : (crn L).length = nz L (L.headD 0).toNat := crn_nz L (mono_valid h) _ (valid_mem h)
theorem nz_fl (L : List Int) (n : Nat) : (fl (fun i => decide (0 < eqc ((i : Int) + 1) L)) n).length = nz L n := by
  induction n with
  | zero => rfl
  | succ n ih =>
    rw [fl_succ, List.length_append, ih]
    simp only [nz]
    split <;> split <;> simp_all
theorem crn_conj_nz {L : List Int} (h : valid L = true) : (crn (conj L)).length = nz L (L.headD 0).toNat := by
  unfold crn
  rw [crnTo_fl, conj_len, fl_congr _ (fun i => decide (0 < eqc ((i : Int) + 1) L)) _ (fun i hi => ?_), nz_fl]
  have hi1 : i < (conj L).length := by rw [conj_len]; exact hi
  unfold isC
  rw [getD_lt hi1, conj_get, eqc_cnt]
  by_cases h1 : i + 1 < (conj L).length
  · rw [decide_eq_false (by omega), Bool.false_or, getD_lt h1, conj_get]
    have e : (((i + 1 : Nat) : Int) + 1) = (i : Int) + 1 + 1 := by omega
    rw [e]
    apply decide_eq_decide.2
    omega
  · rw [decide_eq_true (by omega), Bool.true_or]
    have e : cnt ((i : Int) + 1 + 1) L = 0 := by
      apply cnt_none
      intro x hx
      have := valid_mem h x hx
      rw [conj_len] at h1
      omega
    have e1 : 0 < cnt ((i : Int) + 1) L := by
      cases L with
      | nil => simp at hi
      | cons x r =>
        have := (cnt_bd ((i : Int) + 1) r).1
        simp only [cnt]
        simp only [List.headD_cons] at hi
        rw [if_pos (by omega)]
        omega
    rw [e, eq_comm, decide_eq_true_eq]
    omega
theorem fl_asc (p : Nat → Bool) (n : Nat) : ∀ i (h : i + 1 < (fl p n).length), (fl p n)[i] < (fl p n)[i + 1] := by
  have hp : (fl p n).Pairwise (· < ·) := by
    unfold fl
    rw [List.pairwise_map]
    exact (List.Pairwise.filter _ List.pairwise_lt_range).imp fun h => by simpa using h
  intro i h
  exact List.pairwise_iff_getElem.1 hp i (i + 1) (by omega) h (by omega)
theorem asc_of_eq {X Y : List Int} (e : X = Y) (h : ∀ i (hi : i + 1 < Y.length), Y[i] < Y[i + 1]) : ∀ i (hi : i + 1 < X.length), X[i] < X[i + 1] := by subst e; exact h
theorem get_of_eq {X Y : List Int} {f : Nat → Int} (e : X = Y) (h : ∀ k (hk : k < Y.length), Y[k] = f k) : ∀ k (hk : k < X.length), X[k] = f k := by subst e; exact h
end NP
end Go.Proofs.Ythafbdpeignccaa
