/-
  Plain mathematics of the promises of times and corners. Plain mathematics of united parts: sorted lists with the same numbers are the same; two sorted lists merged. Walks: sum, validParts, ValidParts, SumOf of the model. Walks: the laws' own helpers on lists of numbers: copied (toIntS), compared (eqIntS, equalInts), marked, held. Walks: the methods of a diagram: sum, count, durfee, list, conjugate. Walks: the exported functions of chapter 1 on one list of numbers, of the model (spec) and of the program (impl): valid, sum, conjugate, durfee.
-/
import Derived.Test.YtbbbfaollcklkaaZp1
import Derived.Test.YtbbbfaollcklkaaProg
import Derived.Deep.QuietTactic
import Derived.BigQuiet
import Derived.Lib.Hide
namespace Go.Proofs.Ytbbbfaollcklkaa
namespace NP
set_option linter.unusedVariables false
/-- the numbers times how often they come, up to n -/
def wti (L : List Int) : Nat → Int
  | 0 => 0
  | n + 1 => wti L n + ((n : Int) + 1) * eqc ((n : Int) + 1) L
def ctim (L : List Int) : Nat → Int
  | 0 => 0
  | n + 1 => ctim L n + eqc ((n : Int) + 1) L
theorem wti_nil (n : Nat) : wti [] n = 0 := by
  induction n with
  | zero => rfl
  | succ n ih => simp [wti, ih, eqc]
theorem ctim_nil (n : Nat) : ctim [] n = 0 := by
  induction n with
  | zero => rfl
  | succ n ih => simp [ctim, ih, eqc]
theorem wti_cons (x : Int) (r : List Int) (n : Nat) : wti (x :: r) n = wti r n + (if 1 ≤ x ∧ x ≤ n then x else 0) := by
  induction n with
  | zero => simp [wti]; omega
  | succ n ih =>
    simp only [wti, ih, eqc]
    by_cases hx : x = (n : Int) + 1
    · subst hx
      rw [if_pos rfl, if_neg (by omega), if_pos (by omega), Int.mul_add]
      omega
    · rw [if_neg hx, Int.zero_add]
      split <;> split <;> omega
theorem ctim_cons (x : Int) (r : List Int) (n : Nat) : ctim (x :: r) n = ctim r n + (if 1 ≤ x ∧ x ≤ n then 1 else 0) := by
  induction n with
  | zero => simp [ctim]; omega
  | succ n ih =>
    simp only [ctim, ih, eqc]
    by_cases hx : x = (n : Int) + 1
    · subst hx
      rw [if_pos rfl, if_neg (by omega), if_pos (by omega)]
      omega
    · rw [if_neg hx, Int.zero_add]
      split <;> split <;> omega
theorem wti_sum (L : List Int) (n : Nat) (h : ∀ x ∈ L, 1 ≤ x ∧ x ≤ n) : wti L n = sumL L := by
  induction L with
  | nil => rw [wti_nil]; rfl
  | cons x r ih =>
    rw [wti_cons, ih (fun y hy => h y (by simp [hy])), if_pos (h x (by simp))]
    simp [sumL]; omega
theorem ctim_len (L : List Int) (n : Nat) (h : ∀ x ∈ L, 1 ≤ x ∧ x ≤ n) : ctim L n = L.length := by
  induction L with
  | nil => rw [ctim_nil]; rfl
  | cons x r ih =>
    rw [ctim_cons, ih (fun y hy => h y (by simp [hy])), if_pos (h x (by simp))]
    simp
theorem sum_tim (L : List Int) (n : Nat) : sumL ((List.range n).map fun (j : Nat) => eqc ((j : Int) + 1) L) = ctim L n := by
  induction n with
  | zero => rfl
  | succ n ih => rw [List.range_succ, List.map_append, sumL_append, ih]; simp [ctim, sumL]
theorem valid_mem {L : List Int} (h : valid L = true) : ∀ x ∈ L, 1 ≤ x ∧ x ≤ (((L.headD 0).toNat : Nat) : Int) := by
  intro x hx
  have hg := head_ge h x hx
  obtain ⟨n, hn, e⟩ := List.mem_iff_getElem.1 hx
  have := preS_of_valid h n hn hn
  omega
theorem tim_sum {L : List Int} (h : valid L = true) : sumL (tim L) = L.length := by
  unfold tim
  rw [sum_tim]
  exact ctim_len L _ (valid_mem h)
theorem eqc_mul_bd (L : List Int) (n : Nat) (hn : n ≤ 16) (hl : L.length ≤ 16) : 0 ≤ ((n : Int) + 1) * eqc ((n : Int) + 1) L ∧ ((n : Int) + 1) * eqc ((n : Int) + 1) L ≤ 272 := by
  have h := eqc_bd ((n : Int) + 1) L
  generalize eqc ((n : Int) + 1) L = y at h ⊢
  have h1 : 0 ≤ ((n : Int) + 1) * y := Int.mul_nonneg (by omega) h.1
  have h2 : ((n : Int) + 1) * y ≤ 17 * 16 := Int.mul_le_mul (by omega) (by omega) h.1 (by omega)
  omega
theorem wti_bd (L : List Int) (hl : L.length ≤ 16) (n : Nat) (hn : n ≤ 17) : 0 ≤ wti L n ∧ wti L n ≤ 272 * n := by
  induction n with
  | zero => simp [wti]
  | succ n ih =>
    have := ih (by omega)
    have := eqc_mul_bd L n (by omega) hl
    simp only [wti]
    omega
theorem tim_conj {L : List Int} (h : valid L = true) (k : Nat) (hk : k < (L.headD 0).toNat) : eqc ((k : Int) + 1) L = cnt ((k : Int) + 1) L - (if k + 1 < (L.headD 0).toNat then cnt ((k : Int) + 2) L else 0) := by
  rw [eqc_cnt]
  split
  · congr 1
  · rename_i h1
    have e : cnt ((k : Int) + 1 + 1) L = 0 := by
      apply cnt_none
      intro x hx
      have := valid_mem h x hx
      omega
    omega
/-- how many numbers come -/
def nz (L : List Int) : Nat → Nat
  | 0 => 0
  | n + 1 => nz L n + (if 0 < eqc ((n : Int) + 1) L then 1 else 0)
theorem nz_nil (n : Nat) : nz [] n = 0 := by
  induction n with
  | zero => rfl
  | succ n ih => simp [nz, ih, eqc]
theorem nz_le (L : List Int) (n : Nat) : nz L n ≤ n := by
  induction n with
  | zero => simp [nz]
  | succ n ih => simp only [nz]; split <;> omega
theorem nz_cons (x : Int) (r : List Int) (n : Nat) : nz (x :: r) n = nz r n + (if 1 ≤ x ∧ x ≤ n ∧ eqc x r ≤ 0 then 1 else 0) := by
  induction n with
  | zero => simp [nz]; omega
  | succ n ih =>
    have e : eqc ((n : Int) + 1) (x :: r) = (if x = (n : Int) + 1 then 1 else 0) + eqc ((n : Int) + 1) r := rfl
    simp only [nz, ih]
    by_cases hx : x = (n : Int) + 1
    · subst hx
      have hb := (eqc_bd ((n : Int) + 1) r).1
      rw [if_pos rfl] at e
      split <;> split <;> split <;> split <;> omega
    · rw [if_neg hx, Int.zero_add] at e
      rw [e]
      split <;> split <;> split <;> omega
theorem fl_len_shift (p : Nat → Bool) (n : Nat) : (fl p (n + 1)).length = (if p 0 then 1 else 0) + (fl (fun i => p (i + 1)) n).length := by
  induction n with
  | zero => rw [fl_succ]; simp [fl]; split <;> simp_all
  | succ n ih =>
    rw [fl_succ, List.length_append, ih, fl_succ, List.length_append]
    split <;> split <;> simp_all <;> omega
theorem isC_tail (x : Int) (r : List Int) (i : Nat) : isC (x :: r) (i + 1) = isC r i := by
  unfold isC
  simp
theorem eqc_none (x : Int) (r : List Int) (h : ∀ y ∈ r, y < x) : eqc x r = 0 := by
  induction r with
  | nil => rfl
  | cons y t ih =>
    have := h y (by simp)
    simp only [eqc]
    rw [if_neg (by omega), ih (fun z hz => h z (by simp [hz]))]
    rfl
/-- falls: each at most the one ahead -/
def mono : List Int → Prop
  | [] => True
  | x :: r => (∀ y ∈ r, y ≤ x) ∧ mono r
theorem crn_nz (L : List Int) (hm : mono L) (n : Nat) (h : ∀ x ∈ L, 1 ≤ x ∧ x ≤ n) : (crn L).length = nz L n := by
  induction L with
  | nil => rw [nz_nil]; rfl
  | cons x r ih =>
    have ih' := ih hm.2 (fun y hy => h y (by simp [hy]))
    have hx := h x (by simp)
    rw [nz_cons, ← ih']
    unfold crn
    rw [crnTo_fl, crnTo_fl, List.length_cons, fl_len_shift, fl_congr _ (isC r) _ (fun i _ => isC_tail x r i)]
    rw [Nat.add_comm]
    congr 1
    cases r with
    | nil => simp [isC, eqc]; omega
    | cons y t =>
      have e : isC (x :: y :: t) 0 = decide (y < x) := by unfold isC; simp
      rw [e]
      have hy := hm.1 y (by simp)
      by_cases hyx : y < x
      · rw [decide_eq_true hyx]
        have e2 : eqc x (y :: t) = 0 := eqc_none x _ fun z hz => by
          rcases List.mem_cons.1 hz with rfl | hz
          · exact hyx
          · have := hm.2.1 z hz; omega
        rw [e2, if_pos rfl, if_pos (by omega)]
      · have hyx2 : y = x := by omega
        subst hyx2
        have := (eqc_bd y t).1
        rw [decide_eq_false hyx, if_neg (by simp), if_neg (by simp [eqc]; omega)]
theorem mono_of {L : List Int} (h : ∀ i (hi : i + 1 < L.length), L[i + 1] ≤ L[i]) : mono L := by
  induction L with
  | nil => trivial
  | cons x r ih =>
    have hr : mono r := ih fun i hi => by have := h (i + 1) (by simpa using hi); simpa using this
    refine ⟨fun y hy => ?_, hr⟩
    cases r with
    | nil => simp at hy
    | cons z t =>
      have h0 := h 0 (by simp)
      simp at h0
      rcases List.mem_cons.1 hy with rfl | hy
      · exact h0
      · exact Int.le_trans (hr.1 y hy) h0
theorem mono_valid {L : List Int} (h : valid L = true) : mono L := mono_of fun i hi => by
  have := (preS_of_valid h (i + 1) hi hi).2.2 (by omega)
  simpa using this
theorem crn_len_nz {L : List Int} (h : valid L = true) : (crn L).length = nz L (L.headD 0).toNat := crn_nz L (mono_valid h) _ (valid_mem h)
theorem nz_fl (L : List Int) (n : Nat) : (fl (fun i => decide (0 < eqc ((i : Int) + 1) L)) n).length = nz L n := by
  induction n with
  | zero => rfl
  | succ n ih =>
    rw [fl_succ, List.length_append, ih]
    simp only [nz]
    split <;> split <;> simp_all
theorem crn_conj_nz {L : List Int} (h : valid L = true) : (crn (conj L)).length = nz L (L.headD 0).toNat := by
  unfold crn
  rw [crnTo_fl, conj_len, fl_congr _ (fun i => decide (0 < eqc ((i : Int) + 1) L)) _ (fun i hi => ?_), nz_fl]
  have hi1 : i < (conj L).length := by rw [conj_len]; exact hi
  unfold isC
  rw [getD_lt hi1, conj_get, eqc_cnt]
  by_cases h1 : i + 1 < (conj L).length
  · rw [decide_eq_false (by omega), Bool.false_or, getD_lt h1, conj_get]
    have e : (((i + 1 : Nat) : Int) + 1) = (i : Int) + 1 + 1 := by omega
    rw [e]
    apply decide_eq_decide.2
    omega
  · rw [decide_eq_true (by omega), Bool.true_or]
    have e : cnt ((i : Int) + 1 + 1) L = 0 := by
      apply cnt_none
      intro x hx
      have := valid_mem h x hx
      rw [conj_len] at h1
      omega
    have e1 : 0 < cnt ((i : Int) + 1) L := by
      cases L with
      | nil => simp at hi
      | cons x r =>
        have := (cnt_bd ((i : Int) + 1) r).1
        simp only [cnt]
        simp only [List.headD_cons] at hi
        rw [if_pos (by omega)]
        omega
    rw [e, eq_comm, decide_eq_true_eq]
    omega
theorem fl_asc (p : Nat → Bool) (n : Nat) : ∀ i (h : i + 1 < (fl p n).length), (fl p n)[i] < (fl p n)[i + 1] := by
  have hp : (fl p n).Pairwise (· < ·) := by
    unfold fl
    rw [List.pairwise_map]
    exact (List.Pairwise.filter _ List.pairwise_lt_range).imp fun h => by simpa using h
  intro i h
  exact List.pairwise_iff_getElem.1 hp i (i + 1) (by omega) h (by omega)
theorem asc_of_eq {X Y : List Int} (e : X = Y) (h : ∀ i (hi : i + 1 < Y.length), Y[i] < Y[i + 1]) : ∀ i (hi : i + 1 < X.length), X[i] < X[i + 1] := by subst e; exact h
theorem get_of_eq {X Y : List Int} {f : Nat → Int} (e : X = Y) (h : ∀ k (hk : k < Y.length), Y[k] = f k) : ∀ k (hk : k < X.length), X[k] = f k := by subst e; exact h
end NP
end Go.Proofs.Ytbbbfaollcklkaa
namespace Go.Proofs.Ytbbbfaollcklkaa
namespace NP
set_option linter.unusedVariables false
theorem eqc_cons (k x : Int) (r : List Int) : eqc k (x :: r) = (if x = k then 1 else 0) + eqc k r := rfl
theorem eqc_mem {k : Int} {L : List Int} (h : 0 < eqc k L) : k ∈ L := by
  induction L with
  | nil => simp [eqc] at h
  | cons x r ih =>
    rw [eqc_cons] at h
    by_cases hx : x = k
    · subst hx; simp
    · rw [if_neg hx] at h
      exact List.mem_cons_of_mem _ (ih (by omega))
theorem eqc_pos {k : Int} {L : List Int} (h : k ∈ L) : 0 < eqc k L := by
  induction L with
  | nil => simp at h
  | cons x r ih =>
    rw [eqc_cons]
    have := (eqc_bd k r).1
    rcases List.mem_cons.1 h with rfl | h
    · rw [if_pos rfl]; omega
    · have := ih h
      split <;> omega
theorem mono_eq {A B : List Int} (hA : mono A) (hB : mono B) (h : ∀ k, eqc k A = eqc k B) : A = B := by
  induction A generalizing B with
  | nil =>
    cases B with
    | nil => rfl
    | cons y t =>
      have h1 := h y
      have h2 := eqc_pos (k := y) (L := y :: t) (by simp)
      rw [← h1] at h2
      simp [eqc] at h2
  | cons x r ih =>
    cases B with
    | nil =>
      have h1 := h x
      have h2 := eqc_pos (k := x) (L := x :: r) (by simp)
      rw [h1] at h2
      simp [eqc] at h2
    | cons y t =>
      have hxy : x = y := by
        have h1 := eqc_mem (k := x) (L := y :: t) (by rw [← h x]; exact eqc_pos (by simp))
        have h2 := eqc_mem (k := y) (L := x :: r) (by rw [h y]; exact eqc_pos (by simp))
        have h3 : x ≤ y := by
          rcases List.mem_cons.1 h1 with rfl | h1
          · exact Int.le_refl _
          · exact hB.1 x h1
        have h4 : y ≤ x := by
          rcases List.mem_cons.1 h2 with rfl | h2
          · exact Int.le_refl _
          · exact hA.1 y h2
        omega
      subst hxy
      rw [ih hA.2 hB.2 fun k => by have := h k; rw [eqc_cons, eqc_cons] at this; omega]
theorem mono_append {A B : List Int} (hA : mono A) (hB : mono B) (h : ∀ x ∈ A, ∀ y ∈ B, y ≤ x) : mono (A ++ B) := by
  induction A with
  | nil => exact hB
  | cons x r ih =>
    refine ⟨fun y hy => ?_, ih hA.2 fun z hz => h z (by simp [hz])⟩
    rcases List.mem_append.1 hy with hy | hy
    · exact hA.1 y hy
    · exact h x (by simp) y hy
theorem mono_one (x : Int) : mono [x] := ⟨fun y hy => by simp at hy, trivial⟩
theorem mono_replicate (n : Nat) (x : Int) : mono (List.replicate n x) := by
  induction n with
  | zero => trivial
  | succ n ih => exact ⟨fun y hy => by have := List.eq_of_mem_replicate hy; omega, ih⟩
theorem eqc_replicate (k : Int) (n : Nat) (x : Int) : eqc k (List.replicate n x) = if x = k then (n : Int) else 0 := by
  induction n with
  | zero => simp [eqc]
  | succ n ih =>
    rw [List.replicate_succ, eqc_cons, ih]
    split <;> omega
/-- the two-way merge of the program, n steps: what has been laid, how many of the first, of the second -/
def um (P Q : Nat → Int) : Nat → List Int × Nat × Nat
  | 0 => ([], 0, 0)
  | n + 1 =>
    let s := um P Q n
    if Q s.2.2 ≤ P s.2.1 then (s.1 ++ [P s.2.1], s.2.1 + 1, s.2.2) else (s.1 ++ [Q s.2.2], s.2.1, s.2.2 + 1)
theorem um_step_yes (P Q : Nat → Int) (n : Nat) (h : Q (um P Q n).2.2 ≤ P (um P Q n).2.1) : um P Q (n + 1) = ((um P Q n).1 ++ [P (um P Q n).2.1], (um P Q n).2.1 + 1, (um P Q n).2.2) := by
  simp only [um]; rw [if_pos h]
theorem um_step_no (P Q : Nat → Int) (n : Nat) (h : ¬ Q (um P Q n).2.2 ≤ P (um P Q n).2.1) : um P Q (n + 1) = ((um P Q n).1 ++ [Q (um P Q n).2.2], (um P Q n).2.1, (um P Q n).2.2 + 1) := by
  simp only [um]; rw [if_neg h]
theorem um_count (P Q : Nat → Int) (n : Nat) : (um P Q n).2.1 + (um P Q n).2.2 = n ∧ (um P Q n).1.length = n := by
  induction n with
  | zero => exact ⟨rfl, rfl⟩
  | succ n ih =>
    by_cases h : Q (um P Q n).2.2 ≤ P (um P Q n).2.1
    · rw [um_step_yes P Q n h]
      simp only [List.length_append, List.length_cons, List.length_nil]
      omega
    · rw [um_step_no P Q n h]
      simp only [List.length_append, List.length_cons, List.length_nil]
      omega
def pre (P : Nat → Int) (i : Nat) : List Int := (List.range i).map P
theorem pre_succ (P : Nat → Int) (i : Nat) : pre P (i + 1) = pre P i ++ [P i] := by unfold pre; rw [List.range_succ, List.map_append]; rfl
theorem um_inv (P Q : Nat → Int) (hP : ∀ i, P (i + 1) ≤ P i) (hQ : ∀ i, Q (i + 1) ≤ Q i) (n : Nat) :
    mono (um P Q n).1 ∧ (∀ y ∈ (um P Q n).1, P (um P Q n).2.1 ≤ y ∧ Q (um P Q n).2.2 ≤ y) ∧ ∀ v, eqc v (um P Q n).1 = eqc v (pre P (um P Q n).2.1) + eqc v (pre Q (um P Q n).2.2) := by
  induction n with
  | zero => exact ⟨trivial, fun y hy => by simp [um] at hy, fun v => rfl⟩
  | succ n ih =>
    obtain ⟨h1, h2, h3⟩ := ih
    by_cases h : Q (um P Q n).2.2 ≤ P (um P Q n).2.1
    · rw [um_step_yes P Q n h]
      refine ⟨mono_append h1 (mono_one _) fun x hx y hy => ?_, fun y hy => ?_, fun v => ?_⟩
      · rw [List.mem_singleton] at hy
        subst hy
        exact (h2 x hx).1
      · have hp := hP (um P Q n).2.1
        rcases List.mem_append.1 hy with hy | hy
        · have := h2 y hy
          exact ⟨Int.le_trans hp this.1, this.2⟩
        · rw [List.mem_singleton] at hy
          subst hy
          exact ⟨hp, h⟩
      · show eqc v _ = eqc v (pre P ((um P Q n).2.1 + 1)) + eqc v (pre Q (um P Q n).2.2)
        rw [pre_succ, eqc_append, eqc_append, h3]
        omega
    · rw [um_step_no P Q n h]
      refine ⟨mono_append h1 (mono_one _) fun x hx y hy => ?_, fun y hy => ?_, fun v => ?_⟩
      · rw [List.mem_singleton] at hy
        subst hy
        exact (h2 x hx).2
      · have hp := hQ (um P Q n).2.2
        rcases List.mem_append.1 hy with hy | hy
        · have := h2 y hy
          exact ⟨this.1, Int.le_trans hp this.2⟩
        · rw [List.mem_singleton] at hy
          subst hy
          exact ⟨Int.le_of_lt (Int.not_le.1 h), hp⟩
      · show eqc v _ = eqc v (pre P (um P Q n).2.1) + eqc v (pre Q ((um P Q n).2.2 + 1))
        rw [pre_succ, eqc_append, eqc_append, h3]
        omega
theorem pre_parts {L : List Int} (i : Nat) (h : L.length ≤ i) : pre (fun i => L.getD i 0) i = L ++ List.replicate (i - L.length) 0 := by
  apply List.ext_getElem
  · simp [pre]; omega
  · intro j h1 h2
    simp only [pre, List.getElem_map, List.getElem_range]
    rcases Nat.lt_or_ge j L.length with h3 | h3
    · rw [List.getElem_append_left h3, getD_lt h3]
    · rw [List.getElem_append_right h3, getD_ge h3]; simp
/-- all of both, the greatest first, behind them noughts -/
theorem um_end {P Q M : List Int} (h : two P Q = true) (hM : mono M) (hMe : ∀ k, eqc k M = eqc k P + eqc k Q) (hMl : M.length = P.length + Q.length) (hM1 : ∀ x ∈ M, 1 ≤ x) : (um (fun i => P.getD i 0) (fun i => Q.getD i 0) 16).1 = pad M := by
  obtain ⟨hp, hq, hs⟩ := two_out h
  have hbp := valid_bd hp
  have hbq := valid_bd hq
  have hfp : ∀ i, P.getD (i + 1) 0 ≤ P.getD i 0 := fun i => by have := getD_fall hp (i + 1) (by omega); simpa using this
  have hfq : ∀ i, Q.getD (i + 1) 0 ≤ Q.getD i 0 := fun i => by have := getD_fall hq (i + 1) (by omega); simpa using this
  obtain ⟨h1, h2, h3⟩ := um_inv (fun i => P.getD i 0) (fun i => Q.getD i 0) hfp hfq 16
  obtain ⟨h4, h5⟩ := um_count (fun i => P.getD i 0) (fun i => Q.getD i 0) 16
  generalize (um (fun i => P.getD i 0) (fun i => Q.getD i 0) 16).1 = U at *
  generalize (um (fun i => P.getD i 0) (fun i => Q.getD i 0) 16).2.1 = i at *
  generalize (um (fun i => P.getD i 0) (fun i => Q.getD i 0) 16).2.2 = k at *
  have noz : ∀ (hn : ∀ y ∈ U, 1 ≤ y), eqc 0 U = 0 := fun hn => by
    rcases Int.lt_or_le 0 (eqc 0 U) with h | h
    · have := hn 0 (eqc_mem h); omega
    · have := (eqc_bd 0 U).1; omega
  have zer : ∀ (L : List Int) (n : Nat), eqc 0 (pre (fun i => L.getD i 0) n) = 0 → n ≤ L.length := fun L n hz => by
    rcases Nat.lt_or_ge L.length n with h | h
    · rw [pre_parts n (by omega), eqc_append, eqc_replicate, if_pos rfl] at hz
      have := (eqc_bd 0 L).1
      omega
    · exact h
  have hi : P.length ≤ i := by
    rcases Nat.lt_or_ge i P.length with h | h
    · have hz := noz fun y hy => by have := (h2 y hy).1; have := getD_pos hp h; omega
      have h0 := h3 0
      rw [hz] at h0
      have a := (eqc_bd 0 (pre (fun i => P.getD i 0) i)).1
      have b := (eqc_bd 0 (pre (fun i => Q.getD i 0) k)).1
      have := zer Q k (by omega)
      omega
    · exact h
  have hk : Q.length ≤ k := by
    rcases Nat.lt_or_ge k Q.length with h | h
    · have hz := noz fun y hy => by have := (h2 y hy).2; have := getD_pos hq h; omega
      have h0 := h3 0
      rw [hz] at h0
      have a := (eqc_bd 0 (pre (fun i => P.getD i 0) i)).1
      have b := (eqc_bd 0 (pre (fun i => Q.getD i 0) k)).1
      have := zer P i (by omega)
      omega
    · exact h
  apply mono_eq h1
  · unfold pad
    refine mono_append hM (mono_replicate _ _) fun x hx y hy => ?_
    have := List.eq_of_mem_replicate hy
    have := hM1 x hx
    omega
  · intro v
    rw [h3, pre_parts i hi, pre_parts k hk]
    unfold pad
    rw [eqc_append, eqc_append, eqc_append, eqc_replicate, eqc_replicate, eqc_replicate, hMe]
    split <;> omega
end NP
end Go.Proofs.Ytbbbfaollcklkaa
namespace Go.Proofs.Ytbbbfaollcklkaa
open Go.RowKit NP
set_option maxRecDepth 8000
set_option linter.unusedVariables false

/-- what the sums on the way stay within -/
def sumFits (L : List Int) : Prop := ∀ k, k ≤ L.length → -4611686018427387904 ≤ sumL (L.take k) ∧ sumL (L.take k) ≤ 4611686018427387904
theorem sumFits.next {L : List Int} (h : sumFits L) {k : Nat} (hk : k < L.length) : -4611686018427387904 ≤ sumL (L.take k) + L[k] ∧ sumL (L.take k) + L[k] ≤ 4611686018427387904 := by
  have := h (k + 1) (by omega)
  rw [sumL_take_succ L k hk] at this
  exact this

theorem sum_any (a : Option Addr) (c B : Nat) (L : List Int) (w : World) (h : Rd w B a (ints L)) (hs : sumFits L) (hl : L.length ≤ 4611686018427387904) :
    Calls Try.prog 55 #[.slice a L.length c] w fun e w' => e = .returned (.int .i64 (sumL L)) ∧ w = w' := by
  go_enter Try.func55, Try.ntmps55
  go_wp2
  go_loop [3, 4] (fun s i => ∃ k : Nat, k ≤ L.length ∧ i = .int .i64 k ∧ s = .int .i64 (sumL (L.take k))) (fun _ i => L.length - (intOf i).toNat)
  case atStart => exact ⟨0, Nat.zero_le _, rfl, rfl⟩
  case round =>
    obtain ⟨k, hk, rfl, rfl⟩ := hrel
    by_cases hlt : k < L.length
    · obtain ⟨b, o, rfl, _, hc⟩ := h.at_ hlt
      have h1 := hs k hk
      have h2 := hs.next hlt
      have h3 := sumL_take_succ L k hlt
      have H3 := Lib.hid h3
      clear h3
      go_wp2
      go_round
      case rel => exact ⟨k + 1, by omega, by go_num, by rw [H3.out]⟩
      case measure => simp [intOf]; omega
    · go_wp2
      go_ret
      exact ⟨ret_i64 (by rw [List.take_of_length_le (by omega)]), rfl⟩

theorem inRange_yes (n lo hi : Int) (w : World) (h1 : lo ≤ n) (h2 : n ≤ hi) : Calls Try.prog 80 #[.int .i64 n, .int .i64 lo, .int .i64 hi] w fun e w' => e = .returned (.bool true) ∧ w' = w := by
  go_enter Try.func80, Try.ntmps80
  go_wp2
  go_ret
  exact ⟨rfl, rfl⟩
theorem inRange_no (n lo hi : Int) (w : World) (h : n < lo ∨ hi < n) : Calls Try.prog 80 #[.int .i64 n, .int .i64 lo, .int .i64 hi] w fun e w' => e = .returned (.bool false) ∧ w' = w := by
  by_cases h1 : lo ≤ n
  · have h2 : hi < n := by omega
    clear h
    go_enter Try.func80, Try.ntmps80
    go_wp2
    go_ret
    exact ⟨ret_bool (by simp; omega), rfl⟩
  · clear h
    go_enter Try.func80, Try.ntmps80
    go_wp2
    go_ret
    exact ⟨rfl, rfl⟩

theorem validParts_any (a : Option Addr) (c B : Nat) (L : List Int) (w : World) (h : Rd w B a (ints L)) (hl : L.length ≤ 4611686018427387904) :
    Calls Try.prog 53 #[.slice a L.length c] w fun e w' => e = .returned (.bool (valid L)) ∧ ∃ n, w' = w.drewN n := by
  go_enter Try.func53, Try.ntmps53
  go_wp2
  go_loopw [3] (fun i wr => ∃ k : Nat, k ≤ L.length ∧ i = .int .i64 k ∧ Dr w wr ∧ preS L k) (fun i _ => L.length - (intOf i).toNat)
  case atStart => exact ⟨0, Nat.zero_le _, rfl, Dr.refl _, fun j _ h => by omega⟩
  case round =>
    obtain ⟨k, hk, rfl, hdr, hpre⟩ := hrel
    by_cases hlt : k < L.length
    · have hR := h.dr hdr
      obtain ⟨b, o, rfl, hB, hc⟩ := hR.at_ hlt
      have HP := Lib.hid hpre
      have HN := Lib.hid (not_valid_at hlt)
      have HS := Lib.hid (preS_succ hlt hpre)
      clear hpre
      by_cases h12 : 1 ≤ L[k] ∧ L[k] ≤ 16
      · obtain ⟨h1, h2⟩ := h12
        by_cases h0 : k = 0
        · subst h0
          have hc' : wr.cell? ⟨b, o, none⟩ = some (.int .i64 L[0]) := hc
          go_wp2_with fail
          go_quiet ((go_at_call 80; exact Calls.quiet_of_same (inRange_yes _ _ _ _ h1 h2)))
          go_wp2
          go_roundw
          case rel => exact ⟨0 + 1, by omega, by go_num, hdr.drewN _, HS.out h1 h2 (by omega)⟩
          case measure => simp [intOf]; omega
        · have hk1 : k - 1 < L.length := by omega
          obtain ⟨b', o', e', -, hc2⟩ := hR.at_ hk1
          injection e' with e'; injection e' with e1 e2; subst e1 e2
          have h4 : (0 : Int) < k := by omega
          have h5 : 0 < k := by omega
          have h7 : 1 ≤ k := by omega
          by_cases h3 : L[k] ≤ L[k - 1]
          · go_wp2_with fail
            go_quiet ((go_at_call 80; exact Calls.quiet_of_same (inRange_yes _ _ _ _ h1 h2)))
            go_wp2
            go_roundw
            case rel => exact ⟨k + 1, by omega, by go_num, hdr.drewN _, HS.out h1 h2 (fun _ => h3)⟩
            case measure => simp [intOf]; omega
          · have hv : valid L = false := HN.out (fun hh => h3 (hh.2.2 h5))
            have HV := Lib.hid hv
            clear hv
            have h3' : L[k - 1] < L[k] := by omega
            go_wp2_with fail
            go_quiet ((go_at_call 80; exact Calls.quiet_of_same (inRange_yes _ _ _ _ h1 h2)))
            go_wp2
            go_ret
            exact ⟨ret_bool HV.out.symm, hdr.drewN _⟩
      · have hv : valid L = false := HN.out (fun hh => h12 ⟨hh.1, hh.2.1⟩)
        have HV := Lib.hid hv
        clear hv
        have h12' : L[k] < 1 ∨ 16 < L[k] := by omega
        clear h12
        have H12 := Lib.hid h12'
        clear h12'
        go_wp2_with fail
        go_quiet ((go_at_call 80; exact Calls.quiet_of_same (inRange_no _ _ _ _ H12.out)))
        go_wp2
        go_ret
        exact ⟨ret_bool HV.out.symm, hdr.drewN _⟩
    · obtain rfl : k = L.length := by omega
      by_cases hlen : L.length ≤ 16
      · have hfit : sumFits L := fun j hj => by have := preS_sum hpre j hj; omega
        have HV := Lib.hid (fun hs => valid_of_preS hpre hs)
        have HV2 := Lib.hid (fun hv : valid L = true => (valid_bd hv).2.1)
        by_cases hs : sumL L ≤ 16
        · go_wp2_with (go_at_call 55; refine (sum_any _ _ B L _ (h.dr hdr) hfit (by omega)).mono ?_; rintro e w' ⟨rfl, rfl⟩)
          go_ret
          exact ⟨ret_bool (HV.out hs).symm, hdr⟩
        · go_wp2_with (go_at_call 55; refine (sum_any _ _ B L _ (h.dr hdr) hfit (by omega)).mono ?_; rintro e w' ⟨rfl, rfl⟩)
          go_ret
          exact ⟨ret_bool (by cases hv : valid L with | false => (simp; omega) | true => exact absurd (HV2.out hv) (by omega)), hdr⟩
      · have HV2 := Lib.hid (fun hv : valid L = true => (valid_bd hv).2.2.2)
        go_wp2_with fail
        go_ret
        exact ⟨ret_bool (by cases hv : valid L with | false => simp | true => exact absurd (HV2.out hv) (by omega)), hdr⟩
end Go.Proofs.Ytbbbfaollcklkaa
namespace Go.Proofs.Ytbbbfaollcklkaa
open Go.RowKit NP
set_option maxRecDepth 8000
set_option linter.unusedVariables false
theorem T_info35 : (Try.prog.info? 50).map (·.size) = some 16 := by kernel_rfl

theorem diagramOf_any (a : Option Addr) (c B : Nat) (L : List Int) (w : World) (h : Rd w B a (ints L)) (hB : B ≤ w.heap.size) (hl : L.length ≤ 4611686018427387904) :
    Calls Try.prog 52 #[.slice a L.length c] w fun e w' => e = .returned (.tuple #[.agg (arr (dg L)), .bool (valid L)]) ∧ Below w.heap.size w w' := by
  go_enter Try.func52, Try.ntmps52
  go_wp2
  go_loopw [5, 10] (fun l i wr => ∃ k : Nat, k ≤ L.length ∧ i = .int .i64 k ∧ l = .int .i64 (16 - sumL (L.take k)) ∧ valid (L.take k) = true ∧ Below w.heap.size w wr ∧
    Blk wr w.heap.size 50 (arr (List.replicate 16 0)) ∧ Blk wr (w.heap.size + 1) 50 (arr (pad (L.take k)))) (fun _ i _ => L.length - (intOf i).toNat)
  case atStart =>
    refine ⟨0, Nat.zero_le _, rfl, rfl, rfl, ?_, ?_, ?_⟩
    · exact ((Below.refl _ _).alloc (Nat.le_refl _) _).alloc (by simp) _
    · exact (Blk.new w _ _).alloc _
    · have e := Blk.new (w.alloc (.cells (arr (List.replicate 16 0)) 50)) 50 (arr (pad (L.take 0)))
      rw [World.size_alloc] at e
      exact e
  case round =>
    obtain ⟨k, hk, rfl, rfl, hv, hbel, hb2, hb4⟩ := hrel
    have hbd := valid_bd hv
    by_cases hlt : k < L.length
    · have hR := (h.more hB).below hbel
      obtain ⟨b, o, rfl, hbB, hc⟩ := hR.at_ hlt
      have HN := Lib.hid (valid_stop hlt hv)
      have HY := Lib.hid (valid_next hlt hv)
      have HV := Lib.hid hv
      clear hv
      by_cases hok : 1 ≤ L[k] ∧ L[k] ≤ 16 - sumL (L.take k) ∧ (0 < k → L[k] ≤ L[k - 1]'(by omega))
      · have hvt := Lib.hid (HY.out hok.1 hok.2.1 hok.2.2)
        obtain ⟨h1, h2, h3⟩ := hok
        clear HN HY
        have hk16 : k < 16 := by
          have := (valid_bd hvt.out).2.2.2
          rw [List.length_take_of_le (by omega)] at this
          omega
        have hst := sumL_take_succ L k hlt
        have HST := Lib.hid hst
        clear hst
        have hcz : wr.cell? ⟨w.heap.size + 1, k, none⟩ = some ((arr (pad (L.take k)))[k]?.getD undef) := by
          rw [hb4.cell k]
          have : k < (arr (pad (L.take k))).size := by rw [arr_size, pad_len (by simp; omega)]; omega
          simp [this]
        have hfz : wr.frozen? ⟨w.heap.size + 1, k, none⟩ = false := hb4.free k
        have hpad : (arr (pad (L.take k))).setIfInBounds k (.int .i64 L[k]) = arr (pad (L.take (k + 1))) := by
          rw [arr_set, pad_set hlt hk16]
        have HPAD := Lib.hid hpad
        clear hpad
        have d1 : decide (L[k] < 1) = false := by simp; omega
        have d2 : decide (16 - sumL (L.take k) < L[k]) = false := by simp; omega
        by_cases h0 : k = 0
        · subst h0
          have hc' : wr.cell? ⟨b, o, none⟩ = some (.int .i64 L[0]) := hc
          clear h3
          have hz : sumL ([] : List Int) = 0 := rfl
          go_wp2_with fail
          go_roundw
          case rel =>
            refine ⟨0 + 1, by omega, by go_num, congrArg (Value.int .i64) (by rw [HST.out]; simp [sumL]), hvt.out, hbel.setCell (by simp) _, hb2.off (by simp) _, ?_⟩
            have e := hb4.set 0 (.int .i64 L[0])
            rw [HPAD.out] at e
            exact e
          case measure => simp [intOf]; omega
        · have hk1 : k - 1 < L.length := by omega
          obtain ⟨b', o', e', -, hc2⟩ := hR.at_ hk1
          injection e' with e'; injection e' with e1 e2; subst e1 e2
          have h4 : (0 : Int) < k := by omega
          have h7 : 1 ≤ k := by omega
          have h5 : 0 < k := by omega
          have h3' := h3 h5
          clear h3
          have d3 : decide (L[k - 1]'(by omega) < L[k]) = false := by simp; omega
          go_wp2_with fail
          go_roundw
          case rel =>
            refine ⟨k + 1, by omega, by go_num, by rw [HST.out]; go_num, hvt.out, hbel.setCell (by simp) _, hb2.off (by simp) _, ?_⟩
            have e := hb4.set k (.int .i64 L[k])
            rw [HPAD.out] at e
            exact e
          case measure => simp [intOf]; omega
      · have hvf := Lib.hid (HN.out hok)
        have hok' := Lib.hid hok
        clear HN HY hok
        by_cases h1 : 1 ≤ L[k]
        · by_cases h2 : L[k] ≤ 16 - sumL (L.take k)
          · have h0 : 0 < k := by
              rcases Nat.eq_zero_or_pos k with h0 | h0
              · exact absurd ⟨h1, h2, fun h => by omega⟩ hok'.out
              · exact h0
            have h3 : L[k - 1]'(by omega) < L[k] := by
              rcases Int.lt_or_le (L[k - 1]'(by omega)) L[k] with h3 | h3
              · exact h3
              · exact absurd ⟨h1, h2, fun _ => h3⟩ hok'.out
            have hk1 : k - 1 < L.length := by omega
            obtain ⟨b', o', e', -, hc2⟩ := hR.at_ hk1
            injection e' with e'; injection e' with e1 e2; subst e1 e2
            have h4 : (0 : Int) < k := by omega
            have h7 : 1 ≤ k := by omega
            have d1 : decide (L[k] < 1) = false := by simp; omega
            have d2 : decide (16 - sumL (L.take k) < L[k]) = false := by simp; omega
            have d3 : decide (L[k - 1]'(by omega) < L[k]) = true := by simp; omega
            go_wp2_with (refine wpList_store_row rfl 50 (.tmp 2) (.tmp 35) rfl w.heap.size rfl (arr (List.replicate 16 0)) rfl 50 _ hb2 T_info35 rfl (arr_one _) ?_)
            refine bodyPost_ret (results_cell_tmp rfl _ _ w.heap.size 50 (arr (List.replicate 16 0)) (0, 0) _ rfl hb2.row Try.underlying50 rfl T_info35) rfl ?_
            rw [hvf.out, dg_no hvf.out]
            exact ⟨rfl, below_setRow' hbel (Nat.le_refl _) _⟩
          · have h2' : 16 - sumL (L.take k) < L[k] := by omega
            clear h2
            have d1 : decide (L[k] < 1) = false := by simp; omega
            have d2 : decide (16 - sumL (L.take k) < L[k]) = true := by simp; omega
            go_wp2_with (refine wpList_store_row rfl 50 (.tmp 2) (.tmp 35) rfl w.heap.size rfl (arr (List.replicate 16 0)) rfl 50 _ hb2 T_info35 rfl (arr_one _) ?_)
            refine bodyPost_ret (results_cell_tmp rfl _ _ w.heap.size 50 (arr (List.replicate 16 0)) (0, 0) _ rfl hb2.row Try.underlying50 rfl T_info35) rfl ?_
            rw [hvf.out, dg_no hvf.out]
            exact ⟨rfl, below_setRow' hbel (Nat.le_refl _) _⟩
        · have h1' : L[k] < 1 := by omega
          clear h1
          go_wp2_with (refine wpList_store_row rfl 50 (.tmp 2) (.tmp 35) rfl w.heap.size rfl (arr (List.replicate 16 0)) rfl 50 _ hb2 T_info35 rfl (arr_one _) ?_)
          refine bodyPost_ret (results_cell_tmp rfl _ _ w.heap.size 50 (arr (List.replicate 16 0)) (0, 0) _ rfl hb2.row Try.underlying50 rfl T_info35) rfl ?_
          rw [hvf.out, dg_no hvf.out]
          exact ⟨rfl, below_setRow' hbel (Nat.le_refl _) _⟩
    · obtain rfl : k = L.length := by omega
      have ht : L.take L.length = L := List.take_of_length_le (Nat.le_refl _)
      rw [ht] at hv hb4
      have hvf := Lib.hid hv
      clear hv
      have hi16 : (Try.prog.info? 50).map (·.size) = some (arr (pad L)).size := by rw [arr_size, pad_len (valid_bd hvf.out).2.2.2]; exact T_info35
      have hsz : (arr (pad L)).size = (arr (List.replicate 16 0)).size := by rw [arr_size, arr_size, pad_len (valid_bd hvf.out).2.2.2]; rfl
      go_wp2_with (first | (refine wpList_load_row rfl 50 (.tmp 4) rfl (w.heap.size + 1) rfl 50 (arr (pad L)) (0, 0) _ hb4 Try.underlying50 rfl hi16 ?_) | (refine wpList_store_row rfl 50 (.tmp 2) (.tmp 43) rfl w.heap.size rfl (arr (pad L)) rfl 50 _ hb2 hi16 hsz (arr_one _) ?_))
      refine bodyPost_ret (results_cell_tmp rfl _ _ w.heap.size 50 (arr (pad L)) (0, 0) _ rfl hb2.row Try.underlying50 rfl hi16) rfl ?_
      rw [hvf.out, dg_yes hvf.out]
      exact ⟨rfl, below_setRow' hbel (Nat.le_refl _) _⟩
end Go.Proofs.Ytbbbfaollcklkaa
namespace Go.Proofs.Ytbbbfaollcklkaa
open Go.RowKit NP
set_option maxRecDepth 8000
set_option linter.unusedVariables false
theorem T_int : (Try.prog.info? 3).map (fun i => (i.zero, i.size, i.bytes)) = some (some (.int .i64 0), 1, 8) := by kernel_rfl
theorem eqIntS_any (a b : Option Addr) (ca cb Ba Bb : Nat) (L M : List Int) (w : World) (h : Rd w Ba a (ints L)) (hm : Rd w Bb b (ints M)) (hl : L.length ≤ 4611686018427387904) (hl2 : M.length ≤ 4611686018427387904) :
    Calls Try.prog 21 #[.slice a L.length ca, .slice b M.length cb] w fun e w' => e = .returned (.bool (decide (L = M))) ∧ ∃ n, w' = w.drewN n := by
  by_cases hlen : L.length = M.length
  · have hne : ((L.length : Int) != (M.length : Int)) = false := by simp [hlen]
    have HL := Lib.hid hlen
    clear hlen
    go_enter Try.func21, Try.ntmps21
    go_wp2
    go_loopw [5] (fun i wr => ∃ k : Nat, k ≤ L.length ∧ i = .int .i64 k ∧ Dr w wr ∧ Hid (L.take k = M.take k)) (fun i _ => L.length - (intOf i).toNat)
    case atStart => exact ⟨0, Nat.zero_le _, rfl, Dr.refl _, Lib.hid rfl⟩
    case round =>
      obtain ⟨k, hk, rfl, hdr, HT⟩ := hrel
      by_cases hlt : k < L.length
      · have hlt2 : k < M.length := by have := HL.out; omega
        obtain ⟨b1, o1, rfl, -, hc1⟩ := (h.dr hdr).at_ hlt
        obtain ⟨b2, o2, rfl, -, hc2⟩ := (hm.dr hdr).at_ hlt2
        by_cases hx : L[k] = M[k]
        · have hx' : (L[k] != M[k]) = false := by simp [hx]
          have HX := Lib.hid hx
          clear hx
          go_wp2_with fail
          go_quiet (fail)
          go_wp2
          go_roundw
          case rel => exact ⟨k + 1, by omega, by go_num, hdr.drewN _, Lib.hid (by rw [List.take_succ_eq_append_getElem hlt, List.take_succ_eq_append_getElem hlt2, HT.out, HX.out])⟩
          case measure => simp [intOf]; omega
        · have hx' : (L[k] != M[k]) = true := by simp [hx]
          have HX := Lib.hid hx
          clear hx
          go_wp2_with fail
          go_quiet (fail)
          go_wp2
          go_ret
          exact ⟨ret_bool (by simp; intro e; apply HX.out; simp only [e]), hdr.drewN _⟩
      · obtain rfl : k = L.length := by omega
        go_wp2
        go_ret
        exact ⟨ret_bool (by simp; have := HT.out; rw [List.take_of_length_le (Nat.le_refl _), List.take_of_length_le (by have := HL.out; omega)] at this; exact this), hdr⟩
  · have hne : ((L.length : Int) != (M.length : Int)) = true := by simp; omega
    have HL := Lib.hid hlen
    clear hlen
    go_enter Try.func21, Try.ntmps21
    go_wp2
    go_ret
    exact ⟨ret_bool (by simp; intro e; exact HL.out (by rw [e])), Dr.refl _⟩
theorem equalInts_any (a b : Option Addr) (ca cb Ba Bb : Nat) (L M : List Int) (w : World) (h : Rd w Ba a (ints L)) (hm : Rd w Bb b (ints M)) (hl : L.length ≤ 4611686018427387904) (hl2 : M.length ≤ 4611686018427387904) :
    Calls Try.prog 26 #[.slice a L.length ca, .slice b M.length cb] w fun e w' => e = .returned (.bool (decide (L = M))) ∧ ∃ n, w' = w.drewN n := by
  by_cases hlen : L.length = M.length
  · have hne : ((L.length : Int) != (M.length : Int)) = false := by simp [hlen]
    have HL := Lib.hid hlen
    clear hlen
    go_enter Try.func26, Try.ntmps26
    go_wp2
    go_loopw [5] (fun i wr => ∃ k : Nat, k ≤ L.length ∧ i = .int .i64 k ∧ Dr w wr ∧ Hid (L.take k = M.take k)) (fun i _ => L.length - (intOf i).toNat)
    case atStart => exact ⟨0, Nat.zero_le _, rfl, Dr.refl _, Lib.hid rfl⟩
    case round =>
      obtain ⟨k, hk, rfl, hdr, HT⟩ := hrel
      by_cases hlt : k < L.length
      · have hlt2 : k < M.length := by have := HL.out; omega
        obtain ⟨b1, o1, rfl, -, hc1⟩ := (h.dr hdr).at_ hlt
        obtain ⟨b2, o2, rfl, -, hc2⟩ := (hm.dr hdr).at_ hlt2
        by_cases hx : L[k] = M[k]
        · have hx' : (L[k] != M[k]) = false := by simp [hx]
          have HX := Lib.hid hx
          clear hx
          go_wp2_with fail
          go_quiet (fail)
          go_wp2
          go_roundw
          case rel => exact ⟨k + 1, by omega, by go_num, hdr.drewN _, Lib.hid (by rw [List.take_succ_eq_append_getElem hlt, List.take_succ_eq_append_getElem hlt2, HT.out, HX.out])⟩
          case measure => simp [intOf]; omega
        · have hx' : (L[k] != M[k]) = true := by simp [hx]
          have HX := Lib.hid hx
          clear hx
          go_wp2_with fail
          go_quiet (fail)
          go_wp2
          go_ret
          exact ⟨ret_bool (by simp; intro e; apply HX.out; simp only [e]), hdr.drewN _⟩
      · obtain rfl : k = L.length := by omega
        go_wp2
        go_ret
        exact ⟨ret_bool (by simp; have := HT.out; rw [List.take_of_length_le (Nat.le_refl _), List.take_of_length_le (by have := HL.out; omega)] at this; exact this), hdr⟩
  · have hne : ((L.length : Int) != (M.length : Int)) = true := by simp; omega
    have HL := Lib.hid hlen
    clear hlen
    go_enter Try.func26, Try.ntmps26
    go_wp2
    go_ret
    exact ⟨ret_bool (by simp; intro e; exact HL.out (by rw [e])), Dr.refl _⟩

theorem fill_set {L : List Int} {k : Nat} (hk : k < L.length) : (ints (L.take k) ++ List.replicate (L.length - k) (Value.int .i64 0)).set k (.int .i64 L[k]) = ints (L.take (k + 1)) ++ List.replicate (L.length - (k + 1)) (Value.int .i64 0) := by
  have e1 : (ints (L.take k)).length = k := by simp; omega
  rw [show L.length - k = (L.length - (k + 1)) + 1 by omega, List.replicate_succ, List.set_append_right _ _ (by omega), e1, Nat.sub_self, List.set_cons_zero, List.take_succ_eq_append_getElem hk]
  simp only [ints, List.map_append, List.map_cons, List.map_nil, List.append_assoc, List.cons_append, List.nil_append]

theorem T_int' : ∃ i, Try.prog.info? 3 = some i ∧ i.zero = some (.int .i64 0) ∧ i.size = 1 ∧ i.bytes = 8 := info_parts T_int

theorem toIntS_any (a : Option Addr) (c B : Nat) (L : List Int) (w : World) (h : Rd w B a (ints L)) (hB : B ≤ w.heap.size) (hl : L.length ≤ 1048576) :
    Calls Try.prog 30 #[.slice a L.length c] w fun e w' => ∃ a', e = .returned (.slice a' L.length L.length) ∧ Own w' w.heap.size w'.heap.size 3 (.slice a' L.length L.length) (ints L) ∧ Below w.heap.size w w' := by
  obtain ⟨i0, hi, hz0, hz1, hz2⟩ := T_int'
  go_enter Try.func30, Try.ntmps30
  go_wp2_with (refine wpList_make_full _ rfl _ _ 22 rfl w.heap.size 3 i0 (.int .i64 0) 1 Try.underlying22 hi hz0 hz1 .i64 .i64 _ _ L.length rfl rfl rfl rfl (by rw [hz2]; omega) (by unfold maxLen; omega) (by simp) ?_; intro w1 hown1 hg1; have hb1 : Below w.heap.size w w1 := (Below.refl _ _).grown hg1 (Nat.le_refl _) (by simp); have ho1 : Own w1 w.heap.size w1.heap.size 3 (.slice (some ⟨w.heap.size, 0, none⟩) L.length L.length) (List.replicate L.length (Value.int .i64 0)) := ⟨by simpa [toList_madeCells_one, Value.cells] using hown1, fun g hg => (hown1.lt g hg).2, Nat.le_refl _⟩; clear hown1 hg1)
  go_loopw [4] (fun i wr => ∃ k : Nat, k ≤ L.length ∧ i = .int .i64 k ∧ Below w.heap.size w wr ∧ Own wr w.heap.size wr.heap.size 3 (.slice (some ⟨w.heap.size, 0, none⟩) L.length L.length) (ints (L.take k) ++ List.replicate (L.length - k) (Value.int .i64 0))) (fun i _ => L.length - (intOf i).toNat)
  case atStart => exact ⟨0, Nat.zero_le _, rfl, hb1, by simpa using ho1⟩
  case round =>
    obtain ⟨k, hk, rfl, hbr, hor⟩ := hrel
    clear hb1 ho1
    by_cases hlt : k < L.length
    · obtain ⟨b1, o1, rfl, -, hc1⟩ := ((h.more hB).below hbr).at_ hlt
      obtain ⟨g, u, e, hlo, hhi, hc2, hf2⟩ := hor.spot (k := k) (by simp; omega)
      obtain rfl : w.heap.size = g := by injection e with e; injection e
      clear e
      have HF := Lib.hid (fill_set hlt)
      have HO := Lib.hid hor
      clear hor
      go_wp2
      go_roundw
      case rel =>
        refine ⟨k + 1, by omega, by go_num, hbr.setCell (by simp) _, ?_⟩
        have e := HO.out.set k (.int .i64 L[k])
        rw [HF.out] at e
        exact ⟨e.row, fun g hg => by simpa [World.setCell] using e.lt g hg, Nat.le_refl _⟩
      case measure => simp [intOf]; omega
    · obtain rfl : k = L.length := by omega
      go_wp2
      go_ret
      exact ⟨_, rfl, by simpa using hor, hbr⟩

/-- the marks from m on -/
def marks (m : Int) (n : Nat) : List Int := (List.range n).map fun (j : Nat) => m + (j : Int)
theorem marks_len (m : Int) (n : Nat) : (marks m n).length = n := by simp [marks]
theorem marks_get (m : Int) (n j : Nat) (h : j < (marks m n).length) : (marks m n)[j] = m + (j : Int) := by simp [marks]
theorem mark_set {L : List Int} {m : Int} {k : Nat} (hk : k < L.length) : (ints (marks m k ++ L.drop k)).set k (.int .i64 (m + (k : Int))) = ints (marks m (k + 1) ++ L.drop (k + 1)) := by
  have e1 : (marks m k).length = k := marks_len m k
  rw [List.drop_eq_getElem_cons hk, ints, List.map_append, List.map_cons, List.set_append_right _ _ (by simp [e1]), List.length_map, e1, Nat.sub_self, List.set_cons_zero]
  simp [ints, marks, List.range_succ]

theorem markIntS_any (a : Option Addr) (c lo hi : Nat) (m : Int) (L : List Int) (w : World) (h : Own w lo hi 3 (.slice a L.length c) (ints L)) (hm : 0 ≤ m) (hm2 : m ≤ 1099511627776) (hl : L.length ≤ 1099511627776) :
    Calls Try.prog 23 #[.slice a L.length c, .int .i64 m] w fun e w' => e = .returned (.int .i64 (m + (L.length : Int))) ∧ Own w' lo hi 3 (.slice a L.length c) (ints (marks m L.length)) ∧ w.grownBy w' (Value.slice a L.length c).ownBlock := by
  go_enter Try.func23, Try.ntmps23
  go_wp2
  go_loopw [1, 5] (fun kk i wr => ∃ k : Nat, k ≤ L.length ∧ i = .int .i64 k ∧ kk = .int .i64 (m + (k : Int)) ∧ w.grownBy wr (Value.slice a L.length c).ownBlock ∧ Own wr lo hi 3 (.slice a L.length c) (ints (marks m k ++ L.drop k))) (fun _ i _ => L.length - (intOf i).toNat)
  case atStart => exact ⟨0, Nat.zero_le _, rfl, by simp, World.grownBy.refl _ _, by simpa [marks] using h⟩
  case round =>
    obtain ⟨k, hk, rfl, rfl, hbr, hor⟩ := hrel
    clear h
    by_cases hlt : k < L.length
    · obtain ⟨g, u, rfl, hlo, hhi, hc2, hf2⟩ := hor.spot (k := k) (by simp [marks_len]; omega)
      have HF := Lib.hid (mark_set (m := m) hlt)
      have HO := Lib.hid hor
      have HR := Lib.hid hbr
      clear hor hbr
      go_wp2
      go_roundw
      case rel =>
        have e := HO.out.set k (.int .i64 (m + (k : Int)))
        have hbr := HR.out
        rw [HF.out] at e
        refine ⟨k + 1, by omega, by go_num, by go_num, ?_, e⟩
        exact ⟨hbr.os, hbr.tape, hbr.output, by simpa [World.setCell] using hbr.size, fun q hq hne => (Below.heap_setCell wr _ _ q (by rintro rfl; exact hne (by simp [Value.ownBlock]))).trans (hbr.block q hq hne)⟩
      case measure => simp [intOf]; omega
    · obtain rfl : k = L.length := by omega
      go_wp2
      go_ret
      exact ⟨rfl, by simpa using hor, hbr⟩

theorem heldIntS_any (a : Option Addr) (c B n : Nat) (m : Int) (w : World) (h : Rd w B a (ints (marks m n))) (hm : 0 ≤ m) (hm2 : m ≤ 1099511627776) (hl : n ≤ 1099511627776) :
    Calls Try.prog 24 #[.slice a n c, .int .i64 m] w fun e w' => e = .returned (.int .i64 (m + (n : Int))) ∧ w = w' := by
  have hn : (marks m n).length = n := marks_len m n
  have HN := Lib.hid hn
  clear hn
  go_enter Try.func24, Try.ntmps24
  go_wp2
  go_loop [1, 5] (fun kk i => ∃ k : Nat, k ≤ n ∧ i = .int .i64 k ∧ kk = .int .i64 (m + (k : Int))) (fun _ i => n - (intOf i).toNat)
  case atStart => exact ⟨0, Nat.zero_le _, rfl, by simp⟩
  case round =>
    obtain ⟨k, hk, rfl, rfl⟩ := hrel
    by_cases hlt : k < n
    · obtain ⟨b1, o1, rfl, -, hc1⟩ := h.at_ (k := k) (by rw [HN.out]; exact hlt)
      rw [marks_get] at hc1
      go_wp2
      go_round
      case rel => exact ⟨k + 1, by omega, by go_num, by go_num⟩
      case measure => simp [intOf]; omega
    · obtain rfl : k = n := by omega
      go_wp2
      go_ret
      exact ⟨rfl, rfl⟩

theorem eqIntS_same (a b : Option Addr) (ca cb Ba Bb : Nat) (L : List Int) (w : World) (h : Rd w Ba a (ints L)) (hm : Rd w Bb b (ints L)) (hl : L.length ≤ 4611686018427387904) :
    Calls Try.prog 21 #[.slice a L.length ca, .slice b L.length cb] w fun e w' => e = .returned (.bool true) ∧ Dr w w' :=
  (eqIntS_any a b ca cb Ba Bb L L w h hm hl hl).mono fun e w' ⟨h1, h2⟩ => ⟨by rw [h1]; simp, h2⟩
theorem equalInts_same (a b : Option Addr) (ca cb Ba Bb : Nat) (L : List Int) (w : World) (h : Rd w Ba a (ints L)) (hm : Rd w Bb b (ints L)) (hl : L.length ≤ 4611686018427387904) :
    Calls Try.prog 26 #[.slice a L.length ca, .slice b L.length cb] w fun e w' => e = .returned (.bool true) ∧ Dr w w' :=
  (equalInts_any a b ca cb Ba Bb L L w h hm hl hl).mono fun e w' ⟨h1, h2⟩ => ⟨by rw [h1]; simp, h2⟩

end Go.Proofs.Ytbbbfaollcklkaa
namespace Go.Proofs.Ytbbbfaollcklkaa
open Go.RowKit NP
set_option maxRecDepth 8000
set_option linter.unusedVariables false

def cntD (D : List Int) : Nat := ff (fun k => decide (0 < D.getD k 0)) 16
def durD (D : List Int) : Nat := ff (fun (k : Nat) => decide ((k : Int) < D.getD k 0)) 16
theorem box_cell (w : World) (D : List Int) (k : Nat) (hk : k < D.length) : (w.alloc (.cells (arr D) 50)).cell? ⟨w.heap.size, k, none⟩ = some (.int .i64 D[k]) := by
  rw [(Blk.new w _ _).cell k, arr_get D k hk]

theorem count_any (D : List Int) (hD : D.length = 16) (w : World) :
    Calls Try.prog 73 #[.agg (arr D)] w fun e w' => e = .returned (.int .i64 (cntD D)) ∧ Below w.heap.size w w' := by
  have HD := Lib.hid hD
  have hd16 : 16 ≤ D.length := by omega
  clear hD
  go_enter Try.func73, Try.ntmps73
  go_wp2
  go_loop [3] (fun i => ∃ k : Nat, k ≤ 16 ∧ i = .int .i64 k ∧ Hid (∀ j, j < k → (fun k => decide (0 < D.getD k 0)) j = true)) (fun i => 16 - (intOf i).toNat)
  case atStart => exact ⟨0, Nat.zero_le _, rfl, Lib.hid fun j hj => by omega⟩
  case round =>
    obtain ⟨k, hk, rfl, HP⟩ := hrel
    by_cases hlt : k < 16
    · have hkD : k < D.length := by omega
      have hc := box_cell w D k hkD
      by_cases hx : 0 < D[k]
      · go_wp2
        go_round
        case rel => exact ⟨k + 1, by omega, by go_num, Lib.hid fun j hj => by
          rcases Nat.lt_or_ge j k with h | h
          · exact HP.out j h
          · obtain rfl : j = k := by omega
            simp [List.getD, hkD]; omega⟩
        case measure => simp [intOf]; omega
      · have hx' : D[k] ≤ 0 := by omega
        clear hx
        go_wp2
        go_ret
        exact ⟨ret_i64 (by unfold cntD; rw [ff_eq HP.out hk (.inr (by simp [List.getD, hkD]; omega))]), (Below.refl _ _).alloc (Nat.le_refl _) _⟩
    · obtain rfl : k = 16 := by omega
      go_wp2
      go_ret
      exact ⟨ret_i64 (by unfold cntD; rw [ff_eq HP.out hk (.inl rfl)]; rfl), (Below.refl _ _).alloc (Nat.le_refl _) _⟩

theorem T_index (D : List Int) (k : Nat) (hk : k < D.length) (h16 : k < 16) (w : World) : (Instr.index 50 (.agg (arr D)) (.int .i64 k)).run Try.prog w = .ok (.int .i64 D[k]) w :=
  run_index_row 50 3 _ 16 Try.underlying50 Try.underlying3 rfl (by kernel_rfl) (arr D) k _ h16 (arr_get D k hk) .i64 w

theorem dsum_any (D : List Int) (hD : D.length = 16) (hs : sumFits D) (w : World) :
    Calls Try.prog 71 #[.agg (arr D)] w fun e w' => e = .returned (.int .i64 (sumL D)) ∧ Below w.heap.size w w' := by
  have HD := Lib.hid hD
  have hd16 : 16 ≤ D.length := by omega
  have hi16 : (Try.prog.info? 50).map (·.size) = some (arr D).size := by rw [arr_size, hD]; exact T_info35
  clear hD
  have hb := Blk.new w 50 (arr D)
  go_enter Try.func71, Try.ntmps71
  go_wp2_with (refine wpList_load_row rfl 50 (.tmp 1) rfl w.heap.size rfl 50 (arr D) (0, 0) _ hb Try.underlying50 rfl hi16 ?_)
  go_loop [3, 7] (fun s i => ∃ k : Nat, k ≤ 16 ∧ i = .int .i64 k ∧ s = .int .i64 (sumL (D.take k))) (fun _ i => 16 - (intOf i).toNat)
  case atStart => exact ⟨0, Nat.zero_le _, rfl, rfl⟩
  case round =>
    obtain ⟨k, hk, rfl, rfl⟩ := hrel
    by_cases hlt : k < 16
    · have hkD : k < D.length := by omega
      have hc := T_index D k hkD hlt
      have h1 := hs k (by omega)
      have h2 := hs.next hkD
      have H3 := Lib.hid (sumL_take_succ D k hkD)
      go_wp2
      go_round
      case rel => exact ⟨k + 1, by omega, by go_num, by rw [H3.out]⟩
      case measure => simp [intOf]; omega
    · obtain rfl : k = 16 := by omega
      go_wp2
      go_ret
      exact ⟨ret_i64 (by rw [List.take_of_length_le (by rw [HD.out]; omega)]), (Below.refl _ _).alloc (Nat.le_refl _) _⟩

theorem splice_all {α : Type} (Z X : List α) (h : Z.length = X.length) : splice Z 0 X = X := by simp [splice, ← h]
theorem pad_cells {w : World} {g : Nat} {t : TypeId} {M : List Int} (hlen : M.length ≤ 16) (hb : Blk w g t (arr (pad M))) : ∀ j v, (ints M)[j]? = some v → w.cell? ((⟨g, 0, none⟩ : Addr).add j) = some v := by
  intro j v hv
  rw [Addr.add_lit, Nat.zero_add, hb.cell j]
  have hj : j < M.length := by
    have := (List.getElem?_eq_some_iff.1 hv).1
    simpa using this
  rw [arr_get (pad M) j (by rw [pad_len hlen]; omega), pad_get hlen hj]
  simpa [hj] using hv

theorem list_any (M : List Int) (hM : valid M = true) (w : World) :
    Calls Try.prog 69 #[.agg (arr (pad M))] w fun e w' => ∃ a', e = .returned (.slice a' M.length M.length) ∧ Own w' w.heap.size w'.heap.size 3 (.slice a' M.length M.length) (ints M) ∧ Below w.heap.size w w' := by
  have hbd := valid_bd hM
  have hlen : M.length ≤ 16 := hbd.2.2.2
  have hff : cntD (pad M) = M.length := by
    unfold cntD
    refine ff_eq (fun j hj => ?_) hlen ?_
    · have h1 := preS_of_valid hM j hj hj
      rw [List.getD_eq_getElem?_getD, List.getElem?_eq_getElem (by rw [pad_len hlen]; omega), Option.getD_some, pad_get hlen hj]
      simp; omega
    · rcases Nat.lt_or_ge M.length 16 with h | h
      · right
        rw [List.getD_eq_getElem?_getD, List.getElem?_eq_getElem (by rw [pad_len hlen]; omega), Option.getD_some, pad_get0 hlen (Nat.le_refl _) h]
        simp
      · left; omega
  have HF := Lib.hid hff
  clear hff
  have hi16 : (Try.prog.info? 50).map (·.size) = some (arr (pad M)).size := by rw [arr_size, pad_len hlen]; exact T_info35
  obtain ⟨i0, hi, hz0, hz1, hz2⟩ := T_int'
  have hmk := run_make_ints 22 3 i0 Try.underlying22 hi hz0 hz1 hz2 M.length (by omega)
  have hb := Blk.new w 50 (arr (pad M))
  have HM := Lib.hid hM
  clear hM
  go_enter Try.func69, Try.ntmps69
  go_wp2_with (first
    | (refine wpList_load_row rfl 50 (.tmp 1) rfl w.heap.size rfl 50 (arr (pad M)) (0, 0) _ hb Try.underlying50 rfl hi16 ?_)
    | (go_at_call 73; refine (count_any (pad M) (pad_len hlen) _).mono ?_; rintro e w1 ⟨rfl, hb1⟩; rw [HF.out]; have hbk := hb.below hb1 (by simp))
    | ((with_reducible show wpList _ _ _ (Oper.mk _ (Op.call (Call.mk (Callee.builtin Builtin.copy) _ _)) _ _ _ _ :: _) _ _); go_loud (refine wpList_copy_splice rfl (.tmp 7) (.tmp 8) 22 22 rfl 3 Try.underlying22 (by rw [hi]; simp [hz1]) (some ⟨w1.heap.size, 0, none⟩) (some ⟨w.heap.size, 0, none⟩) M.length M.length 16 16 rfl rfl w1.heap.size 0 (ints (List.replicate M.length 0)) 3 (heap_alloc_new w1 _) (ints M) (by rw [show Nat.min 16 M.length = M.length from Nat.min_eq_right hlen]; simp) (fun _ => ⟨rfl, _, rfl, pad_cells hlen (hbk.alloc _)⟩) (by simp) (ints_one M) w.heap.size w ((((Below.refl _ _).alloc (Nat.le_refl _) _).trans (hb1.mono (by simp))).alloc (by have := hb1.size; simp at this; omega) _) (by have := hb1.size; simp at this; omega) ?_); intro w2 hg2 hb2))
  go_ret
  have hg3 : Blk w2 w1.heap.size 3 (ints M).toArray := by
    have := hg2.out
    rw [splice_all _ _ (by simp)] at this
    exact this
  have ho := hg3.own (lo := w.heap.size) (by have := hb1.size; simp at this; omega) (by simp [maxLen]; omega)
  simp only [ints, List.length_map] at ho
  exact ⟨_, rfl, ho, hb2⟩

/-- what has been counted when k rows are done, and j cells of the next -/
def acc (D : List Int) (k j : Nat) : List Int := (List.range 16).map fun (q : Nat) => cnt ((q : Int) + 1) (D.take k) + (if q < j then 1 else 0)
theorem acc_len (D : List Int) (k j : Nat) : (acc D k j).length = 16 := by simp [acc]
theorem acc_get (D : List Int) (k j : Nat) (h : j < 16) : (acc D k j)[j]'(by rw [acc_len]; exact h) = cnt ((j : Int) + 1) (D.take k) := by simp [acc]
theorem acc_set (D : List Int) (k j : Nat) (_h : j < 16) : (acc D k j).set j (cnt ((j : Int) + 1) (D.take k) + 1) = acc D k (j + 1) := by
  apply List.ext_getElem
  · simp [acc]
  · intro q h1 h2
    simp only [acc, List.length_set, List.length_map, List.length_range] at h1
    by_cases hq : j = q
    · subst hq
      simp [acc]
    · rw [List.getElem_set_ne hq]
      simp only [acc, List.getElem_map, List.getElem_range]
      by_cases h3 : q < j
      · rw [if_pos h3, if_pos (by omega)]
      · rw [if_neg h3, if_neg (by omega)]
theorem acc_next (D : List Int) (k : Nat) (hk : k < D.length) (h0 : 0 ≤ D[k]) (j : Nat) (hj : (j : Int) = D[k]) : acc D k j = acc D (k + 1) 0 := by
  apply List.map_congr_left
  intro q _
  rw [cnt_take_succ _ D k hk]
  by_cases h3 : q < j
  · rw [if_pos h3, if_pos (by omega)]; simp
  · rw [if_neg h3, if_neg (by omega)]; simp
theorem acc_zero (D : List Int) : acc D 0 0 = List.replicate 16 0 := by
  unfold acc
  simp [cnt]
  rfl
theorem acc_end (D : List Int) (hD : D.length = 16) : acc D 16 0 = (List.range 16).map fun (j : Nat) => cnt ((j : Int) + 1) D := by
  unfold acc
  rw [List.take_of_length_le (by omega)]
  simp

theorem conjugate_any (D : List Int) (hD : D.length = 16) (h0 : ∀ k (h : k < D.length), 0 ≤ D[k] ∧ D[k] ≤ 16) (w : World) :
    Calls Try.prog 83 #[.agg (arr D)] w fun e w' => e = .returned (.agg (arr (acc D 16 0))) ∧ Below w.heap.size w w' := by
  have HD := Lib.hid hD
  have hd16 : 16 ≤ D.length := by omega
  have hi16 : (Try.prog.info? 50).map (·.size) = some (arr D).size := by rw [arr_size, hD]; exact T_info35
  have H0 := Lib.hid h0
  clear hD h0
  have hb := Blk.new w 50 (arr D)
  have hb' := (hb.alloc (.cells (arr (List.replicate 16 0)) 50)).alloc (.cells (arr (List.replicate 16 0)) 50)
  go_enter Try.func83, Try.ntmps83
  go_wp2_with (refine wpList_load_row rfl 50 (.tmp 1) rfl w.heap.size rfl 50 (arr D) (0, 0) _ hb' Try.underlying50 rfl hi16 ?_)
  go_loopw [8] (fun i wr => ∃ k : Nat, k ≤ 16 ∧ i = .int .i64 k ∧ Below w.heap.size w wr ∧ Blk wr (w.heap.size + 1) 50 (arr (List.replicate 16 0)) ∧ Blk wr (w.heap.size + 2) 50 (arr (acc D k 0))) (fun i _ => 16 - (intOf i).toNat)
  case atStart =>
    refine ⟨0, Nat.zero_le _, rfl, ?_, ?_, ?_⟩
    · exact (((Below.refl _ _).alloc (Nat.le_refl _) _).alloc (by simp) _).alloc (by simp; omega) _
    · have e := (Blk.new (w.alloc (.cells (arr D) 50)) 50 (arr (List.replicate 16 0))).alloc (.cells (arr (List.replicate 16 0)) 50)
      rw [World.size_alloc] at e
      exact e
    · rw [acc_zero]
      have e := Blk.new ((w.alloc (.cells (arr D) 50)).alloc (.cells (arr (List.replicate 16 0)) 50)) 50 (arr (List.replicate 16 0))
      rw [World.size_alloc, World.size_alloc] at e
      exact e
  case round =>
    obtain ⟨k, hk, rfl, hbel, hb2, hb3⟩ := hrel
    obtain ⟨wo, rfl⟩ : ∃ wo : World, wo = wr := ⟨_, rfl⟩
    by_cases hlt : k < 16
    · have hkD : k < D.length := by omega
      have hc := T_index D k hkD hlt
      have h1 := H0.out k hkD
      go_wp2
      go_loopw [12] (fun i wr => ∃ j : Nat, (j : Int) ≤ D[k] ∧ i = .int .i64 j ∧ Below w.heap.size w wr ∧ Blk wr (w.heap.size + 1) 50 (arr (List.replicate 16 0)) ∧ Blk wr (w.heap.size + 2) 50 (arr (acc D k j))) (fun i _ => 16 - (intOf i).toNat)
      case atStart => exact ⟨0, h1.1, rfl, hbel, hb2, hb3⟩
      case round =>
        obtain ⟨j, hj, rfl, hbel', hb2', hb3'⟩ := hrel
        clear hbel hb2 hb3
        by_cases hltj : (j : Int) < D[k]
        · have hj16 : j < 16 := by omega
          have hcj : wr.cell? ⟨w.heap.size + 2, j, none⟩ = some (.int .i64 (cnt ((j : Int) + 1) (D.take k))) := by rw [hb3'.cell j, arr_get _ j (by rw [acc_len]; exact hj16), acc_get D k j hj16]
          have hfj : wr.frozen? ⟨w.heap.size + 2, j, none⟩ = false := hb3'.free j
          have hbd := cnt_bd ((j : Int) + 1) (D.take k)
          have hbl : (D.take k).length ≤ 16 := by simp; omega
          have HS := Lib.hid (acc_set D k j hj16)
          go_wp2
          go_roundw
          case rel =>
            refine ⟨j + 1, by omega, by go_num, hbel'.setCell (by show w.heap.size ≤ w.heap.size + 2; omega) _, hb2'.off (by show w.heap.size + 1 ≠ w.heap.size + 2; omega) _, ?_⟩
            have e := hb3'.set j (.int .i64 (cnt ((j : Int) + 1) (D.take k) + 1))
            rw [arr_set, HS.out] at e
            exact e
          case measure => simp [intOf]; omega
        · have hje : (j : Int) = D[k] := by omega
          have HE := Lib.hid (acc_next D k hkD h1.1 j hje)
          clear hje
          go_wp2
          go_roundw
          case rel => exact ⟨k + 1, by omega, by go_num, hbel', hb2', by rw [← HE.out]; exact hb3'⟩
          case measure => simp [intOf]; omega
    · obtain rfl : k = 16 := by omega
      have hi2 : (Try.prog.info? 50).map (·.size) = some (arr (acc D 16 0)).size := by rw [arr_size, acc_len]; exact T_info35
      have hsz : (arr (acc D 16 0)).size = (arr (List.replicate 16 0)).size := by rw [arr_size, arr_size, acc_len]; rfl
      go_wp2_with (first | (refine wpList_load_row rfl 50 (.tmp 3) rfl (w.heap.size + 2) rfl 50 (arr (acc D 16 0)) (0, 0) _ hb3 Try.underlying50 rfl hi2 ?_) | (refine wpList_store_row rfl 50 (.tmp 2) (.tmp 22) rfl (w.heap.size + 1) rfl (arr (acc D 16 0)) rfl 50 _ hb2 hi2 hsz (arr_one _) ?_))
      refine bodyPost_ret (results_cell_row rfl _ _ (w.heap.size + 1) 50 (arr (acc D 16 0)) (0, 0) _ rfl hb2.row Try.underlying50 rfl hi2) rfl ?_
      exact ⟨rfl, below_setRow' hbel (by omega) _⟩
end Go.Proofs.Ytbbbfaollcklkaa
namespace Go.Proofs.Ytbbbfaollcklkaa
open Go.RowKit NP
set_option maxRecDepth 8000
set_option linter.unusedVariables false

def sumF (L : List Int) : Int := if valid L then sumL L else -1
theorem sumF_yes {L : List Int} (h : valid L = true) : sumF L = sumL L := by simp [sumF, h]
theorem sumF_no {L : List Int} (h : valid L = false) : sumF L = -1 := by simp [sumF, h]
def durF (L : List Int) : Int := if valid L then durS L else -1
theorem durF_yes {L : List Int} (h : valid L = true) : durF L = durS L := by simp [durF, h]
theorem durF_no {L : List Int} (h : valid L = false) : durF L = -1 := by simp [durF, h]
def conjF (L : List Int) : List Int := if valid L then conj L else []
theorem conjF_yes {L : List Int} (h : valid L = true) : conjF L = conj L := by simp [conjF, h]
theorem conjF_no {L : List Int} (h : valid L = false) : conjF L = [] := by simp [conjF, h]
theorem conjF_len (L : List Int) : (conjF L).length ≤ 16 := by
  unfold conjF
  split
  · rename_i h
    rw [conj_len]
    have := headD_bd h
    omega
  · simp
theorem sumF_conjF {L : List Int} (h : valid L = true) : sumF (conjF L) = sumL L := by
  rw [conjF_yes h, sumF_yes (valid_conj h), sumL_conj h]
theorem valid_fits {L : List Int} (h : valid L = true) : sumFits L := fun k hk => by
  have := preS_sum (preS_of_valid h) k hk
  have := (valid_bd h).2.2.2
  omega
theorem sumL_zeros (n : Nat) : sumL (List.replicate n 0) = 0 := by
  induction n with
  | zero => rfl
  | succ n ih => rw [List.replicate_succ, sumL, ih]; rfl
theorem sumL_pad (L : List Int) : sumL (pad L) = sumL L := by unfold pad; rw [sumL_append, sumL_zeros]; omega
theorem pad_nonneg {L : List Int} (h : valid L = true) : ∀ k (hk : k < (pad L).length), 0 ≤ (pad L)[k] ∧ (pad L)[k] ≤ 16 := by
  intro k hk
  have hl := (valid_bd h).2.2.2
  rw [pad_len hl] at hk
  by_cases h1 : k < L.length
  · rw [pad_get hl h1]
    have := preS_of_valid h k h1 h1
    omega
  · rw [pad_get0 hl (by omega) hk]; omega
theorem pad_fits {L : List Int} (h : valid L = true) : sumFits (pad L) := by
  have hl := (valid_bd h).2.2.2
  have key : ∀ k, k ≤ (pad L).length → 0 ≤ sumL ((pad L).take k) ∧ sumL ((pad L).take k) ≤ 16 * k := by
    intro k
    induction k with
    | zero => intro _; simp [sumL]
    | succ k ih =>
      intro hk
      have := ih (by omega)
      have h1 := pad_nonneg h k (by omega)
      rw [sumL_take_succ _ k (by omega)]
      omega
  intro k hk
  have := key k hk
  rw [pad_len hl] at hk
  omega
theorem durD_pad {L : List Int} (h : valid L = true) : durD (pad L) = durS L := by
  have hl := (valid_bd h).2.2.2
  have hn : ∀ j, j ≤ L.length → (∀ i, i < j → decide ((i : Int) < L.getD i 0) = true) → (j = L.length ∨ decide ((j : Int) < L.getD j 0) = false) → durD (pad L) = j ∧ durS L = j := by
    intro j hj hp hq
    refine ⟨ff_eq (fun i hi => ?_) (by omega) ?_, ff_eq hp hj hq⟩
    · have := hp i hi
      rw [List.getD_eq_getElem?_getD, List.getElem?_eq_getElem (by omega), Option.getD_some] at this
      rw [List.getD_eq_getElem?_getD, List.getElem?_eq_getElem (by rw [pad_len hl]; omega), Option.getD_some, pad_get hl (by omega)]
      exact this
    · rcases Nat.lt_or_ge j 16 with h16 | h16
      · right
        rw [List.getD_eq_getElem?_getD, List.getElem?_eq_getElem (by rw [pad_len hl]; omega), Option.getD_some]
        rcases Nat.lt_or_ge j L.length with hjl | hjl
        · rw [pad_get hl hjl]
          rcases hq with hq | hq
          · omega
          · rw [List.getD_eq_getElem?_getD, List.getElem?_eq_getElem (by omega), Option.getD_some] at hq
            exact hq
        · rw [pad_get0 hl hjl h16]; simp
      · left; omega
  have ex : ∀ n, n ≤ L.length → (∀ i, i < n → decide ((i : Int) < L.getD i 0) = true) ∨ ∃ j, j < n ∧ (∀ i, i < j → decide ((i : Int) < L.getD i 0) = true) ∧ decide ((j : Int) < L.getD j 0) = false := by
    intro n
    induction n with
    | zero => intro _; left; intro i hi; omega
    | succ n ih =>
      intro hn
      rcases ih (by omega) with h1 | ⟨j, hj, h1, h2⟩
      · cases hd : decide ((n : Int) < L.getD n 0) with
        | true =>
          left
          intro i hi
          rcases Nat.lt_or_ge i n with h3 | h3
          · exact h1 i h3
          · obtain rfl : i = n := by omega
            exact hd
        | false => right; exact ⟨n, by omega, h1, hd⟩
      · right; exact ⟨j, by omega, h1, h2⟩
  rcases ex L.length (Nat.le_refl _) with h1 | ⟨j, hj, h1, h2⟩
  · have := hn L.length (Nat.le_refl _) h1 (.inl rfl)
    rw [this.1, this.2]
  · have := hn j (by omega) h1 (.inr h2)
    rw [this.1, this.2]





theorem dg_len (L : List Int) : (dg L).length = 16 := by
  unfold dg
  split
  · exact pad_len (valid_bd ‹_›).2.2.2
  · rfl



theorem iValidParts_any (a : Option Addr) (c B : Nat) (L : List Int) (w : World) (h : Rd w B a (ints L)) (hB : B ≤ w.heap.size) (hl : L.length ≤ 4611686018427387904) :
    Calls Try.prog 28 #[.slice a L.length c] w fun e w' => e = .returned (.bool (valid L)) ∧ Below w.heap.size w w' := by
  have hi16 : (Try.prog.info? 50).map (·.size) = some (arr (dg L)).size := by rw [arr_size, dg_len]; exact T_info35
  have hsz : (arr (dg L)).size = (arr (List.replicate 16 0)).size := by rw [arr_size, arr_size, dg_len]; rfl
  go_enter Try.func28, Try.ntmps28
  go_wp2_with (first | (go_at_call 52; refine (diagramOf_any _ _ B L _ h hB hl).mono ?_; rintro e w1 ⟨rfl, hb1⟩) | (refine wpList_store_row rfl 50 (.tmp 3) (.tmp 8) rfl w1.heap.size rfl (arr (dg L)) rfl 50 (arr (List.replicate 16 0)) (Blk.new w1 _ _) hi16 hsz (arr_one _) ?_))
  go_ret
  exact ⟨rfl, below_setRow' (hb1.alloc hb1.size _) (by exact hb1.size) _⟩


theorem sconjugate_any (a : Option Addr) (c B : Nat) (L : List Int) (w : World) (h : Rd w B a (ints L)) (hB : B ≤ w.heap.size) (hv : valid L = true) :
    Calls Try.prog 64 #[.slice a L.length c] w fun e w' => ∃ a' c', e = .returned (.slice a' (conj L).length c') ∧ Own w' w.heap.size w'.heap.size 3 (.slice a' (conj L).length c') (ints (conj L)) ∧ Below w.heap.size w w' := by
  have hbd := valid_bd hv
  have hhd := headD_bd hv
  obtain ⟨i0, hi, hz0, hz1, hz2⟩ := T_int'
  have HV := Lib.hid hv
  clear hv
  generalize hH : (L.headD 0).toNat = H
  have hHc : (H : Int) = L.headD 0 := by omega
  have hH16 : H ≤ 16 := by omega
  have HH := Lib.hid hH
  clear hH
  have H0 : Hid (∀ h0 : 0 < L.length, L[0] = (H : Int)) := Lib.hid fun h0 => by rw [hHc]; cases L <;> simp at h0 ⊢
  have H1 : Hid (¬ 0 < L.length → H = 0) := Lib.hid fun h0 => by cases L <;> simp at h0 hHc ⊢; omega
  clear hHc hhd
  have HE : Hid (conj L = (List.range H).map fun (j : Nat) => cnt ((j : Int) + 1) L) := Lib.hid (by unfold conj; rw [HH.out])
  go_enter Try.func64, Try.ntmps64
  go_wp2
  go_loopw [3, 4] (fun v i wr => ∃ k : Nat, k ≤ H ∧ i = .int .i64 ((k : Int) + 1) ∧ Below w.heap.size w wr ∧ Own wr w.heap.size wr.heap.size 3 v (ints ((List.range k).map fun (j : Nat) => cnt ((j : Int) + 1) L))) (fun _ i _ => 20 - (intOf i).toNat)
  case atStart => exact ⟨0, Nat.zero_le _, rfl, (Below.refl _ _).alloc (Nat.le_refl _) _, (Own.empty w 3).more⟩
  case round =>
    obtain ⟨k, hk, rfl, hbel, hown⟩ := hrel
    by_cases h0 : 0 < L.length
    · have hR := (h.more hB).below hbel
      obtain ⟨b, o, rfl, _, hc0⟩ := hR.at_ h0
      have hc0' : wr.cell? ⟨b, o, none⟩ = some (.int .i64 H) := by rw [← H0.out h0]; exact hc0
      have h0' : (0 : Int) < (L.length : Int) := by omega
      clear hc0
      by_cases hlt : k < H
      · have hlt' : (k : Int) + 1 ≤ (H : Int) := by omega
        have HO := Lib.hid hown
        clear hown
        go_wp2
        go_loop [5, 6] (fun n i => ∃ j : Nat, j ≤ L.length ∧ i = .int .i64 j ∧ n = .int .i64 (cnt ((k : Int) + 1) (L.take j))) (fun _ i => L.length - (intOf i).toNat)
        case atStart => exact ⟨0, Nat.zero_le _, rfl, rfl⟩
        case round =>
          obtain ⟨j, hj, rfl, rfl⟩ := hrel
          have hbj := cnt_bd ((k : Int) + 1) (L.take j)
          have hbl : (L.take j).length ≤ 16 := by simp; omega
          by_cases hltj : j < L.length
          · obtain ⟨b2, o2, e2, _, hcj⟩ := hR.at_ hltj
            injection e2 with e2; injection e2 with e2 e3; subst e2 e3
            have HS := Lib.hid (cnt_take_succ ((k : Int) + 1) L j hltj)
            by_cases hx : (k : Int) + 1 ≤ L[j]
            · go_wp2
              go_round
              case rel => exact ⟨j + 1, by omega, by go_num, by rw [HS.out, if_pos hx]⟩
              case measure => simp [intOf]; omega
            · have hx' : L[j] < (k : Int) + 1 := by omega
              go_wp2
              go_round
              case rel => exact ⟨j + 1, by omega, by go_num, by rw [HS.out, if_neg hx]; simp⟩
              case measure => simp [intOf]; omega
          · obtain rfl : j = L.length := by omega
            have ht : L.take L.length = L := List.take_of_length_le (Nat.le_refl _)
            rw [ht]
            have hlen2 : (ints ((List.range k).map fun (j : Nat) => cnt ((j : Int) + 1) L)).length = k := by simp
            obtain ⟨vs, hvs⟩ : ∃ vs, vs = ints ((List.range k).map fun (j : Nat) => cnt ((j : Int) + 1) L) := ⟨_, rfl⟩
            have hown := HO.out
            rw [← hvs] at hown hlen2
            have HVS := Lib.hid hvs
            clear hvs
            go_wp2_with (at_builtin; refine wpList_append_o _ rfl (.tmp 34) (.tmp 36) 22 rfl w.heap.size wr.heap.size 3 i0 (.int .i64 0) 8 Try.underlying22 hi hz0 hz1 hz2 rfl _ vs rfl (hown.alloc _) (wr.heap.size + 1) (some ⟨wr.heap.size, 0, none⟩) 1 1 [.int .i64 (cnt ((k : Int) + 1) L)] rfl (Rd.one wr _ _) rfl (by simp; rfl) (by rw [hlen2]; unfold maxLen; omega) (by rw [hlen2]; omega) (by have := hbel.size; simp; omega) ?_; intro v' w1 ho1 hg1 hat1)
            go_roundw
            case rel =>
              refine ⟨k + 1, by omega, by go_num, below_push hbel (Nat.le_refl _) hg1 hown.base, ?_⟩
              rw [HVS.out] at ho1
              simpa [ints, List.range_succ] using ho1
            case measure => simp [intOf]; omega
      · obtain rfl : k = H := by omega
        have HO := Lib.hid hown
        clear hown
        obtain ⟨a', c', rfl⟩ := HO.out.form
        have hlt' : (k : Int) < (k : Int) + 1 := by omega
        go_wp2
        go_ret
        have hl1 : (conj L).length = (ints ((List.range k).map fun (j : Nat) => cnt ((j : Int) + 1) L)).length := by rw [HE.out]; simp
        refine ⟨a', c', by rw [hl1]; rfl, ?_, hbel⟩
        rw [hl1, HE.out]
        exact HO.out
    · have hk0 := H1.out h0
      obtain rfl : k = H := by omega
      have h0' : decide (0 < L.length) = false := decide_eq_false h0
      have h0'' : (L.length : Int) ≤ 0 := by omega
      have HO := Lib.hid hown
      clear hown hk0
      obtain ⟨a', c', rfl⟩ := HO.out.form
      go_wp2
      go_ret
      have hl1 : (conj L).length = (ints ((List.range k).map fun (j : Nat) => cnt ((j : Int) + 1) L)).length := by rw [HE.out]; simp
      refine ⟨a', c', by rw [hl1]; rfl, ?_, hbel⟩
      rw [hl1, HE.out]
      exact HO.out


theorem iValidParts_n (a : Option Addr) (c B : Nat) (L : List Int) (w : World) (n : Nat) (hn : n = L.length) (h : Rd w B a (ints L)) (hB : B ≤ w.heap.size) (hl : L.length ≤ 4611686018427387904) :
    Calls Try.prog 28 #[.slice a n c] w fun e w' => e = .returned (.bool (valid L)) ∧ Below w.heap.size w w' := by
  subst hn
  exact iValidParts_any a c B L w h hB hl
end Go.Proofs.Ytbbbfaollcklkaa
