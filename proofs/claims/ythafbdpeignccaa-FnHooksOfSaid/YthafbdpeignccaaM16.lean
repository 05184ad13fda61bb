/-
  Plain mathematics of united parts: sorted lists with the same numbers are the same; two sorted lists merged.
-/
import Derived.Test.YthafbdpeignccaaM15
import Derived.Test.YthafbdpeignccaaM6
namespace Go.Proofs.Ythafbdpeignccaa
namespace NP
set_option linter.unusedVariables false
theorem eqc_cons (k x : Int) (r : List Int) : eqc k (x :: r) = (if x = k then 1 else 0) + eqc k r := rfl
theorem eqc_mem {k : Int} {L : List Int} (h : 0 < eqc k L) : k ∈ L := by
  induction L with
  | nil => simp [eqc] at h
  | cons x r ih =>
    rw [eqc_cons] at h
    by_cases hx : x = k
    · subst hx; simp
    · rw [if_neg hx] at h
      exact List.mem_cons_of_mem _ (ih (by omega))
theorem eqc_pos {k : Int} {L : List Int} (h : k ∈ L) : 0 < eqc k L := by
  induction L with
  | nil => simp at h
  | cons x r ih =>
    rw [eqc_cons]
    have := (eqc_bd k r).1
    rcases List.mem_cons.1 h with rfl | h
    · rw [if_pos rfl]; omega
    · have := ih h
      split <;> omega
theorem mono_eq {A B : List Int} (hA : mono A) (hB : mono B) (h : ∀ k, eqc k A = eqc k B) : A = B := by
  induction A generalizing B with
  | nil =>
    cases B with
    | nil => rfl
    | cons y t =>
      have h1 := h y
      have h2 := eqc_pos (k := y) (L := y :: t) (by simp)
      rw [← h1] at h2
      simp [eqc] at h2
  | cons x r ih =>
    cases B with
    | nil =>
      have h1 := h x
      have h2 := eqc_pos (k := x) (L := x :: r) (by simp)
      rw [h1] at h2
      simp [eqc] at h2
    | cons y t =>
      have hxy : x = y := by
        have h1 := eqc_mem (k := x) (L := y :: t) (by rw [← h x]; exact eqc_pos (by simp))
        have h2 := eqc_mem (k := y) (L := x :: r) (by rw [h y]; exact eqc_pos (by simp))
        have h3 : x ≤ y := by
          rcases List.mem_cons.1 h1 with rfl | h1
          · exact Int.le_refl _
          · exact hB.1 x h1
        have h4 : y ≤ x := by
          rcases List.mem_cons.1 h2 with rfl | h2
          · exact Int.le_refl _
          · exact hA.1 y h2
        omega
      subst hxy
      rw [ih hA.2 hB.2 fun k => by have := h k; rw [eqc_cons, eqc_cons] at this; omega]
theorem mono_append {A B : List Int} (hA : mono A) (hB : mono B) (h : ∀ x ∈ A, ∀ y ∈ B, y ≤ x) : mono (A ++ B) := by
  induction A with
  | nil => exact hB
  | cons x r ih =>
    refine ⟨fun y hy => ?_, ih hA.2 fun z hz => h z (by simp [hz])⟩
    rcases List.mem_append.1 hy with hy | hy
    · exact hA.1 y hy
    · exact h x (by simp) y hy
theorem mono_one (x : Int) : mono [x] := ⟨fun y hy => by simp at hy, trivial⟩
theorem mono_replicate (n : Nat) (x : Int) : mono (List.replicate n x) := by
  induction n with
  | zero => trivial
  | succ n ih => exact ⟨fun y hy => by have := List.eq_of_mem_replicate hy; omega, ih⟩
theorem eqc_replicate (k : Int) (n : Nat) (x : Int) : eqc k (List.replicate n x) = if x = k then (n : Int) else 0 := by
  induction n with
  | zero => simp [eqc]
  | succ n ih =>
    rw [List.replicate_succ, eqc_cons, ih]
    split <;> omega
/-- the two-way merge of the program, n steps: what has been laid, how many of the first, of the second -/
def um (P Q : Nat → Int) : Nat → List Int × Nat × Nat
  | 0 => ([], 0, 0)
  | n + 1 =>
    let s := um P Q n
    if Q s.2.2 ≤ P s.2.1 then (s.1 ++ [P s.2.1], s.2.1 + 1, s.2.2) else (s.1 ++ [Q s.2.2], s.2.1, s.2.2 + 1)
theorem um_step_yes (P Q : Nat → Int) (n : Nat) (h : Q (um P Q n).2.2 ≤ P (um P Q n).2.1) : um P Q (n + 1) = ((um P Q n).1 ++ [P (um P Q n).2.1], (um P Q n).2.1 + 1, (um P Q n).2.2) := by
  simp only [um]; rw [if_pos h]
theorem um_step_no (P Q : Nat → Int) (n : Nat) (h : ¬ Q (um P Q n).2.2 ≤ P (um P Q n).2.1) : um P Q (n + 1) = ((um P Q n).1 ++ [Q (um P Q n).2.2], (um P Q n).2.1, (um P Q n).2.2 + 1) := by
  simp only [um]; rw [if_neg h]
theorem um_count (P Q : Nat → Int) (n : Nat) : (um P Q n).2.1 + (um P Q n).2.2 = n ∧ (um P Q n).1.length = n := by
  induction n with
  | zero => exact ⟨rfl, rfl⟩
  | succ n ih =>
    by_cases h : Q (um P Q n).2.2 ≤ P (um P Q n).2.1
    · rw [um_step_yes P Q n h]
      simp only [List.length_append, List.length_cons, List.length_nil]
      omega
    · rw [um_step_no P Q n h]
      simp only [List.length_append, List.length_cons, List.length_nil]
      omega
def pre (P : Nat → Int) (i : Nat) : List Int := (List.range i).map P
theorem pre_succ (P : Nat → Int) (i : Nat) : pre P (i + 1) = pre P i ++ [P i] := by unfold pre; rw [List.range_succ, List.map_append]; rfl
theorem um_inv (P Q : Nat → Int) (hP : ∀ i, P (i + 1) ≤ P i) (hQ : ∀ i, Q (i + 1) ≤ Q i) (n : Nat) :
    mono (um P Q n).1 ∧ (∀ y ∈ (um P Q n).1, P (um P Q n).2.1 ≤ y ∧ Q (um P Q n).2.2 ≤ y) ∧ ∀ v, eqc v (um P Q n).1 = eqc v (pre P (um P Q n).2.1) + eqc v (pre Q (um P Q n).2.2) := by
  induction n with
  | zero => exact ⟨trivial, fun y hy => by simp [um] at hy, fun v => rfl⟩
  | succ n ih =>
    obtain ⟨h1, h2, h3⟩ := ih
    by_cases h : Q (um P Q n).2.2 ≤ P (um P Q n).2.1
    · rw [um_step_yes P Q n h]
      refine ⟨mono_append h1 (mono_one _) fun x hx y hy => ?_, fun y hy => ?_, fun v => ?_⟩
      · rw [List.mem_singleton] at hy
        subst hy
        exact (h2 x hx).1
      · have hp := hP (um P Q n).2.1
        rcases List.mem_append.1 hy with hy | hy
        · have := h2 y hy
          exact ⟨Int.le_trans hp this.1, this.2⟩
        · rw [List.mem_singleton] at hy
          subst hy
          exact ⟨hp, h⟩
      · show eqc v _ = eqc v (pre P ((um P Q n).2.1 + 1)) + eqc v (pre Q (um P Q n).2.2)
        rw [pre_succ, eqc_append, eqc_append, h3]
        omega
    · rw [um_step_no P Q n h]
      refine ⟨mono_append h1 (mono_one _) fun x hx y hy => ?_, fun y hy => ?_, fun v => ?_⟩
      · rw [List.mem_singleton] at hy
        subst hy
        exact (h2 x hx).2
      · have hp := hQ (um P Q n).2.2
        rcases List.mem_append.1 hy with hy | hy
        · have := h2 y hy
          exact ⟨this.1, Int.le_trans hp this.2⟩
        · rw [List.mem_singleton] at hy
          subst hy
          exact ⟨Int.le_of_lt (Int.not_le.1 h), hp⟩
      · show eqc v _ = eqc v (pre P (um P Q n).2.1) + eqc v (pre Q ((um P Q n).2.2 + 1))
        rw [pre_succ, eqc_append, eqc_append, h3]
        omega
theorem pre_parts {L : List Int} (i : Nat) (h : L.length ≤ i) : pre (fun i => L.getD i 0) i = L ++ List.replicate (i - L.length) 0 := by
  apply List.ext_getElem
  · simp [pre]; omega
  · intro j h1 h2
    simp only [pre, List.getElem_map, List.getElem_range]
    rcases Nat.lt_or_ge j L.length with h3 | h3
    · rw [List.getElem_append_left h3, getD_lt h3]
    · rw [List.getElem_append_right h3, getD_ge h3]; simp
/-- all of both, the greatest first, behind them noughts -/
theorem um_end {P Q M : List Int} (h : two P Q = true) (hM : mono M) (hMe : ∀ k, eqc k M = eqc k P + eqc k Q) (hMl : M.length = P.length + Q.length) (hM1 : ∀ x ∈ M, 1 ≤ x) : (um (fun i => P.getD i 0) (fun i => Q.getD i 0) 16).1 = pad M := by
  obtain ⟨hp, hq, hs⟩ := two_out h
  have hbp := valid_bd hp
  have hbq := valid_bd hq
  have hfp : ∀ i, P.getD (i + 1) 0 ≤ P.getD i 0 := fun i => by have := getD_fall hp (i + 1) (by omega); simpa using this
  have hfq : ∀ i, Q.getD (i + 1) 0 ≤ Q.getD i 0 := fun i => by have := getD_fall hq (i + 1) (by omega); simpa using this
  obtain ⟨h1, h2, h3⟩ := um_inv (fun i => P.getD i 0) (fun i => Q.getD i 0) hfp hfq 16
  obtain ⟨h4, h5⟩ := um_count (fun i => P.getD i 0) (fun i => Q.getD i 0) 16
  generalize (um (fun i => P.getD i 0) (fun i => Q.getD i 0) 16).1 = U at *
  generalize (um (fun i => P.getD i 0) (fun i => Q.getD i 0) 16).2.1 = i at *
  generalize (um (fun i => P.getD i 0) (fun i => Q.getD i 0) 16).2.2 = k at *
  have noz : ∀ (hn : ∀ y ∈ U, 1 ≤ y), eqc 0 U = 0 := fun hn => by
    rcases Int.lt_or_le 0 (eqc 0 U) with h | h
    · have := hn 0 (eqc_mem h); omega
    · have := (eqc_bd 0 U).1; omega
  have zer : ∀ (L : List Int) (n : Nat), eqc 0 (pre (fun i => L.getD i 0) n) = 0 → n ≤ L.length := fun L n hz => by
    rcases Nat.lt_or_ge L.length n with h | h
    · rw [pre_parts n (by omega), eqc_append, eqc_replicate, if_pos rfl] at hz
      have := (eqc_bd 0 L).1
      omega
    · exact h
  have hi : P.length ≤ i := by
    rcases Nat.lt_or_ge i P.length with h | h
    · have hz := noz fun y hy => by have := (h2 y hy).1; have := getD_pos hp h; omega
      have h0 := h3 0
      rw [hz] at h0
      have a := (eqc_bd 0 (pre (fun i => P.getD i 0) i)).1
      have b := (eqc_bd 0 (pre (fun i => Q.getD i 0) k)).1
      have := zer Q k (by omega)
      omega
    · exact h
  have hk : Q.length ≤ k := by
    rcases Nat.lt_or_ge k Q.length with h | h
    · have hz := noz fun y hy => by have := (h2 y hy).2; have := getD_pos hq h; omega
      have h0 := h3 0
      rw [hz] at h0
      have a := (eqc_bd 0 (pre (fun i => P.getD i 0) i)).1
      have b := (eqc_bd 0 (pre (fun i => Q.getD i 0) k)).1
      have := zer P i (by omega)
      omega
    · exact h
  apply mono_eq h1
  · unfold pad
    refine mono_append hM (mono_replicate _ _) fun x hx y hy => ?_
    have := List.eq_of_mem_replicate hy
    have := hM1 x hx
    omega
  · intro v
    rw [h3, pre_parts i hi, pre_parts k hk]
    unfold pad
    rw [eqc_append, eqc_append, eqc_append, eqc_replicate, eqc_replicate, eqc_replicate, hMe]
    split <;> omega
end NP
end Go.Proofs.Ythafbdpeignccaa
