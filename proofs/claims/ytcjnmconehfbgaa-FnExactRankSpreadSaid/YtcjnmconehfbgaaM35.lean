/-
  Plain mathematics: falling numbers are told by how often each comes; parts written from a tally. No Go text.
-/
import Derived.Test.YtcjnmconehfbgaaM17
import Derived.Test.YtcjnmconehfbgaaM34
namespace Go.Proofs.Ytcjnmconehfbgaa
namespace NP
set_option linter.unusedVariables false
theorem mono_uniq {A B : List Int} (hA : mono A) (hB : mono B) (h : ∀ k, eqc k A = eqc k B) (hl : A.length = B.length) : A = B := by
  induction A generalizing B with
  | nil => exact (List.eq_nil_of_length_eq_zero (by simp at hl; omega)).symm
  | cons x r ih =>
    cases B with
    | nil => simp at hl
    | cons y s =>
      have hx : x ∈ y :: s := eqc_mem (by rw [← h x]; exact eqc_pos (by simp))
      have hy : y ∈ x :: r := eqc_mem (by rw [h y]; exact eqc_pos (by simp))
      have e : x = y := by
        rcases List.mem_cons.1 hx with e | e
        · exact e
        · rcases List.mem_cons.1 hy with e2 | e2
          · exact e2.symm
          · have := hB.1 x e; have := hA.1 y e2; omega
      subst e
      congr 1
      exact ih hA.2 hB.2 (fun k => by have := h k; rw [eqc_cons, eqc_cons] at this; omega) (by simpa using hl)
/-- parts from 16 down, m numbers of them, each as often as it comes in L -/
def dscA (L : List Int) : Nat → List Int
  | 0 => []
  | m + 1 => dscA L m ++ List.replicate (eqc ((16 : Int) - m) L).toNat ((16 : Int) - m)
theorem dscA_low (L : List Int) (m : Nat) : ∀ x ∈ dscA L m, (16 : Int) - m < x := by
  induction m with
  | zero => intro x hx; simp [dscA] at hx
  | succ m ih =>
    intro x hx
    rcases List.mem_append.1 hx with hx | hx
    · have := ih x hx; omega
    · have := (List.mem_replicate.1 hx).2; omega
theorem mono_rep (n : Nat) (x : Int) : mono (List.replicate n x) := by
  induction n with
  | zero => exact trivial
  | succ n ih => exact ⟨fun y hy => by have := (List.mem_replicate.1 hy).2; omega, ih⟩
theorem dscA_mono (L : List Int) (m : Nat) : mono (dscA L m) := by
  induction m with
  | zero => exact trivial
  | succ m ih =>
    refine mono_append ih (mono_rep _ _) fun a ha b hb => ?_
    have h1 := dscA_low L m a ha
    have h2 := (List.mem_replicate.1 hb).2
    omega
theorem eqc_out {L : List Int} {k : Int} (h : k ∉ L) : eqc k L = 0 := by
  have h1 := eqc_bd k L
  rcases Int.lt_or_le 0 (eqc k L) with h2 | h2
  · exact absurd (eqc_mem h2) h
  · omega
theorem dscA_eqc (L : List Int) (m : Nat) (k : Int) : eqc k (dscA L m) = if (16 : Int) - m < k ∧ k ≤ 16 then eqc k L else 0 := by
  induction m with
  | zero => simp [dscA, eqc]; omega
  | succ m ih =>
    have hb := eqc_bd ((16 : Int) - m) L
    rw [dscA, eqc_append, ih, eqc_replicate]
    by_cases h1 : (16 : Int) - m = k
    · subst h1
      rw [if_neg (by omega), if_pos rfl, if_pos (by omega)]
      omega
    · rw [if_neg h1]
      by_cases h2 : (16 : Int) - m < k ∧ k ≤ 16
      · rw [if_pos h2, if_pos (by omega)]; omega
      · rw [if_neg h2, if_neg (by omega)]; omega
theorem eqc_len {A B : List Int} (h : ∀ k, eqc k A = eqc k B) : A.length = B.length := by
  induction A generalizing B with
  | nil =>
    cases B with
    | nil => rfl
    | cons y s => have := h y; rw [eqc_cons] at this; have := (eqc_bd y s).1; simp [eqc] at *; omega
  | cons x r ih =>
    have hx : x ∈ B := eqc_mem (by rw [← h x]; exact eqc_pos (by simp))
    obtain ⟨b1, b2, rfl⟩ := List.append_of_mem hx
    have := ih (B := b1 ++ b2) (fun k => by
      have := h k
      rw [eqc_cons, eqc_append, eqc_cons] at this
      rw [eqc_append]; omega)
    simp at this ⊢; omega
theorem dscA_all' {L : List Int} (h : ∀ x ∈ L, 1 ≤ x ∧ x ≤ 16) (m : Nat) (hm : m = 16) : dscA L m = mrg L := by
  have hq : ∀ k, eqc k (dscA L m) = eqc k (mrg L) := fun k => by
    rw [dscA_eqc, mrg_eqc]
    by_cases hk : (16 : Int) - (m : Int) < k ∧ k ≤ 16
    · rw [if_pos hk]
    · rw [if_neg hk]
      exact (eqc_out (fun hx => hk (by have := h k hx; omega))).symm
  exact mono_uniq (dscA_mono L m) (mrg_mono L) hq (eqc_len hq)
theorem dscA_all {L : List Int} (h : ∀ x ∈ L, 1 ≤ x ∧ x ≤ 16) : dscA L 16 = mrg L := dscA_all' h 16 rfl
theorem dscA_le (L : List Int) {j m : Nat} (h : j ≤ m) : (dscA L j).length ≤ (dscA L m).length := by
  induction m with
  | zero => obtain rfl : j = 0 := by omega
            exact Nat.le_refl _
  | succ m ih =>
    rcases Nat.lt_or_ge j (m + 1) with h1 | h1
    · have := ih (by omega); rw [dscA, List.length_append]; omega
    · obtain rfl : j = m + 1 := by omega
      exact Nat.le_refl _
theorem vsm_each {L : List Int} (h : vsm L = true) : ∀ x ∈ L, 1 ≤ x ∧ x ≤ 16 := by
  intro x hx
  obtain ⟨k, hk, rfl⟩ := List.getElem_of_mem hx
  have h1 := vsm_bd (vsm_take h k)
  have h2 := vsm_bd (vsm_take h (k + 1))
  rw [sumL_take_succ L k hk] at h2
  exact ⟨(vsm_iff.1 h).1 _ (List.getElem_mem hk), by omega⟩
theorem mrg_ok {L : List Int} (h : vsm L = true) : valid (mrg L) = true :=
  valid_mono (mrg_mono L) (fun x hx => ((vsm_each h) x (mrg_mem hx)).1) (by rw [mrg_sum]; exact (vsm_iff.1 h).2)
theorem dscA_len {L : List Int} (h : vsm L = true) {m : Nat} (hm : m ≤ 16) : (dscA L m).length ≤ 16 := by
  have h1 := dscA_le L hm
  rw [dscA_all (vsm_each h), mrg_len] at h1
  have := (vsm_bd h).2.2.2
  omega
/-- the parts of summands -/
def posF (L : List Int) : List Int := if vsm L = true then mrg L else []
theorem posF_yes {L : List Int} (h : vsm L = true) : posF L = mrg L := by unfold posF; rw [if_pos h]
theorem posF_no {L : List Int} (h : vsm L = false) : posF L = [] := by unfold posF; rw [if_neg (by rw [h]; decide)]
theorem posF_len (L : List Int) : (posF L).length ≤ 16 := by
  cases h : vsm L with
  | true => rw [posF_yes h, mrg_len]; exact (vsm_bd h).2.2.2
  | false => rw [posF_no h]; simp
theorem posF_valid (L : List Int) : valid (posF L) = true := by
  cases h : vsm L with
  | true => rw [posF_yes h]; exact mrg_ok h
  | false => rw [posF_no h]; rfl
theorem vsm_of_valid {L : List Int} (h : valid L = true) : vsm L = true := vsm_iff.2 ⟨valid_ge1 h, (valid_bd h).2.1⟩
theorem mrg_of_mono {L : List Int} (h : mono L) : mrg L = L := mono_uniq (mrg_mono L) h (fun k => mrg_eqc L k) (mrg_len L)
theorem mono_of_valid {L : List Int} (h : valid L = true) : mono L := by
  have hp := preS_of_valid h
  have hstep : ∀ k (hk : k + 1 < L.length), L[k + 1] ≤ L[k] := fun k hk => by
    have := (hp (k + 1) hk hk).2.2 (by omega)
    simpa using this
  clear h hp
  induction L with
  | nil => exact trivial
  | cons x r ih =>
    refine ⟨fun y hy => ?_, ih (fun k hk => by have := hstep (k + 1) (by simpa using hk); simpa using this)⟩
    obtain ⟨j, hj, rfl⟩ := List.getElem_of_mem hy
    have : ∀ j (hj : j < (x :: r).length), (x :: r)[j] ≤ x := by
      intro j
      induction j with
      | zero => intro _; exact Int.le_refl _
      | succ j ihj =>
        intro hj
        have h1 := hstep j hj
        have h2 := ihj (by omega)
        omega
    have := this (j + 1) (by simpa using hj)
    simpa using this
theorem eqc_rev (k : Int) (L : List Int) : eqc k L.reverse = eqc k L := by
  induction L with
  | nil => rfl
  | cons x r ih => rw [List.reverse_cons, eqc_append, ih, eqc_cons, eqc_cons]; simp [eqc]; omega
theorem mrg_rev (L : List Int) : mrg L.reverse = mrg L :=
  mono_uniq (mrg_mono _) (mrg_mono _) (fun k => by rw [mrg_eqc, mrg_eqc, eqc_rev]) (by rw [mrg_len, mrg_len, List.length_reverse])
/-- how often each number from 0 to 16 comes -/
def tlyL (L : List Int) : List Int := (List.range 17).map fun (v : Nat) => eqc v L
theorem tlyL_len (L : List Int) : (tlyL L).length = 17 := by simp [tlyL]
theorem tlyL_at (L : List Int) {v : Nat} (h : v < 17) : (tlyL L)[v]'(by rw [tlyL_len]; exact h) = eqc v L := by simp [tlyL]
theorem tlyL_next (L : List Int) {x : Nat} (hx : x < 17) : (tlyL L).set x (eqc x L + 1) = tlyL (L ++ [(x : Int)]) := by
  apply List.ext_getElem
  · simp [tlyL]
  · intro v h1 h2
    have hv : v < 17 := by simpa [tlyL] using h2
    rw [List.getElem_set]
    by_cases e : x = v
    · subst e
      rw [if_pos rfl, tlyL_at _ hv, eqc_append]
      simp [eqc]
    · rw [if_neg e, tlyL_at _ hv, tlyL_at _ hv, eqc_append]
      have : ¬ (x : Int) = (v : Int) := by omega
      simp [eqc, this]
end NP
end Go.Proofs.Ytcjnmconehfbgaa
