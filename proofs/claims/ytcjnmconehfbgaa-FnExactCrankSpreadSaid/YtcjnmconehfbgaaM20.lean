/-
  Plain mathematics: arms and legs of the parts that were made of them.
-/
import Derived.Test.YtcjnmconehfbgaaM18
namespace Go.Proofs.Ytcjnmconehfbgaa
namespace NP
set_option linter.unusedVariables false
theorem nb_ge {q : Nat → Bool} {m : Nat} (n : Nat) (hm : m ≤ n) (h : ∀ i, i < m → q i = true) : m ≤ nb q n := by
  induction n with
  | zero => omega
  | succ n ih =>
    simp only [nb]
    rcases Nat.lt_or_ge n m with h1 | h1
    · have e := nb_all (q := q) n fun i hi => h i (by omega)
      rw [e, if_pos (h n h1)]; omega
    · have := ih h1
      omega
theorem nb_few {q : Nat → Bool} {m : Nat} (n : Nat) (h : ∀ i, i < n → q i = true → i < m) : nb q n ≤ m := by
  have key : nb q n ≤ nb (fun i => decide (i < m)) n := nb_mono n fun i hi hq => decide_eq_true (h i hi hq)
  have e : nb (fun i => decide (i < m)) n = min n m := nb_to n fun i _ => by simp
  omega
theorem pof_dur {A B : List Int} (h : pofOk A B = true) : durS (pof A B) = A.length := by
  have hp := pofOk_pre h
  have hN := pofN_ge hp
  refine durS_unique (fun j hj => ?_) ?_
  · rw [pof_getD, if_pos (by omega), pofG, if_pos hj]
    have := (dnB_iff 16 A).1 hp.1 j hj
    omega
  · rw [pof_getD]
    split
    · rw [pofG, if_neg (by omega)]
      have := leg_le B A.length
      have := hp.2.2
      omega
    · omega
theorem froA_pof {A B : List Int} (h : pofOk A B = true) : froA (pof A B) = A := by
  have hp := pofOk_pre h
  have hN := pofN_ge hp
  unfold froA
  rw [pof_dur h]
  apply List.ext_getElem
  · rw [armsTo_len]
  · intro j h1 h2
    rw [← getD_lt h1, ← getD_lt h2, armsTo_getD _ _ _ h2, pof_getD, if_pos (by omega), pofG, if_pos h2]
    omega
theorem cnt_pof {A B : List Int} (h : pofOk A B = true) {i : Nat} (hi : i < A.length) : cnt ((i : Int) + 1) (pof A B) = B.getD i 0 + i + 1 := by
  have hp := pofOk_pre h
  have hN := pofN_ge hp
  have hv := valid_pof h
  have hl := hp.2.2
  have hb := (dnB_iff 16 B).1 hp.2.1 i (by omega)
  have hlow := dn_low hp.2.1 i (by omega)
  have hgap := dn_gap hp.2.1 i 0 (by omega) (by omega)
  have hb0 := (dnB_iff 16 B).1 hp.2.1 0 (by omega)
  have hNe : (pofN A B : Int) = B.getD 0 0 + 1 := by unfold pofN; rw [if_neg (by omega)]; omega
  obtain ⟨m, hm⟩ : ∃ m : Nat, (m : Int) = B.getD i 0 + i + 1 := ⟨(B.getD i 0 + i + 1).toNat, by omega⟩
  have hmN : m ≤ pofN A B := by omega
  have hlen := pof_len A B
  have lo : (m : Int) ≤ cnt ((i : Int) + 1) (pof A B) := by
    have h1 : m - 1 < (pof A B).length := by omega
    have h2 := (cnt_ge_iff hv h1 ((i : Int) + 1)).2 (by
      rw [← getD_lt h1, pof_getD, if_pos (by omega), pofG]
      split
      · have := dn_low hp.1 (m - 1) (by omega)
        omega
      · have : i + 1 ≤ leg B (m - 1) := nb_ge _ (by omega) fun i' hi' => decide_eq_true (by
          have := dn_gap hp.2.1 i i' (by omega) (by omega)
          omega)
        omega)
    omega
  have hi' : cnt ((i : Int) + 1) (pof A B) ≤ m := by
    rcases Nat.lt_or_ge m (pofN A B) with h1 | h1
    · have h2 : m < (pof A B).length := by omega
      have h3 := cnt_ge_iff hv h2 ((i : Int) + 1)
      have h4 : ¬ ((i : Int) + 1 ≤ (pof A B)[m]) := by
        rw [← getD_lt h2, pof_getD, if_pos h1, pofG, if_neg (by omega)]
        have : leg B m ≤ i := nb_few _ fun i' hi' hq => by
          have hq' := of_decide_eq_true hq
          rcases Nat.lt_or_ge i' i with h5 | h5
          · exact h5
          · have := dn_gap hp.2.1 i' i h5 hi'
            omega
        omega
      have : ¬ ((m : Int) + 1 ≤ cnt ((i : Int) + 1) (pof A B)) := fun hc => h4 (h3.1 hc)
      omega
    · have := (cnt_bd ((i : Int) + 1) (pof A B)).2
      omega
  omega
theorem froB_pof {A B : List Int} (h : pofOk A B = true) : froB (pof A B) = B := by
  have hp := pofOk_pre h
  unfold froB
  rw [pof_dur h]
  apply List.ext_getElem
  · rw [armsTo_len]; exact hp.2.2
  · intro j h1 h2
    have hj : j < A.length := by rw [armsTo_len] at h1; exact h1
    rw [← getD_lt h1, ← getD_lt h2, armsTo_getD _ _ _ hj, conj_getD' (valid_pof h), cnt_pof h hj]
    omega
end NP
end Go.Proofs.Ytcjnmconehfbgaa
