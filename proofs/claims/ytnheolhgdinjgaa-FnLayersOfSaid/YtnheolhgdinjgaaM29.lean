/-
  Plain mathematics of orders: the promises of inside, dominance and joins.
-/
import Derived.Test.YtnheolhgdinjgaaM28
import Derived.Test.YtnheolhgdinjgaaW49
namespace Go.Proofs.Ytnheolhgdinjgaa
open NP
set_option linter.unusedVariables false
theorem ins_conj_le {P Q : List Int} (h : ins P Q = true) : ins (conj P) (conj Q) = true := by
  obtain ⟨hp, hq, hk⟩ := ins_iff.1 h
  refine ins_iff.2 ⟨valid_conj hp, valid_conj hq, fun j => ?_⟩
  rw [conj_getD hp, conj_getD hq]
  have hb := cnt_bd ((j : Int) + 1) Q
  have hb2 := cnt_bd ((j : Int) + 1) P
  obtain ⟨m, hm⟩ := Int.eq_ofNat_of_zero_le hb.1
  rw [hm]
  by_cases h0 : m = 0
  · subst h0; simpa using hb2.1
  · have hl : m - 1 < Q.length := by have := hb.2; omega
    have h1 := (cnt_ge_iff hq hl ((j : Int) + 1)).1 (by rw [hm]; omega)
    have h2 := hk (m - 1)
    rw [getD_lt hl] at h2
    have hlp : m - 1 < P.length := by
      rcases Nat.lt_or_ge (m - 1) P.length with h3 | h3
      · exact h3
      · rw [getD_ge h3] at h2; omega
    rw [getD_lt hlp] at h2
    have h3 := (cnt_ge_iff hp hlp ((j : Int) + 1)).2 (by omega)
    omega
theorem ins_conj {P Q : List Int} (hp : valid P = true) (hq : valid Q = true) : ins (conj P) (conj Q) = ins P Q := by
  rw [Bool.eq_iff_iff]
  refine ⟨fun h => ?_, ins_conj_le⟩
  have := ins_conj_le h
  rwa [conj_conj hp, conj_conj hq] at this
theorem ins_sum {P Q : List Int} (h : ins P Q = true) : sumL Q ≤ sumL P := by
  obtain ⟨hp, hq, hk⟩ := ins_iff.1 h
  have key : ∀ n, sumTo Q n ≤ sumTo P n := by
    intro n
    induction n with
    | zero => exact Int.le_refl _
    | succ n ih => have := hk n; rw [sumTo, sumTo]; omega
  have := key 16
  rwa [sumTo_all Q 16 (valid_bd hq).2.2.2, sumTo_all P 16 (valid_bd hp).2.2.2] at this
theorem dom_self {P : List Int} (hp : valid P = true) : dom P P = true := dom_iff.2 ⟨hp, hp, rfl, fun _ _ => Int.le_refl _⟩
theorem dom_anti {P Q : List Int} (h : dom P Q = true) : dom Q P = decide (P = Q) := by
  obtain ⟨hp, hq, hs, hk⟩ := dom_iff.1 h
  rw [Bool.eq_iff_iff, decide_eq_true_eq]
  constructor
  · intro h2
    have hk2 := (dom_iff.1 h2).2.2.2
    exact eq_of_sumTo hp hq fun k hk' => by have := hk k hk'; have := hk2 k hk'; omega
  · rintro rfl; exact dom_self hp
theorem dom_ne {P Q : List Int} (hp : valid P = true) (h : dom P Q = false) : decide (P = Q) = false := by
  rw [decide_eq_false_iff_not]
  rintro rfl
  rw [dom_self hp] at h
  cases h
theorem oneS_conj {P Q : List Int} (h : oneS' P Q = true) : oneS' (conj P) (conj Q) = true := by
  obtain ⟨hp, hq, hs⟩ := oneS_out h
  unfold oneS'
  rw [valid_conj hp, valid_conj hq, sumL_conj hp, sumL_conj hq, hs]
  simp
theorem dom_mt {P Q : List Int} (hp : valid P = true) (hq : valid Q = true) (hs : sumL P = sumL Q) : dom P (NP.mt P Q) = true := by
  refine dom_iff.2 ⟨hp, valid_mt hp hq, ?_, fun k hk => ?_⟩
  · rw [sum_mt hp hq]; omega
  · rw [sumTo_mt hp hq hk]; unfold mf; omega
theorem jn_facts {P Q : List Int} (h : oneS' P Q = true) : dom (jn P Q) P = true ∧ dom (jn P Q) Q = true ∧ oneS' P (jn P Q) = true ∧ mtF P (jn P Q) = P ∧ mtF (conj P) (conj Q) = conj (jn P Q) := by
  obtain ⟨hp, hq, hs⟩ := oneS_out h
  have hj := valid_jn hp hq
  have hcs : sumL (conj P) = sumL (conj Q) := by rw [sumL_conj hp, sumL_conj hq, hs]
  have hcj : conj (jn P Q) = NP.mt (conj P) (conj Q) := conj_conj (valid_mt (valid_conj hp) (valid_conj hq))
  have d1 : dom (jn P Q) P = true := by rw [← dom_conj hj hp, hcj]; exact dom_mt (valid_conj hp) (valid_conj hq) hcs
  have d2 : dom (jn P Q) Q = true := by rw [← dom_conj hj hq, hcj, mt_comm]; exact dom_mt (valid_conj hq) (valid_conj hp) hcs.symm
  have ho : oneS' P (jn P Q) = true := by
    unfold oneS'
    rw [hp, hj, (dom_iff.1 d1).2.2.1]
    simp
  refine ⟨d1, d2, ho, ?_, ?_⟩
  · rw [mtF_yes ho, mt_comm]
    exact (mt_right hj hp).2 (dom_iff.1 d1).2.2.2
  · rw [mtF_yes (oneS_conj h), hcj]
theorem oneS_comm (P Q : List Int) : oneS' P Q = oneS' Q P := by
  unfold oneS'
  rw [Bool.eq_iff_iff]
  simp only [Bool.and_eq_true, beq_iff_eq]
  constructor
  · rintro ⟨⟨a, b⟩, c⟩; exact ⟨⟨b, a⟩, c.symm⟩
  · rintro ⟨⟨a, b⟩, c⟩; exact ⟨⟨b, a⟩, c.symm⟩
end Go.Proofs.Ytnheolhgdinjgaa
