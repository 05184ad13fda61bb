/-
  Walks of the model: inside, dominance, meets, joins.
-/
import Derived.Test.YtnheolhgdinjgaaW4
import Derived.Test.YtnheolhgdinjgaaM28
namespace Go.Proofs.Ytnheolhgdinjgaa
open Go.RowKit NP
set_option maxRecDepth 8000
set_option linter.unusedVariables false
set_option linter.unusedSimpArgs false
theorem ins_no {P Q : List Int} {k : Nat} (h : P.getD k 0 < Q.getD k 0) : ins P Q = false := by
  cases hh : ins P Q with
  | false => rfl
  | true => have := (ins_iff.1 hh).2.2 k; omega
theorem sumTo_bd {L : List Int} (hv : valid L = true) (k : Nat) : 0 ≤ sumTo L k ∧ sumTo L k ≤ 16 := by
  rw [sumTo_take]
  have := valid_bd (valid_take hv k)
  omega
theorem dom_no {P Q : List Int} {k : Nat} (hk : k ≤ 16) (h : sumTo P k < sumTo Q k) : dom P Q = false := by
  cases hh : dom P Q with
  | false => rfl
  | true => have := (dom_iff.1 hh).2.2.2 k hk; omega
theorem dom_yes {P Q : List Int} (hp : valid P = true) (hq : valid Q = true) {n : Nat} (h1 : P.length ≤ n) (h2 : Q.length ≤ n) (h : ∀ j, j ≤ n → sumTo Q j ≤ sumTo P j) : dom P Q = (sumL P == sumL Q) := by
  rw [Bool.eq_iff_iff, dom_iff, beq_iff_eq]
  constructor
  · rintro ⟨_, _, hs, _⟩; exact hs
  · intro hs
    refine ⟨hp, hq, hs, fun k _ => ?_⟩
    rcases Nat.lt_or_ge k n with hk | hk
    · exact h k (by omega)
    · rw [sumTo_all P k (by omega), sumTo_all Q k (by omega), hs]; exact Int.le_refl _
theorem mt_at {P Q : List Int} {n : Nat} (h1 : P.length ≤ n) (h2 : Q.length ≤ n) (hn : n ≤ 16) : tr (mi P Q) n = mt P Q := by
  unfold NP.mt
  refine (tr_more hn fun i hi => ?_).symm
  unfold mi mf
  simp only [sumTo]
  rw [getD_ge (by omega), getD_ge (by omega)]
  omega
def oneS' (P Q : List Int) : Bool := valid P && valid Q && (sumL P == sumL Q)
def mtF (P Q : List Int) : List Int := if oneS' P Q then mt P Q else []
def jnF (P Q : List Int) : List Int := if oneS' P Q then jn P Q else []
theorem oneS_out {P Q : List Int} (h : oneS' P Q = true) : valid P = true ∧ valid Q = true ∧ sumL P = sumL Q := by
  unfold oneS' at h
  simp only [Bool.and_eq_true, beq_iff_eq] at h
  exact ⟨h.1.1, h.1.2, h.2⟩
theorem mtF_yes {P Q : List Int} (h : oneS' P Q = true) : mtF P Q = mt P Q := by simp [mtF, h]
theorem mtF_no {P Q : List Int} (h : oneS' P Q = false) : mtF P Q = [] := by simp [mtF, h]
theorem jnF_yes {P Q : List Int} (h : oneS' P Q = true) : jnF P Q = jn P Q := by simp [jnF, h]
theorem jnF_no {P Q : List Int} (h : oneS' P Q = false) : jnF P Q = [] := by simp [jnF, h]
theorem mtF_len (P Q : List Int) : (mtF P Q).length ≤ 16 := by
  cases h : oneS' P Q with
  | true => rw [mtF_yes h]; obtain ⟨h1, h2, _⟩ := oneS_out h; exact (valid_bd (valid_mt h1 h2)).2.2.2
  | false => rw [mtF_no h]; simp
theorem jnF_len (P Q : List Int) : (jnF P Q).length ≤ 16 := by
  cases h : oneS' P Q with
  | true => rw [jnF_yes h]; obtain ⟨h1, h2, _⟩ := oneS_out h; exact (valid_bd (valid_jn h1 h2)).2.2.2
  | false => rw [jnF_no h]; simp



end Go.Proofs.Ytnheolhgdinjgaa
