/-
  Plain mathematics of orders: the promise of meets.
-/
import Derived.Test.YtlgglbgdopmkpaaM29
import Derived.Test.YtlgglbgdopmkpaaW60
namespace Go.Proofs.Ytlgglbgdopmkpaa
open NP
set_option linter.unusedVariables false
theorem mt_greatest {P Q X : List Int} (h1 : dom P X = true) (h2 : dom Q X = true) : dom (NP.mt P Q) X = true := by
  obtain ⟨hp, hx, hs, hk⟩ := dom_iff.1 h1
  obtain ⟨hq, _, hs2, hk2⟩ := dom_iff.1 h2
  refine dom_iff.2 ⟨valid_mt hp hq, hx, ?_, fun k hk' => ?_⟩
  · rw [sum_mt hp hq]; omega
  · rw [sumTo_mt hp hq hk']
    have := hk k hk'
    have := hk2 k hk'
    unfold mf
    omega
theorem allQ_shortTab : (List.range 13).all (fun k => (allQ k k k).all fun X => decide (X.length ≤ 16)) = true := by decide +kernel
theorem apF_short (n : Int) : ∀ X ∈ apF n, X.length ≤ 16 := by
  intro X hX
  unfold apF at hX
  split at hX
  · have h1 := List.all_eq_true.1 allQ_shortTab n.toNat (by simp; omega)
    have h2 := List.all_eq_true.1 h1 X hX
    simpa using h2
  · simp at hX
theorem apF_few (n : Int) : (apF n).length ≤ 1000 := by
  unfold apF
  split
  · exact allQ_len (by omega)
  · simp
theorem mt_facts {P Q : List Int} (h : oneS' P Q = true) : dom P (NP.mt P Q) = true ∧ dom Q (NP.mt P Q) = true ∧ oneS' Q P = true ∧ mtF Q P = NP.mt P Q := by
  obtain ⟨hp, hq, hs⟩ := oneS_out h
  have h2 : oneS' Q P = true := by rw [oneS_comm]; exact h
  exact ⟨dom_mt hp hq hs, by rw [mt_comm]; exact dom_mt hq hp hs.symm, h2, by rw [mtF_yes h2, mt_comm]⟩
end Go.Proofs.Ytlgglbgdopmkpaa
