/-
  Tables: boxes.
-/
import Derived.Test.YtgbkaahmmpgjfaaW80
namespace Go.Proofs.Ytgbkaahmmpgjfaa
open NP
def bxOk (N : List Nat) : Bool :=
  let P := N.map Int.ofNat
  decide (((conj P).length : Int) = P.headD 0) && decide ((conj P).headD 0 = (P.length : Int)) && valid (conj P) && decide (sumL P ≤ (P.length : Int) * P.headD 0) && decide (0 ≤ P.headD 0)
theorem bxTab : all16.all bxOk = true := by decide +kernel
theorem inb_facts {P : List Int} (h : valid P = true) {a b : Int} (ha : 0 ≤ a) (hb : 0 ≤ b) : inbF (conj P) b a = inbF P a b ∧ (inbF P a b = true → sumL P ≤ a * b) := by
  obtain ⟨N, hN, rfl⟩ := of_all bxTab h
  unfold bxOk at hN
  simp only [Bool.and_eq_true, decide_eq_true_eq] at hN
  obtain ⟨⟨⟨⟨h1, h2⟩, h3⟩, h4⟩, h5⟩ := hN
  generalize N.map Int.ofNat = P at *
  have e : limB b a = limB a b := by
    unfold limB
    rw [Bool.eq_iff_iff, decide_eq_true_eq, decide_eq_true_eq]
    omega
  constructor
  · unfold inbF
    rw [h, h3, h1, h2, e]
    congr 2
    rw [Bool.eq_iff_iff, decide_eq_true_eq, decide_eq_true_eq]
    exact And.comm
  · intro hi
    unfold inbF at hi
    simp only [Bool.and_eq_true, decide_eq_true_eq] at hi
    obtain ⟨_, _, h6, h7⟩ := hi
    exact Int.le_trans h4 (Int.mul_le_mul h6 h7 h5 ha)
end Go.Proofs.Ytgbkaahmmpgjfaa
