/-
  Plain mathematics of summands: the answers of the functions as closed forms. No Go text.
-/
import Derived.Test.YtcjnmconehfbgaaM33
namespace Go.Proofs.Ytcjnmconehfbgaa
namespace NP
def mkF (L : List Int) : Int := if vsm L = true then (mkN L : Int) else -1
theorem mkF_yes {L : List Int} (h : vsm L = true) : mkF L = (mkN L : Int) := by unfold mkF; rw [if_pos h]
theorem mkF_no {L : List Int} (h : vsm L = false) : mkF L = -1 := by unfold mkF; rw [if_neg (by rw [h]; decide)]
/-- whether a sum has the bits -/
def smOk (n m : Int) : Bool := decide (0 ≤ n) && decide (n ≤ 16) && decide (0 ≤ m) && decide (m < ((2 ^ (n.toNat - 1) : Nat) : Int))
def smkF (n m : Int) : List Int := if smOk n m = true then smk n.toNat m.toNat else []
theorem smOk_iff {n m : Int} : smOk n m = true ↔ 0 ≤ n ∧ n ≤ 16 ∧ 0 ≤ m ∧ m < ((2 ^ (n.toNat - 1) : Nat) : Int) := by simp only [smOk, Bool.and_eq_true, decide_eq_true_eq]; omega
theorem smkF_yes {n m : Int} (h : smOk n m = true) : smkF n m = smk n.toNat m.toNat := by unfold smkF; rw [if_pos h]
theorem smkF_no {n m : Int} (h : smOk n m = false) : smkF n m = [] := by unfold smkF; rw [if_neg (by rw [h]; decide)]
theorem smk_len16 {n : Nat} (m : Nat) (h : n ≤ 16) : (smk n m).length ≤ 16 := by have := smk_len n m; omega
theorem smkF_len (n m : Int) : (smkF n m).length ≤ 16 := by
  cases h : smOk n m with
  | true => rw [smkF_yes h]; rw [smOk_iff] at h; exact smk_len16 _ (by omega)
  | false => rw [smkF_no h]; simp
def oppF (L : List Int) : List Int := if vsm L = true then opp L else []
theorem oppF_yes {L : List Int} (h : vsm L = true) : oppF L = opp L := by unfold oppF; rw [if_pos h]
theorem oppF_no {L : List Int} (h : vsm L = false) : oppF L = [] := by unfold oppF; rw [if_neg (by rw [h]; decide)]
theorem oppF_len (L : List Int) : (oppF L).length ≤ 16 := by
  cases h : vsm L with
  | true => rw [oppF_yes h]; exact (vsm_bd (opp_ok h)).2.2.2
  | false => rw [oppF_no h]; simp
def trnF (L : List Int) : List Int := if vsm L = true then L.reverse else []
theorem trnF_yes {L : List Int} (h : vsm L = true) : trnF L = L.reverse := by unfold trnF; rw [if_pos h]
theorem trnF_no {L : List Int} (h : vsm L = false) : trnF L = [] := by unfold trnF; rw [if_neg (by rw [h]; decide)]
theorem trnF_len (L : List Int) : (trnF L).length ≤ 16 := by
  cases h : vsm L with
  | true => rw [trnF_yes h, List.length_reverse]; exact (vsm_bd h).2.2.2
  | false => rw [trnF_no h]; simp
def lnkOk (c d : List Int) : Bool := vsm c && vsm d && decide (sumL c + sumL d ≤ 16)
def lnkF (c d : List Int) (near : Bool) : List Int := if lnkOk c d = true then lnk c d near else []
theorem lnkOk_iff {c d : List Int} : lnkOk c d = true ↔ vsm c = true ∧ vsm d = true ∧ sumL c + sumL d ≤ 16 := by simp [lnkOk, and_assoc]
theorem lnkF_yes {c d : List Int} (h : lnkOk c d = true) (near : Bool) : lnkF c d near = lnk c d near := by unfold lnkF; rw [if_pos h]
theorem lnkF_no {c d : List Int} (h : lnkOk c d = false) (near : Bool) : lnkF c d near = [] := by unfold lnkF; rw [if_neg (by rw [h]; decide)]
theorem lnk_ok {c d : List Int} (h : lnkOk c d = true) (near : Bool) : vsm (lnk c d near) = true := by
  rw [lnkOk_iff] at h
  rw [vsm_iff, lnk_sum]
  exact ⟨lnk_pos (vsm_iff.1 h.1).1 (vsm_iff.1 h.2.1).1 near, h.2.2⟩
theorem lnkF_len (c d : List Int) (near : Bool) : (lnkF c d near).length ≤ 16 := by
  cases h : lnkOk c d with
  | true => rw [lnkF_yes h]; exact (vsm_bd (lnk_ok h near)).2.2.2
  | false => rw [lnkF_no h]; simp
theorem lnkOk_opp {c d : List Int} (h : lnkOk c d = true) : lnkOk (opp c) (opp d) = true := by
  rw [lnkOk_iff] at *
  have h1 := vsm_bd h.1
  have h2 := vsm_bd h.2.1
  exact ⟨opp_ok h.1, opp_ok h.2.1, by rw [opp_sum _ h1.1, opp_sum _ h2.1]; exact h.2.2⟩
/-- the sum and bits of a link are the link -/
theorem smk_link {c d : List Int} (hc : ∀ x ∈ c, 1 ≤ x) (hd : ∀ x ∈ d, 1 ≤ x) (near : Bool) :
    smk (sgN c + sgN d) (mkN c + 2 ^ (sgN c - 1) * (if near = true ∨ sgN c = 0 ∨ sgN d = 0 then 0 else 1) + 2 ^ sgN c * mkN d) = lnk c d near := by
  have e0 : sgN [] = 0 := rfl
  have m0 : mkN [] = 0 := rfl
  by_cases c0 : c = []
  · subst c0
    rw [lnk_nil_left, e0, m0]
    simp [smk_mkN hd]
  · by_cases d0 : d = []
    · subst d0
      rw [lnk_nil_right, e0, m0]
      simp [smk_mkN hc]
    · have := smk_lnk hc hd c0 d0 near
      have h1 := sum_len hc
      have h2 := sum_len hd
      have l1 : 0 < c.length := List.length_pos_iff.2 c0
      have l2 : 0 < d.length := List.length_pos_iff.2 d0
      have g1 : ¬ sgN c = 0 := by unfold sgN; omega
      have g2 : ¬ sgN d = 0 := by unfold sgN; omega
      simp only [g1, g2, or_false]
      exact this
def finF (c d : List Int) : Bool := vsm c && vsm d && (decide (sgN c = sgN d) && decide (mkN c &&& mkN d = mkN d))
theorem finF_no {c d : List Int} (h : (vsm c && vsm d) = false) : finF c d = false := by unfold finF; rw [h]; rfl
theorem finF_yes {c d : List Int} (h : vsm c = true) (h2 : vsm d = true) : finF c d = (decide (sgN c = sgN d) && decide (mkN c &&& mkN d = mkN d)) := by unfold finF; rw [h, h2]; rfl
theorem pow16 {n : Nat} (h : n ≤ 16) : 2 ^ (n - 1) ≤ 32768 := by
  have : (2 : Nat) ^ (n - 1) ≤ 2 ^ 15 := Nat.pow_le_pow_right (by omega) (by omega)
  omega
theorem mkN_16 {L : List Int} (h : vsm L = true) : mkN L < 32768 := by
  have h1 := mkN_lt (vsm_iff.1 h).1
  have h2 := vsm_bd h
  have := pow16 (n := sgN L) (by unfold sgN; omega)
  omega
theorem smM_16 (L : List Int) : smM L < 32768 := by
  have h1 := smM_lt L
  have := pow16 (smS_le L)
  omega
end NP
end Go.Proofs.Ytcjnmconehfbgaa
