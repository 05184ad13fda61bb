/-
  Walks: the model's functions of summands.
-/
import Derived.Test.YtgbkaahmmpgjfaaW63
import Derived.Test.YtgbkaahmmpgjfaaM34
namespace Go.Proofs.Ytgbkaahmmpgjfaa
open Go.RowKit NP
set_option linter.unusedVariables false
theorem vsm_sumFits {L : List Int} (h : vsm L = true) : sumFits L := fun k hk => by have := vsm_bd (vsm_take h k); omega
/-- each of the first k is in 1 .. 16 -/
def preV (L : List Int) (k : Nat) : Prop := ∀ j (h : j < L.length), j < k → 1 ≤ L[j] ∧ L[j] ≤ 16
theorem preV_succ {L : List Int} {k : Nat} (hk : k < L.length) (h : preV L k) (h1 : 1 ≤ L[k]) (h2 : L[k] ≤ 16) : preV L (k + 1) := by
  intro j hj hjk
  rcases Nat.lt_or_ge j k with hlt | hge
  · exact h j hj hlt
  · obtain rfl : j = k := by omega
    exact ⟨h1, h2⟩
theorem preV_pos {L : List Int} (h : preV L L.length) : ∀ x ∈ L, 1 ≤ x := by
  intro x hx
  obtain ⟨j, hj, rfl⟩ := List.getElem_of_mem hx
  exact (h j hj hj).1
theorem preV_sum {L : List Int} (h : preV L L.length) : ∀ k, k ≤ L.length → 0 ≤ sumL (L.take k) ∧ sumL (L.take k) ≤ 16 * k := by
  intro k
  induction k with
  | zero => intro _; simp [sumL]
  | succ k ih =>
    intro hk
    have := ih (by omega)
    have h1 := h k (by omega) (by omega)
    rw [sumL_take_succ L k (by omega)]
    omega
theorem vsm_of {L : List Int} (h : preV L L.length) : vsm L = decide (sumL L ≤ 16) := by
  rw [Bool.eq_iff_iff, vsm_iff, decide_eq_true_eq]
  exact ⟨fun h => h.2, fun h2 => ⟨preV_pos h, h2⟩⟩
theorem vsm_not_at {L : List Int} {k : Nat} (hk : k < L.length) (h : ¬ (1 ≤ L[k] ∧ L[k] ≤ 16)) : vsm L = false := by
  cases hv : vsm L with
  | false => rfl
  | true =>
    have h1 := vsm_bd (vsm_take hv k)
    have h2 := vsm_bd (vsm_take hv (k + 1))
    rw [sumL_take_succ L k hk] at h2
    exact absurd ⟨(vsm_iff.1 hv).1 _ (List.getElem_mem hk), by omega⟩ h
theorem validSums_any (a : Option Addr) (c B : Nat) (L : List Int) (w : World) (h : Rd w B a (ints L)) (hl : L.length ≤ 4611686018427387904) :
    Calls Try.prog 57 #[.slice a L.length c] w fun e w' => e = .returned (.bool (vsm L)) ∧ w = w' := by
  go_enter Try.func57, Try.ntmps57
  go_wp2
  go_loop [3] (fun i => ∃ k : Nat, k ≤ L.length ∧ i = .int .i64 k ∧ preV L k) (fun i => L.length - (intOf i).toNat)
  case atStart => exact ⟨0, Nat.zero_le _, rfl, fun j _ h => by omega⟩
  case round =>
    obtain ⟨k, hk, rfl, hpre⟩ := hrel
    by_cases hlt : k < L.length
    · obtain ⟨b, o, rfl, hB, hc⟩ := h.at_ hlt
      have HS := Lib.hid (preV_succ hlt hpre)
      clear hpre
      by_cases h12 : 1 ≤ L[k] ∧ L[k] ≤ 16
      · obtain ⟨h1, h2⟩ := h12
        go_wp2_with (go_at_call 69; refine (inRange_yes _ _ _ _ h1 h2).mono ?_; rintro e w' ⟨rfl, rfl⟩)
        go_round
        case rel => exact ⟨k + 1, by omega, by go_num, HS.out h1 h2⟩
        case measure => simp [intOf] <;> omega
      · have HV := Lib.hid (vsm_not_at hlt h12)
        have H12 : Hid (L[k] < 1 ∨ 16 < L[k]) := Lib.hid (by omega)
        clear h12
        go_wp2_with (go_at_call 69; refine (inRange_no _ _ _ _ H12.out).mono ?_; rintro e w' ⟨rfl, rfl⟩)
        go_ret
        exact ⟨ret_bool HV.out.symm, rfl⟩
    · obtain rfl : k = L.length := by omega
      have hfit : sumFits L ∨ ¬ L.length ≤ 16 := by
        by_cases h16 : L.length ≤ 16
        · exact .inl fun j hj => by have := preV_sum hpre j hj; omega
        · exact .inr h16
      have HV := Lib.hid (vsm_of hpre)
      have HL : Hid (¬ L.length ≤ 16 → vsm L = false) := Lib.hid (fun hh => by
        cases hv : vsm L with
        | false => rfl
        | true => exact absurd (vsm_bd hv).2.2.2 hh)
      clear hpre
      by_cases hlen : L.length ≤ 16
      · have hf : sumFits L := hfit.elim id (fun hh => absurd hlen hh)
        clear hfit
        go_wp2_with (go_at_call 70; refine (sum_any _ _ B L _ h hf (by omega)).mono ?_; rintro e w' ⟨rfl, rfl⟩)
        go_ret
        exact ⟨ret_bool HV.out.symm, rfl⟩
      · clear hfit
        go_wp2_with fail
        go_ret
        exact ⟨ret_bool (HL.out hlen).symm, rfl⟩
theorem sValidSums_any (a : Option Addr) (c B : Nat) (L : List Int) (w : World) (h : Rd w B a (ints L)) (hl : L.length ≤ 4611686018427387904) :
    Calls Try.prog 39 #[.slice a L.length c] w fun e w' => e = .returned (.bool (vsm L)) ∧ w = w' := by
  go_enter Try.func39, Try.ntmps39
  go_wp2_with (go_at_call 57; refine (validSums_any _ _ B L _ h hl).mono ?_; rintro e w' ⟨rfl, rfl⟩)
  go_ret
  exact ⟨rfl, rfl⟩
end Go.Proofs.Ytgbkaahmmpgjfaa
