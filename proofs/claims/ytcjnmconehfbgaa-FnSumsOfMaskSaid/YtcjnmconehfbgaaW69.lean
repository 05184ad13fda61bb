/-
  Walks: the model's functions of summands that answer lists, and FinerSums.
-/
import Derived.Test.YtcjnmconehfbgaaW68
import Derived.Test.YtcjnmconehfbgaaW64
namespace Go.Proofs.Ytcjnmconehfbgaa
open Go.RowKit NP
set_option maxRecDepth 8000
set_option linter.unusedVariables false
set_option maxHeartbeats 1600000 in
theorem sSumsOfMask_any (n m : Int) (w : World) :
    Calls Try.prog 45 #[.int .i64 n, .int .i64 m] w fun e w' => ∃ a' c', e = .returned (.tuple #[.slice a' (smkF n m).length c', .bool (smOk n m)]) ∧ Own w' w.heap.size w'.heap.size 3 (.slice a' (smkF n m).length c') (ints (smkF n m)) ∧ Below w.heap.size w w' := by
  by_cases hr : 0 ≤ n ∧ n ≤ 16
  · obtain ⟨h1, h2⟩ := hr
    obtain ⟨N, rfl⟩ := Int.eq_ofNat_of_zero_le h1
    have hN : N ≤ 16 := by omega
    have hp := pow16 hN
    have h0 := Nat.two_pow_pos (N - 1)
    cases hv : smOk N m with
    | true =>
      have h := smOk_iff.1 hv
      have HF := Lib.hid (smkF_yes hv)
      obtain ⟨M, rfl⟩ := Int.eq_ofNat_of_zero_le h.2.2.1
      obtain ⟨-, -, -, h4⟩ := h
      simp only [Int.toNat_natCast] at h4 HF
      have hM16 : M ≤ 65536 := by omega
      by_cases hz : N = 0
      · subst hz
        have hM0 : M = 0 := by simp at h4; omega
        subst hM0
        clear hv hp h0 h4 h1
        go_enter Try.func45, Try.ntmps45
        go_wp2_with (first | (go_at_call 67; refine (power_any 0 _ (by omega)).mono ?_; rintro e w' ⟨rfl, rfl⟩) | (go_at_call 70; refine (sums_any 0 0 _ (by omega) (by omega)).mono ?_; rintro e w1 ⟨a', c', rfl, ho, hb⟩) | (go_at_call 47; refine (inRange_yes _ _ _ _ (by first | omega | decide) (by first | omega | decide)).mono ?_; rintro e w' ⟨rfl, rfl⟩))
        go_ret2
        rw [HF.out]
        exact ⟨a', c', rfl, ho, hb⟩
      · obtain ⟨j, rfl⟩ : ∃ j, N = j + 1 := ⟨N - 1, by omega⟩
        rw [Nat.add_sub_cancel] at h4 hp h0
        obtain ⟨p, hpp⟩ : ∃ p, p = 2 ^ j := ⟨_, rfl⟩
        have HP := Lib.hid (fun w => power_any j w (by omega))
        rw [← hpp] at h4 hp h0 HP
        clear hv hz hpp h1
        have hMp : (M : Int) ≤ (p : Int) - 1 := by omega
        go_enter Try.func45, Try.ntmps45
        go_wp2_with (first | (go_at_call 67; refine (HP.out _).mono ?_; rintro e w' ⟨rfl, rfl⟩) | (go_at_call 70; refine (sums_any (j + 1) M _ hN hM16).mono ?_; rintro e w1 ⟨a', c', rfl, ho, hb⟩) | (go_at_call 47; refine (inRange_yes _ _ _ _ (by first | omega | decide) (by first | omega | decide)).mono ?_; rintro e w' ⟨rfl, rfl⟩))
        go_ret2
        rw [HF.out]
        exact ⟨a', c', rfl, ho, hb⟩
    | false =>
      have HF := Lib.hid (smkF_no hv)
      have hn : ¬ (0 ≤ m ∧ m < ((2 ^ (N - 1) : Nat) : Int)) := by
        intro hh
        have hn : ¬ (smOk N m = true) := by rw [hv]; decide
        rw [smOk_iff] at hn
        simp only [Int.toNat_natCast] at hn
        omega
      by_cases hz : N = 0
      · subst hz
        have HNO : Hid (m < 0 ∨ (0 : Int) < m) := Lib.hid (by simp at hn; omega)
        clear hv hp h0 hn h1
        go_enter Try.func45, Try.ntmps45
        go_wp2_with (first | (go_at_call 67; refine (power_any 0 _ (by omega)).mono ?_; rintro e w' ⟨rfl, rfl⟩) | (go_at_call 47; (with_reducible refine (inRange_no _ _ _ _ HNO.out).mono ?_); rintro e w' ⟨rfl, rfl⟩) | (go_at_call 47; refine (inRange_yes _ _ _ _ (by first | omega | decide) (by first | omega | decide)).mono ?_; rintro e w' ⟨rfl, rfl⟩))
        go_ret2
        rw [HF.out]
        exact ⟨none, 0, rfl, Own.nil _ _ _, Below.refl _ _⟩
      · obtain ⟨j, rfl⟩ : ∃ j, N = j + 1 := ⟨N - 1, by omega⟩
        rw [Nat.add_sub_cancel] at hn hp h0
        obtain ⟨p, hpp⟩ : ∃ p, p = 2 ^ j := ⟨_, rfl⟩
        have HP := Lib.hid (fun w => power_any j w (by omega))
        rw [← hpp] at hn hp h0 HP
        have HNO : Hid (m < 0 ∨ (p : Int) - 1 < m) := Lib.hid (by omega)
        clear hv hz hpp h1 hn
        go_enter Try.func45, Try.ntmps45
        go_wp2_with (first | (go_at_call 67; refine (HP.out _).mono ?_; rintro e w' ⟨rfl, rfl⟩) | (go_at_call 47; (with_reducible refine (inRange_no _ _ _ _ HNO.out).mono ?_); rintro e w' ⟨rfl, rfl⟩) | (go_at_call 47; refine (inRange_yes _ _ _ _ (by first | omega | decide) (by first | omega | decide)).mono ?_; rintro e w' ⟨rfl, rfl⟩))
        go_ret2
        rw [HF.out]
        exact ⟨none, 0, rfl, Own.nil _ _ _, Below.refl _ _⟩
  · have hv : smOk n m = false := by
      cases hh : smOk n m with
      | false => rfl
      | true => exact absurd ⟨(smOk_iff.1 hh).1, (smOk_iff.1 hh).2.1⟩ hr
    have HF := Lib.hid (smkF_no hv)
    have HV := Lib.hid hv
    have HNO : Hid (n < 0 ∨ 16 < n) := Lib.hid (by omega)
    clear hr hv
    go_enter Try.func45, Try.ntmps45
    go_wp2_with (go_at_call 47; (with_reducible refine (inRange_no _ _ _ _ HNO.out).mono ?_); rintro e w' ⟨rfl, rfl⟩)
    go_ret2
    rw [HF.out, HV.out]
    exact ⟨none, 0, rfl, Own.nil _ _ _, Below.refl _ _⟩
end Go.Proofs.Ytcjnmconehfbgaa
