/-
  Walks: the program's functions of summands.
-/
import Derived.Test.YtcjnmconehfbgaaW66
import Derived.Test.YtcjnmconehfbgaaM34
namespace Go.Proofs.Ytcjnmconehfbgaa
open Go.RowKit NP
set_option maxRecDepth 8000
set_option linter.unusedVariables false
theorem iMaskOf_any (a : Option Addr) (c B : Nat) (L : List Int) (w : World) (h : Rd w B a (ints L)) (hB : B ≤ w.heap.size) (hl : L.length ≤ 4611686018427387904) :
    Calls Try.prog 46 #[.slice a L.length c] w fun e w' => e = .returned (.int .i64 (mkF L)) ∧ Below w.heap.size w w' := by
  cases hv : vsm L with
  | true =>
    have HF := Lib.hid (mkF_yes hv)
    have HM := Lib.hid (smM_yes hv)
    have HV := Lib.hid hv
    clear hv
    go_enter Try.func46, Try.ntmps46
    go_wp2_with (go_at_call 71; refine (summandsOf_any _ _ B L _ h hB hl).mono ?_; rintro e w1 ⟨rfl, hb1⟩; rw [HV.out])
    go_ret
    exact ⟨ret_i64 (by rw [HF.out, HM.out]), hb1.alloc hb1.size _⟩
  | false =>
    have HF := Lib.hid (mkF_no hv)
    have HV := Lib.hid hv
    clear hv
    go_enter Try.func46, Try.ntmps46
    go_wp2_with (go_at_call 71; refine (summandsOf_any _ _ B L _ h hB hl).mono ?_; rintro e w1 ⟨rfl, hb1⟩; rw [HV.out])
    go_ret
    exact ⟨ret_i64 HF.out.symm, hb1.alloc hb1.size _⟩
theorem iSumsOfMask_any (n m : Int) (w : World) :
    Calls Try.prog 44 #[.int .i64 n, .int .i64 m] w fun e w' => ∃ a' c', e = .returned (.tuple #[.slice a' (smkF n m).length c', .bool (smOk n m)]) ∧ Own w' w.heap.size w'.heap.size 3 (.slice a' (smkF n m).length c') (ints (smkF n m)) ∧ Below w.heap.size w w' := by
  cases hv : smOk n m with
  | true =>
    have h := smOk_iff.1 hv
    have HF := Lib.hid (smkF_yes hv)
    obtain ⟨N, rfl⟩ := Int.eq_ofNat_of_zero_le h.1
    obtain ⟨M, rfl⟩ := Int.eq_ofNat_of_zero_le h.2.2.1
    obtain ⟨-, h2, -, h4⟩ := h
    have hN : N ≤ 16 := by omega
    have hM := fun w => masksOf_any N w hN
    simp only [Int.toNat_natCast] at h4 HF
    obtain ⟨p, hp⟩ : ∃ p, p = 2 ^ (N - 1) := ⟨_, rfl⟩
    rw [← hp] at h4
    simp only [← hp] at hM
    have HM := Lib.hid hM
    have h4' : M < p := by omega
    clear hM hp hv h4
    go_enter Try.func44, Try.ntmps44
    go_wp2_with (first | (go_at_call 68; refine (HM.out _).mono ?_; rintro e w' ⟨rfl, rfl⟩) | (go_at_call 69; refine (smlist_any N M _ hN).mono ?_; rintro e w1 ⟨a', c', rfl, ho, hb⟩))
    go_ret2
    rw [HF.out]
    exact ⟨a', c', rfl, ho, hb⟩
  | false =>
    have HF := Lib.hid (smkF_no hv)
    by_cases h1 : n < 0
    · go_enter Try.func44, Try.ntmps44
      go_wp2
      go_ret2
      rw [HF.out]
      exact ⟨none, 0, rfl, Own.nil _ _ _, Below.refl _ _⟩
    · by_cases h2 : 16 < n
      · go_enter Try.func44, Try.ntmps44
        go_wp2
        go_ret2
        rw [HF.out]
        exact ⟨none, 0, rfl, Own.nil _ _ _, Below.refl _ _⟩
      · by_cases h3 : m < 0
        · go_enter Try.func44, Try.ntmps44
          go_wp2
          go_ret2
          rw [HF.out]
          exact ⟨none, 0, rfl, Own.nil _ _ _, Below.refl _ _⟩
        · obtain ⟨N, rfl⟩ := Int.eq_ofNat_of_zero_le (show 0 ≤ n by omega)
          obtain ⟨M, rfl⟩ := Int.eq_ofNat_of_zero_le (show 0 ≤ m by omega)
          have hN : N ≤ 16 := by omega
          have h4 : 2 ^ (N - 1) ≤ M := by
            have hn : ¬ (smOk N M = true) := by rw [hv]; decide
            rw [smOk_iff] at hn
            simp only [Int.toNat_natCast] at hn
            omega
          have hM := fun w => masksOf_any N w hN
          obtain ⟨p, hp⟩ : ∃ p, p = 2 ^ (N - 1) := ⟨_, rfl⟩
          rw [← hp] at h4
          simp only [← hp] at hM
          have HM := Lib.hid hM
          clear hM hp hv h1 h3
          go_enter Try.func44, Try.ntmps44
          go_wp2_with (go_at_call 68; refine (HM.out _).mono ?_; rintro e w' ⟨rfl, rfl⟩)
          go_ret2
          rw [HF.out]
          exact ⟨none, 0, rfl, Own.nil _ _ _, Below.refl _ _⟩
end Go.Proofs.Ytcjnmconehfbgaa
