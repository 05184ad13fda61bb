/-
  Walks: CountParts, AtMostParts, JustParts of the model and of the program.
-/
import Derived.Test.YtmdalnkjpbjcdaaC1
namespace Go.Proofs.Ytmdalnkjpbjcdaa
open Go.RowKit NP
set_option linter.unusedVariables false

theorem cpF_in {n : Int} (h : 0 ≤ n ∧ n ≤ 40) : cpF n = ctZ n n := by unfold cpF; rw [if_pos h]
theorem cpF_out {n : Int} (h : ¬ (0 ≤ n ∧ n ≤ 40)) : cpF n = -1 := by unfold cpF; rw [if_neg h]
theorem amF_in {n k : Int} (h : 0 ≤ n ∧ n ≤ 40) (h2 : 0 ≤ k ∧ k ≤ 40) : amF n k = ctZ n k := by unfold amF; rw [if_pos ⟨h, h2⟩]
theorem amF_out {n k : Int} (h : ¬ ((0 ≤ n ∧ n ≤ 40) ∧ (0 ≤ k ∧ k ≤ 40))) : amF n k = -1 := by unfold amF; rw [if_neg h]
theorem jpF_in {n k : Int} (h : 0 ≤ n ∧ n ≤ 40) (h2 : 0 ≤ k ∧ k ≤ 40) : jpF n k = ctZ (n - k) k := by unfold jpF; rw [if_pos ⟨h, h2⟩]
theorem jpF_out {n k : Int} (h : ¬ ((0 ≤ n ∧ n ≤ 40) ∧ (0 ≤ k ∧ k ≤ 40))) : jpF n k = -1 := by unfold jpF; rw [if_neg h]

theorem sCountParts_any (n : Int) (w : World) :
    Calls Try.prog 15 #[.int .i64 n] w fun e w' => e = .returned (.int .i64 (cpF n)) ∧ w = w' := by
  by_cases h : 0 ≤ n ∧ n ≤ 40
  · rw [cpF_in h]
    obtain ⟨h1, h2⟩ := h
    go_enter Try.func15, Try.ntmps15
    go_wp2_with (first | (go_at_call 37; refine (rngYes _ _ _ _ h1 h2).mono ?_; rintro e w1 ⟨rfl, rfl⟩) | (go_at_call 38; refine (countTo_at _ _ _ (by omega) h2 h1 h2).mono ?_; rintro e w1 ⟨rfl, rfl⟩))
    go_ret
    exact ⟨rfl, rfl⟩
  · rw [cpF_out h]
    have H := Lib.hid (by omega : n < 0 ∨ 40 < n)
    clear h
    go_enter Try.func15, Try.ntmps15
    go_wp2_with (go_at_call 37; refine (rngNo _ _ _ _ H.out).mono ?_; rintro e w1 ⟨rfl, rfl⟩)
    go_ret
    exact ⟨rfl, rfl⟩

theorem iCountParts_any (n : Int) (w : World) :
    Calls Try.prog 16 #[.int .i64 n] w fun e w' => e = .returned (.int .i64 (cpF n)) ∧ Below w.heap.size w w' := by
  by_cases h : 0 ≤ n ∧ n ≤ 40
  · rw [cpF_in h]
    obtain ⟨k, rfl⟩ := Int.eq_ofNat_of_zero_le h.1
    have hk : k ≤ 40 := by omega
    have hk41 : k < (crow k).length := by rw [crow_len]; omega
    have hix := T_index41 (crow k) k hk41 (by omega)
    rw [crow_get, ← ctZ_nat] at hix
    have g1 : decide ((k : Int) < 0) = false := decide_eq_false (by omega)
    have g2 : decide (40 < k) = false := decide_eq_false (by omega)
    clear h
    go_enter Try.func16, Try.ntmps16
    go_wp2_with (go_at_call 39; refine (countsUpTo_any k hk _).mono ?_; rintro e w1 ⟨rfl, hb⟩)
    go_ret
    exact ⟨rfl, hb⟩
  · rw [cpF_out h]
    by_cases h1 : n < 0
    · have g1 : decide (n < 0) = true := decide_eq_true h1
      clear h h1
      go_enter Try.func16, Try.ntmps16
      go_wp2
      go_ret
      exact ⟨rfl, Below.refl _ _⟩
    · have g1 : decide (n < 0) = false := decide_eq_false h1
      have g2 : decide (40 < n) = true := decide_eq_true (by omega)
      clear h h1
      go_enter Try.func16, Try.ntmps16
      go_wp2
      go_ret
      exact ⟨rfl, Below.refl _ _⟩

theorem sAtMostParts_any (n k : Int) (w : World) :
    Calls Try.prog 19 #[.int .i64 n, .int .i64 k] w fun e w' => e = .returned (.int .i64 (amF n k)) ∧ w = w' := by
  by_cases h : 0 ≤ n ∧ n ≤ 40
  · have e1 : inR n 0 40 = true := by unfold inR; rw [decide_eq_true h.1, decide_eq_true h.2]; rfl
    have E1 := Lib.hid e1
    clear e1
    by_cases h2 : 0 ≤ k ∧ k ≤ 40
    · rw [amF_in h h2]
      have e2 : inR k 0 40 = true := by unfold inR; rw [decide_eq_true h2.1, decide_eq_true h2.2]; rfl
      have E2 := Lib.hid e2
      clear e2
      obtain ⟨h1, h2'⟩ := h
      obtain ⟨h3, h4⟩ := h2
      go_enter Try.func19, Try.ntmps19
      go_wp2_with fail
      refine (inRange_any _ _ _ _).mono ?_
      rintro e w1 ⟨rfl, rfl⟩
      rw [E1.out]
      go_wp2_with fail
      refine (inRange_any _ _ _ _).mono ?_
      rintro e w1 ⟨rfl, rfl⟩
      rw [E2.out]
      go_wp2_with fail
      refine (countTo_at _ _ _ (by omega) h2' h3 h4).mono ?_
      rintro e w1 ⟨rfl, rfl⟩
      go_wp2_with fail
      go_ret
      exact ⟨rfl, rfl⟩
    · rw [amF_out (by omega)]
      have H := Lib.hid (by omega : k < 0 ∨ 40 < k)
      clear h h2
      go_enter Try.func19, Try.ntmps19
      go_wp2_with fail
      refine (inRange_any _ _ _ _).mono ?_
      rintro e w1 ⟨rfl, rfl⟩
      rw [E1.out]
      go_wp2_with fail
      refine (rngNo _ _ _ _ H.out).mono ?_
      rintro e w1 ⟨rfl, rfl⟩
      go_wp2_with fail
      go_ret
      exact ⟨rfl, rfl⟩
  · rw [amF_out (by omega)]
    have H := Lib.hid (by omega : n < 0 ∨ 40 < n)
    clear h
    go_enter Try.func19, Try.ntmps19
    go_wp2_with fail
    refine (rngNo _ _ _ _ H.out).mono ?_
    rintro e w1 ⟨rfl, rfl⟩
    go_wp2_with fail
    go_ret
    exact ⟨rfl, rfl⟩

theorem iAtMostParts_any (n k : Int) (w : World) :
    Calls Try.prog 20 #[.int .i64 n, .int .i64 k] w fun e w' => e = .returned (.int .i64 (amF n k)) ∧ Below w.heap.size w w' := by
  by_cases h : (0 ≤ n ∧ n ≤ 40) ∧ (0 ≤ k ∧ k ≤ 40)
  · rw [amF_in h.1 h.2]
    obtain ⟨m, rfl⟩ := Int.eq_ofNat_of_zero_le h.1.1
    obtain ⟨j, rfl⟩ := Int.eq_ofNat_of_zero_le h.2.1
    have hm : m ≤ 40 := by omega
    have hj : j ≤ 40 := by omega
    have hk41 : m < (crow j).length := by rw [crow_len]; omega
    have hix := T_index41 (crow j) m hk41 (by omega)
    rw [crow_get, ← ctZ_nat] at hix
    have g1 : decide ((m : Int) < 0) = false := decide_eq_false (by omega)
    have g2 : decide (40 < m) = false := decide_eq_false (by omega)
    have g3 : decide ((j : Int) < 0) = false := decide_eq_false (by omega)
    have g4 : decide (40 < j) = false := decide_eq_false (by omega)
    clear h
    go_enter Try.func20, Try.ntmps20
    go_wp2_with (go_at_call 39; refine (countsUpTo_any j hj _).mono ?_; rintro e w1 ⟨rfl, hb⟩)
    go_ret
    exact ⟨rfl, hb⟩
  · rw [amF_out h]
    by_cases h1 : n < 0
    · have g1 : decide (n < 0) = true := decide_eq_true h1
      clear h h1
      go_enter Try.func20, Try.ntmps20
      go_wp2
      go_ret
      exact ⟨rfl, Below.refl _ _⟩
    · have g1 : decide (n < 0) = false := decide_eq_false h1
      by_cases h2 : 40 < n
      · have g2 : decide (40 < n) = true := decide_eq_true h2
        clear h h1 h2
        go_enter Try.func20, Try.ntmps20
        go_wp2
        go_ret
        exact ⟨rfl, Below.refl _ _⟩
      · have g2 : decide (40 < n) = false := decide_eq_false h2
        by_cases h3 : k < 0
        · have g3 : decide (k < 0) = true := decide_eq_true h3
          clear h h1 h2 h3
          go_enter Try.func20, Try.ntmps20
          go_wp2
          go_ret
          exact ⟨rfl, Below.refl _ _⟩
        · have g3 : decide (k < 0) = false := decide_eq_false h3
          have g4 : decide (40 < k) = true := decide_eq_true (by omega)
          clear h h1 h2 h3
          go_enter Try.func20, Try.ntmps20
          go_wp2
          go_ret
          exact ⟨rfl, Below.refl _ _⟩

theorem sJustParts_any (n k : Int) (w : World) :
    Calls Try.prog 23 #[.int .i64 n, .int .i64 k] w fun e w' => e = .returned (.int .i64 (jpF n k)) ∧ w = w' := by
  by_cases h : 0 ≤ n ∧ n ≤ 40
  · have e1 : inR n 0 40 = true := by unfold inR; rw [decide_eq_true h.1, decide_eq_true h.2]; rfl
    have E1 := Lib.hid e1
    clear e1
    by_cases h2 : 0 ≤ k ∧ k ≤ 40
    · rw [jpF_in h h2]
      have e2 : inR k 0 40 = true := by unfold inR; rw [decide_eq_true h2.1, decide_eq_true h2.2]; rfl
      have E2 := Lib.hid e2
      clear e2
      obtain ⟨h1, h2'⟩ := h
      obtain ⟨h3, h4⟩ := h2
      by_cases h0 : k = 0
      · subst h0
        have HE : Hid (ctZ (n - 0) 0 = ctZ n 0) := Lib.hid (by rw [Int.sub_zero])
        rw [HE.out]
        go_enter Try.func23, Try.ntmps23
        go_wp2_with fail
        refine (inRange_any _ _ _ _).mono ?_
        rintro e w1 ⟨rfl, rfl⟩
        rw [E1.out]
        go_wp2_with fail
        refine (inRange_any _ _ _ _).mono ?_
        rintro e w1 ⟨rfl, rfl⟩
        rw [E2.out]
        go_wp2_with fail
        refine (countTo_at _ _ _ (by omega) h2' (by omega) (by omega)).mono ?_
        rintro e w1 ⟨rfl, rfl⟩
        go_wp2_with fail
        go_ret
        exact ⟨rfl, rfl⟩
      · have e0 : (k == 0) = false := beq_eq_false_iff_ne.2 h0
        have HS := Lib.hid (jp_spec n k h1 (by omega))
        have b1 := ctZ_bd n k h2'
        have b2 := ctZ_bd n (k - 1) h2'
        have hk1 : 1 ≤ k := by omega
        clear h0
        go_enter Try.func23, Try.ntmps23
        go_wp2_with fail
        refine (inRange_any _ _ _ _).mono ?_
        rintro e w1 ⟨rfl, rfl⟩
        rw [E1.out]
        go_wp2_with fail
        refine (inRange_any _ _ _ _).mono ?_
        rintro e w1 ⟨rfl, rfl⟩
        rw [E2.out]
        go_wp2_with fail
        refine (countTo_at _ _ _ (by omega) h2' h3 h4).mono ?_
        rintro e w1 ⟨rfl, rfl⟩
        go_wp2_with fail
        refine (countTo_at _ _ _ (by omega) h2' (by omega) (by omega)).mono ?_
        rintro e w1 ⟨rfl, rfl⟩
        go_wp2_with fail
        go_ret
        exact ⟨ret_i64 HS.out, rfl⟩
    · rw [jpF_out (by omega)]
      have H := Lib.hid (by omega : k < 0 ∨ 40 < k)
      clear h h2
      go_enter Try.func23, Try.ntmps23
      go_wp2_with fail
      refine (inRange_any _ _ _ _).mono ?_
      rintro e w1 ⟨rfl, rfl⟩
      rw [E1.out]
      go_wp2_with fail
      refine (rngNo _ _ _ _ H.out).mono ?_
      rintro e w1 ⟨rfl, rfl⟩
      go_wp2_with fail
      go_ret
      exact ⟨rfl, rfl⟩
  · rw [jpF_out (by omega)]
    have H := Lib.hid (by omega : n < 0 ∨ 40 < n)
    clear h
    go_enter Try.func23, Try.ntmps23
    go_wp2_with fail
    refine (rngNo _ _ _ _ H.out).mono ?_
    rintro e w1 ⟨rfl, rfl⟩
    go_wp2_with fail
    go_ret
    exact ⟨rfl, rfl⟩

theorem iJustParts_any (n k : Int) (w : World) :
    Calls Try.prog 22 #[.int .i64 n, .int .i64 k] w fun e w' => e = .returned (.int .i64 (jpF n k)) ∧ Below w.heap.size w w' := by
  by_cases h : (0 ≤ n ∧ n ≤ 40) ∧ (0 ≤ k ∧ k ≤ 40)
  · rw [jpF_in h.1 h.2]
    have g1 : decide (n < 0) = false := decide_eq_false (by omega)
    have g2 : decide (40 < n) = false := decide_eq_false (by omega)
    have g3 : decide (k < 0) = false := decide_eq_false (by omega)
    have g4 : decide (40 < k) = false := decide_eq_false (by omega)
    obtain ⟨⟨h1, h2⟩, h3, h4⟩ := h
    by_cases hc : n < k
    · have HZ := Lib.hid (ctZ_neg (n - k) k (by omega))
      rw [HZ.out]
      have g5 : decide (n < k) = true := decide_eq_true hc
      clear hc
      go_enter Try.func22, Try.ntmps22
      go_wp2
      go_ret
      exact ⟨rfl, Below.refl _ _⟩
    · have g5 : decide (n < k) = false := decide_eq_false hc
      have HA := Lib.hid (amF_in (n := n - k) (k := k) ⟨by omega, by omega⟩ ⟨h3, h4⟩)
      have hc' : k ≤ n := by omega
      clear hc
      go_enter Try.func22, Try.ntmps22
      go_wp2_with fail
      refine (iAtMostParts_any _ _ _).mono ?_
      rintro e w1 ⟨rfl, hb⟩
      rw [HA.out]
      go_wp2_with fail
      go_ret
      exact ⟨rfl, hb⟩
  · rw [jpF_out h]
    by_cases h1 : n < 0
    · have g1 : decide (n < 0) = true := decide_eq_true h1
      clear h h1
      go_enter Try.func22, Try.ntmps22
      go_wp2
      go_ret
      exact ⟨rfl, Below.refl _ _⟩
    · have g1 : decide (n < 0) = false := decide_eq_false h1
      by_cases h2 : 40 < n
      · have g2 : decide (40 < n) = true := decide_eq_true h2
        clear h h1 h2
        go_enter Try.func22, Try.ntmps22
        go_wp2
        go_ret
        exact ⟨rfl, Below.refl _ _⟩
      · have g2 : decide (40 < n) = false := decide_eq_false h2
        by_cases h3 : k < 0
        · have g3 : decide (k < 0) = true := decide_eq_true h3
          clear h h1 h2 h3
          go_enter Try.func22, Try.ntmps22
          go_wp2
          go_ret
          exact ⟨rfl, Below.refl _ _⟩
        · have g3 : decide (k < 0) = false := decide_eq_false h3
          have g4 : decide (40 < k) = true := decide_eq_true (by omega)
          clear h h1 h2 h3
          go_enter Try.func22, Try.ntmps22
          go_wp2
          go_ret
          exact ⟨rfl, Below.refl _ _⟩
end Go.Proofs.Ytmdalnkjpbjcdaa
