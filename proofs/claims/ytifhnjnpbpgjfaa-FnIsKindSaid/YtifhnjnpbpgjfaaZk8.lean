/-
  Walks: CountParts, AtMostParts, JustParts of the model and of the program. Walks: SquareSum, SelfCount, DivisorSum, Pentagonal of the model and of the program. Walks: withOnce of the program, SignedDistinct of the model and of the program. Walks: parts of a set, of the program and of the model. Walks of the program: the parts of a kind, and how many they are. Walks: the draws of numbers: CountParts, AtMostParts, JustParts, DivisorSum, Pentagonal, SignedDistinct. Walks: parts of a set, of the model.
-/
import Derived.Test.YtifhnjnpbpgjfaaZk1
import Derived.Test.YtifhnjnpbpgjfaaZk2
import Derived.Test.YtifhnjnpbpgjfaaZk3
import Derived.Test.YtifhnjnpbpgjfaaZk4
import Derived.Test.YtifhnjnpbpgjfaaZk5
import Derived.Test.YtifhnjnpbpgjfaaZk6
import Derived.Test.YtifhnjnpbpgjfaaZk7
namespace Go.Proofs.Ytifhnjnpbpgjfaa
open Go.RowKit NP
set_option maxRecDepth 8000
set_option linter.unusedVariables false

theorem cpF_in {n : Int} (h : 0 ≤ n ∧ n ≤ 40) : cpF n = ctZ n n := by unfold cpF; rw [if_pos h]
theorem cpF_out {n : Int} (h : ¬ (0 ≤ n ∧ n ≤ 40)) : cpF n = -1 := by unfold cpF; rw [if_neg h]
theorem amF_in {n k : Int} (h : 0 ≤ n ∧ n ≤ 40) (h2 : 0 ≤ k ∧ k ≤ 40) : amF n k = ctZ n k := by unfold amF; rw [if_pos ⟨h, h2⟩]
theorem amF_out {n k : Int} (h : ¬ ((0 ≤ n ∧ n ≤ 40) ∧ (0 ≤ k ∧ k ≤ 40))) : amF n k = -1 := by unfold amF; rw [if_neg h]
theorem jpF_in {n k : Int} (h : 0 ≤ n ∧ n ≤ 40) (h2 : 0 ≤ k ∧ k ≤ 40) : jpF n k = ctZ (n - k) k := by unfold jpF; rw [if_pos ⟨h, h2⟩]
theorem jpF_out {n k : Int} (h : ¬ ((0 ≤ n ∧ n ≤ 40) ∧ (0 ≤ k ∧ k ≤ 40))) : jpF n k = -1 := by unfold jpF; rw [if_neg h]




theorem iAtMostParts_any (n k : Int) (w : World) :
    Calls Try.prog 30 #[.int .i64 n, .int .i64 k] w fun e w' => e = .returned (.int .i64 (amF n k)) ∧ Below w.heap.size w w' := by
  by_cases h : (0 ≤ n ∧ n ≤ 40) ∧ (0 ≤ k ∧ k ≤ 40)
  · rw [amF_in h.1 h.2]
    obtain ⟨m, rfl⟩ := Int.eq_ofNat_of_zero_le h.1.1
    obtain ⟨j, rfl⟩ := Int.eq_ofNat_of_zero_le h.2.1
    have hm : m ≤ 40 := by omega
    have hj : j ≤ 40 := by omega
    have hk41 : m < (crow j).length := by rw [crow_len]; omega
    have hix := T_index41 (crow j) m hk41 (by omega)
    rw [crow_get, ← ctZ_nat] at hix
    have g1 : decide ((m : Int) < 0) = false := decide_eq_false (by omega)
    have g2 : decide (40 < m) = false := decide_eq_false (by omega)
    have g3 : decide ((j : Int) < 0) = false := decide_eq_false (by omega)
    have g4 : decide (40 < j) = false := decide_eq_false (by omega)
    clear h
    go_enter Try.func30, Try.ntmps30
    go_wp2_with (go_at_call 53; refine (countsUpTo_any j hj _).mono ?_; rintro e w1 ⟨rfl, hb⟩)
    go_ret
    exact ⟨rfl, hb⟩
  · rw [amF_out h]
    by_cases h1 : n < 0
    · have g1 : decide (n < 0) = true := decide_eq_true h1
      clear h h1
      go_enter Try.func30, Try.ntmps30
      go_wp2
      go_ret
      exact ⟨rfl, Below.refl _ _⟩
    · have g1 : decide (n < 0) = false := decide_eq_false h1
      by_cases h2 : 40 < n
      · have g2 : decide (40 < n) = true := decide_eq_true h2
        clear h h1 h2
        go_enter Try.func30, Try.ntmps30
        go_wp2
        go_ret
        exact ⟨rfl, Below.refl _ _⟩
      · have g2 : decide (40 < n) = false := decide_eq_false h2
        by_cases h3 : k < 0
        · have g3 : decide (k < 0) = true := decide_eq_true h3
          clear h h1 h2 h3
          go_enter Try.func30, Try.ntmps30
          go_wp2
          go_ret
          exact ⟨rfl, Below.refl _ _⟩
        · have g3 : decide (k < 0) = false := decide_eq_false h3
          have g4 : decide (40 < k) = true := decide_eq_true (by omega)
          clear h h1 h2 h3
          go_enter Try.func30, Try.ntmps30
          go_wp2
          go_ret
          exact ⟨rfl, Below.refl _ _⟩


end Go.Proofs.Ytifhnjnpbpgjfaa
namespace Go.Proofs.Ytifhnjnpbpgjfaa
open Go.RowKit NP
set_option maxRecDepth 8000
set_option linter.unusedVariables false

theorem same_below {P : Program} {f : FuncId} {args : Array Value} {w : World} {v : Value} (h : Calls P f args w fun e w' => e = .returned v ∧ w = w') : Calls P f args w fun e w' => e = .returned v ∧ Below w.heap.size w w' := h.mono fun _ _ ⟨a, b⟩ => ⟨a, b ▸ Below.refl _ _⟩

theorem sSquareSum_any (n : Int) (w : World) :
    Calls Try.prog 9 #[.int .i64 n] w fun e w' => e = .returned (.int .i64 (sqF n)) ∧ w = w' := by
  by_cases h : 0 ≤ n ∧ n ≤ 40
  · have HF : Hid (sqF n = sqn n (isq n)) := Lib.hid (by unfold sqF; rw [if_pos h])
    rw [HF.out]
    obtain ⟨hn1, hn2⟩ := h
    go_enter Try.func9, Try.ntmps9
    go_wp2_with (go_at_call 31; refine (rngYes _ _ _ _ hn1 hn2).mono ?_; rintro e w1 ⟨rfl, rfl⟩)
    go_loop [3, 4] (fun s i => ∃ k : Nat, k ≤ 7 ∧ i = .int .i64 k ∧ s = .int .i64 (sqn n k) ∧ Hid (∀ j : Nat, j < k → (j : Int) * j ≤ n)) (fun _ i => 8 - (intOf i).toNat)
    case atStart => exact ⟨0, Nat.zero_le _, rfl, rfl, Lib.hid fun j hj => by omega⟩
    case round =>
        obtain ⟨k, hk7, rfl, rfl, HP⟩ := hrel
        obtain ⟨q, hq0, e1, e2, HQ⟩ : ∃ q : Int, (0 ≤ q ∧ q ≤ 49) ∧ wrap64 ((k : Int) * (k : Int)) = q ∧ IntKind.i64.wrap ((k : Int) * (k : Int)) = q ∧ Hid ((k : Int) * (k : Int) = q) := by
          have h0 := sq_nn k
          have h1 : (k : Int) * (k : Int) ≤ 49 := by
            rcases Nat.lt_or_ge k 7 with h | h
            · have := sq_lt k h; omega
            · obtain rfl : k = 7 := by omega
              decide
          exact ⟨_, ⟨h0, h1⟩, IntWalk.wrap64_in _ (by omega), IntWalk.i64_in _ (by omega), Lib.hid rfl⟩
        have hb := sqn_bd n hn2 k
        by_cases hle : q ≤ n
        · have hk6 : k < 7 := by
            rcases Nat.lt_or_ge k 7 with h | h
            · exact h
            · obtain rfl : k = 7 := by omega
              have := HQ.out
              omega
          have HS : Hid (sqn n (k + 1) = sqn n k + ctZ (n - q) k) := Lib.hid (by rw [← HQ.out]; rfl)
          have hbc := ctZ_bd (n - q) k (by omega)
          go_wp2_with (go_at_call 32; refine (countTo_at _ _ _ (by omega) (by omega) (by omega) (by omega)).mono ?_; rintro e w1 ⟨rfl, rfl⟩)
          go_round
          case rel => exact ⟨k + 1, by omega, by go_num, by rw [HS.out], Lib.hid fun j hj => by
            rcases Nat.lt_or_ge j k with h | h
            · exact HP.out j h
            · obtain rfl : j = k := by omega
              rw [HQ.out]; exact hle⟩
          case measure => simp [intOf]; omega
        · have HI : Hid (isq n = k) := Lib.hid (isq_eq hn2 hk7 HP.out (.inr (by rw [HQ.out]; omega)))
          have hle' : n < q := by omega
          clear hle
          go_wp2_with fail
          go_ret
          exact ⟨ret_i64 (by rw [HI.out]), rfl⟩
  · have HF : Hid (sqF n = -1) := Lib.hid (by unfold sqF; rw [if_neg h])
    rw [HF.out]
    have H := Lib.hid (by omega : n < 0 ∨ 40 < n)
    clear h
    go_enter Try.func9, Try.ntmps9
    go_wp2_with (go_at_call 31; refine (rngNo _ _ _ _ H.out).mono ?_; rintro e w1 ⟨rfl, rfl⟩)
    go_ret
    exact ⟨rfl, rfl⟩

theorem iSquareSum_any (n : Int) (w : World) :
    Calls Try.prog 8 #[.int .i64 n] w fun e w' => e = .returned (.int .i64 (sqF n)) ∧ Below w.heap.size w w' := by
  by_cases h : 0 ≤ n ∧ n ≤ 40
  · have HF : Hid (sqF n = sqn n (isq n)) := Lib.hid (by unfold sqF; rw [if_pos h])
    rw [HF.out]
    obtain ⟨hn1, hn2⟩ := h
    have g1 : decide (n < 0) = false := decide_eq_false (by omega)
    have g2 : decide (40 < n) = false := decide_eq_false (by omega)
    go_enter Try.func8, Try.ntmps8
    go_wp2_with fail
    go_loopw [3, 4] (fun s i wr => Below w.heap.size w wr ∧ ∃ k : Nat, k ≤ 7 ∧ i = .int .i64 k ∧ s = .int .i64 (sqn n k) ∧ Hid (∀ j : Nat, j < k → (j : Int) * j ≤ n)) (fun _ i _ => 8 - (intOf i).toNat)
    case atStart => exact ⟨Below.refl _ _, 0, Nat.zero_le _, rfl, rfl, Lib.hid fun j hj => by omega⟩
    case round =>
        obtain ⟨hbel, k, hk7, rfl, rfl, HP⟩ := hrel
        obtain ⟨q, hq0, e1, e2, HQ⟩ : ∃ q : Int, (0 ≤ q ∧ q ≤ 49) ∧ wrap64 ((k : Int) * (k : Int)) = q ∧ IntKind.i64.wrap ((k : Int) * (k : Int)) = q ∧ Hid ((k : Int) * (k : Int) = q) := by
          have h0 := sq_nn k
          have h1 : (k : Int) * (k : Int) ≤ 49 := by
            rcases Nat.lt_or_ge k 7 with h | h
            · have := sq_lt k h; omega
            · obtain rfl : k = 7 := by omega
              decide
          exact ⟨_, ⟨h0, h1⟩, IntWalk.wrap64_in _ (by omega), IntWalk.i64_in _ (by omega), Lib.hid rfl⟩
        have hb := sqn_bd n hn2 k
        by_cases hle : q ≤ n
        · have hk6 : k < 7 := by
            rcases Nat.lt_or_ge k 7 with h | h
            · exact h
            · obtain rfl : k = 7 := by omega
              have := HQ.out
              omega
          have HS : Hid (sqn n (k + 1) = sqn n k + ctZ (n - q) k) := Lib.hid (by rw [← HQ.out]; rfl)
          have hbc := ctZ_bd (n - q) k (by omega)
          have HA := Lib.hid (amF_in (n := n - q) (k := (k : Int)) ⟨by omega, by omega⟩ ⟨by omega, by omega⟩)
          go_wp2_with (go_at_call 30; refine (iAtMostParts_any _ _ _).mono ?_; rintro e w2 ⟨rfl, hb2⟩; rw [HA.out])
          have hbel2 := hbel.trans (hb2.mono hbel.size)
          go_roundw
          case rel => exact ⟨hbel2, k + 1, by omega, by go_num, by rw [HS.out], Lib.hid fun j hj => by
            rcases Nat.lt_or_ge j k with h | h
            · exact HP.out j h
            · obtain rfl : j = k := by omega
              rw [HQ.out]; exact hle⟩
          case measure => simp [intOf]; omega
        · have HI : Hid (isq n = k) := Lib.hid (isq_eq hn2 hk7 HP.out (.inr (by rw [HQ.out]; omega)))
          have hle' : n < q := by omega
          clear hle
          go_wp2_with fail
          go_ret
          exact ⟨ret_i64 (by rw [HI.out]), hbel⟩
  · have HF : Hid (sqF n = -1) := Lib.hid (by unfold sqF; rw [if_neg h])
    rw [HF.out]
    by_cases h1 : n < 0
    · have g1 : decide (n < 0) = true := decide_eq_true h1
      clear h h1
      go_enter Try.func8, Try.ntmps8
      go_wp2
      go_ret
      exact ⟨rfl, Below.refl _ _⟩
    · have g1 : decide (n < 0) = false := decide_eq_false h1
      have g2 : decide (40 < n) = true := decide_eq_true (by omega)
      clear h h1
      go_enter Try.func8, Try.ntmps8
      go_wp2
      go_ret
      exact ⟨rfl, Below.refl _ _⟩

theorem sSelfCount_any (n : Int) (w : World) :
    Calls Try.prog 14 #[.int .i64 n] w fun e w' => e = .returned (.int .i64 (scF n)) ∧ w = w' := by
  by_cases h : 0 ≤ n ∧ n ≤ 40
  · have HF : Hid (scF n = scs n (isq n)) := Lib.hid (by unfold scF; rw [if_pos h])
    rw [HF.out]
    obtain ⟨hn1, hn2⟩ := h
    go_enter Try.func14, Try.ntmps14
    go_wp2_with (go_at_call 31; refine (rngYes _ _ _ _ hn1 hn2).mono ?_; rintro e w1 ⟨rfl, rfl⟩)
    go_loop [3, 4] (fun s i => ∃ k : Nat, k ≤ 7 ∧ i = .int .i64 k ∧ s = .int .i64 (scs n k) ∧ Hid (∀ j : Nat, j < k → (j : Int) * j ≤ n)) (fun _ i => 8 - (intOf i).toNat)
    case atStart => exact ⟨0, Nat.zero_le _, rfl, rfl, Lib.hid fun j hj => by omega⟩
    case round =>
        obtain ⟨k, hk7, rfl, rfl, HP⟩ := hrel
        obtain ⟨q, hq0, e1, e2, HQ⟩ : ∃ q : Int, (0 ≤ q ∧ q ≤ 49) ∧ wrap64 ((k : Int) * (k : Int)) = q ∧ IntKind.i64.wrap ((k : Int) * (k : Int)) = q ∧ Hid ((k : Int) * (k : Int) = q) := by
          have h0 := sq_nn k
          have h1 : (k : Int) * (k : Int) ≤ 49 := by
            rcases Nat.lt_or_ge k 7 with h | h
            · have := sq_lt k h; omega
            · obtain rfl : k = 7 := by omega
              decide
          exact ⟨_, ⟨h0, h1⟩, IntWalk.wrap64_in _ (by omega), IntWalk.i64_in _ (by omega), Lib.hid rfl⟩
        have hb := scs_bd n hn2 k
        by_cases hle : q ≤ n
        · have hk6 : k < 7 := by
            rcases Nat.lt_or_ge k 7 with h | h
            · exact h
            · obtain rfl : k = 7 := by omega
              have := HQ.out
              omega
          by_cases hev : (n - q) % 2 = 0
          · have hevb : ((n - q) % 2 == 0) = true := beq_iff_eq.2 hev
            have HS : Hid (scs n (k + 1) = scs n k + ctZ ((n - q) / 2) k) := Lib.hid (by rw [← HQ.out] at hev ⊢; simp only [scs]; rw [if_pos hev])
            have hbc := ctZ_bd ((n - q) / 2) k (by omega)
            have HEV := Lib.hid hev
            clear hev
            go_wp2_with (go_at_call 32; refine (countTo_at _ _ _ (by omega) (by omega) (by omega) (by omega)).mono ?_; rintro e w1 ⟨rfl, rfl⟩)
            go_round
            case rel => exact ⟨k + 1, by omega, by go_num, by rw [HS.out], Lib.hid fun j hj => by
              rcases Nat.lt_or_ge j k with h | h
              · exact HP.out j h
              · obtain rfl : j = k := by omega
                rw [HQ.out]; exact hle⟩
            case measure => simp [intOf]; omega
          · have hevb : ((n - q) % 2 == 0) = false := beq_eq_false_iff_ne.2 hev
            have HS : Hid (scs n (k + 1) = scs n k) := Lib.hid (by rw [← HQ.out] at hev; simp only [scs]; rw [if_neg hev, Int.add_zero])
            clear hev
            go_wp2_with fail
            go_round
            case rel => exact ⟨k + 1, by omega, by go_num, by rw [HS.out], Lib.hid fun j hj => by
              rcases Nat.lt_or_ge j k with h | h
              · exact HP.out j h
              · obtain rfl : j = k := by omega
                rw [HQ.out]; exact hle⟩
            case measure => simp [intOf]; omega
        · have HI : Hid (isq n = k) := Lib.hid (isq_eq hn2 hk7 HP.out (.inr (by rw [HQ.out]; omega)))
          have hle' : n < q := by omega
          clear hle
          go_wp2_with fail
          go_ret
          exact ⟨ret_i64 (by rw [HI.out]), rfl⟩
  · have HF : Hid (scF n = -1) := Lib.hid (by unfold scF; rw [if_neg h])
    rw [HF.out]
    have H := Lib.hid (by omega : n < 0 ∨ 40 < n)
    clear h
    go_enter Try.func14, Try.ntmps14
    go_wp2_with (go_at_call 31; refine (rngNo _ _ _ _ H.out).mono ?_; rintro e w1 ⟨rfl, rfl⟩)
    go_ret
    exact ⟨rfl, rfl⟩

theorem iSelfCount_any (n : Int) (w : World) :
    Calls Try.prog 13 #[.int .i64 n] w fun e w' => e = .returned (.int .i64 (scF n)) ∧ Below w.heap.size w w' := by
  by_cases h : 0 ≤ n ∧ n ≤ 40
  · have HF : Hid (scF n = scs n (isq n)) := Lib.hid (by unfold scF; rw [if_pos h])
    rw [HF.out]
    obtain ⟨hn1, hn2⟩ := h
    have g1 : decide (n < 0) = false := decide_eq_false (by omega)
    have g2 : decide (40 < n) = false := decide_eq_false (by omega)
    go_enter Try.func13, Try.ntmps13
    go_wp2_with fail
    go_loopw [3, 4] (fun s i wr => Below w.heap.size w wr ∧ ∃ k : Nat, k ≤ 7 ∧ i = .int .i64 k ∧ s = .int .i64 (scs n k) ∧ Hid (∀ j : Nat, j < k → (j : Int) * j ≤ n)) (fun _ i _ => 8 - (intOf i).toNat)
    case atStart => exact ⟨Below.refl _ _, 0, Nat.zero_le _, rfl, rfl, Lib.hid fun j hj => by omega⟩
    case round =>
        obtain ⟨hbel, k, hk7, rfl, rfl, HP⟩ := hrel
        obtain ⟨q, hq0, e1, e2, HQ⟩ : ∃ q : Int, (0 ≤ q ∧ q ≤ 49) ∧ wrap64 ((k : Int) * (k : Int)) = q ∧ IntKind.i64.wrap ((k : Int) * (k : Int)) = q ∧ Hid ((k : Int) * (k : Int) = q) := by
          have h0 := sq_nn k
          have h1 : (k : Int) * (k : Int) ≤ 49 := by
            rcases Nat.lt_or_ge k 7 with h | h
            · have := sq_lt k h; omega
            · obtain rfl : k = 7 := by omega
              decide
          exact ⟨_, ⟨h0, h1⟩, IntWalk.wrap64_in _ (by omega), IntWalk.i64_in _ (by omega), Lib.hid rfl⟩
        have hb := scs_bd n hn2 k
        by_cases hle : q ≤ n
        · have hk6 : k < 7 := by
            rcases Nat.lt_or_ge k 7 with h | h
            · exact h
            · obtain rfl : k = 7 := by omega
              have := HQ.out
              omega
          by_cases hev : (n - q) % 2 = 0
          · have hevb : ((n - q) % 2 == 0) = true := beq_iff_eq.2 hev
            have HS : Hid (scs n (k + 1) = scs n k + ctZ ((n - q) / 2) k) := Lib.hid (by rw [← HQ.out] at hev ⊢; simp only [scs]; rw [if_pos hev])
            have hbc := ctZ_bd ((n - q) / 2) k (by omega)
            have HEV := Lib.hid hev
            clear hev
            have HA := Lib.hid (amF_in (n := (n - q) / 2) (k := (k : Int)) ⟨by omega, by omega⟩ ⟨by omega, by omega⟩)
            go_wp2_with (go_at_call 30; refine (iAtMostParts_any _ _ _).mono ?_; rintro e w2 ⟨rfl, hb2⟩; rw [HA.out])
            have hbel2 := hbel.trans (hb2.mono hbel.size)
            go_roundw
            case rel => exact ⟨hbel2, k + 1, by omega, by go_num, by rw [HS.out], Lib.hid fun j hj => by
              rcases Nat.lt_or_ge j k with h | h
              · exact HP.out j h
              · obtain rfl : j = k := by omega
                rw [HQ.out]; exact hle⟩
            case measure => simp [intOf]; omega
          · have hevb : ((n - q) % 2 == 0) = false := beq_eq_false_iff_ne.2 hev
            have HS : Hid (scs n (k + 1) = scs n k) := Lib.hid (by rw [← HQ.out] at hev; simp only [scs]; rw [if_neg hev, Int.add_zero])
            clear hev
            go_wp2_with fail
            go_roundw
            case rel => exact ⟨hbel, k + 1, by omega, by go_num, by rw [HS.out], Lib.hid fun j hj => by
              rcases Nat.lt_or_ge j k with h | h
              · exact HP.out j h
              · obtain rfl : j = k := by omega
                rw [HQ.out]; exact hle⟩
            case measure => simp [intOf]; omega
        · have HI : Hid (isq n = k) := Lib.hid (isq_eq hn2 hk7 HP.out (.inr (by rw [HQ.out]; omega)))
          have hle' : n < q := by omega
          clear hle
          go_wp2_with fail
          go_ret
          exact ⟨ret_i64 (by rw [HI.out]), hbel⟩
  · have HF : Hid (scF n = -1) := Lib.hid (by unfold scF; rw [if_neg h])
    rw [HF.out]
    by_cases h1 : n < 0
    · have g1 : decide (n < 0) = true := decide_eq_true h1
      clear h h1
      go_enter Try.func13, Try.ntmps13
      go_wp2
      go_ret
      exact ⟨rfl, Below.refl _ _⟩
    · have g1 : decide (n < 0) = false := decide_eq_false h1
      have g2 : decide (40 < n) = true := decide_eq_true (by omega)
      clear h h1
      go_enter Try.func13, Try.ntmps13
      go_wp2
      go_ret
      exact ⟨rfl, Below.refl _ _⟩





end Go.Proofs.Ytifhnjnpbpgjfaa
namespace Go.Proofs.Ytifhnjnpbpgjfaa
open Go.RowKit NP
set_option maxRecDepth 8000
set_option linter.unusedVariables false

theorem withOnce_any (D : List Int) (hD : D.length = 41) (p : Nat) (hp : 1 ≤ p) (hp40 : p ≤ 40) (sg : Int) (hsg : sg = 1 ∨ sg = -1) (hb : ∀ s, -1099511627776 ≤ D.getD s 0 ∧ D.getD s 0 ≤ 1099511627776) (w : World) :
    Calls Try.prog 37 #[.agg (arr D), .int .i64 p, .int .i64 sg] w fun e w' => e = .returned (.agg (arr (worow D p sg))) ∧ Below w.heap.size w w' := by
  have HD := Lib.hid hD
  have hi41 : (Try.prog.info? 47).map (·.size) = some (arr D).size := by rw [arr_size, hD]; exact T_info41
  have hsz0 : (arr D).size = (arr (List.replicate 41 0)).size := by rw [arr_size, arr_size, hD]; rfl
  have HB := Lib.hid hb
  have HSG := Lib.hid hsg
  clear hD hb hsg
  have hrange : (41 : Int) - (p : Int) = ((41 - p : Nat) : Int) := by omega
  have hba := (Blk.new w 47 (arr D)).alloc (.cells (arr (List.replicate 41 0)) 47)
  have hbr : Blk ((w.alloc (.cells (arr D) 47)).alloc (.cells (arr (List.replicate 41 0)) 47)) (w.heap.size + 1) 47 (arr (List.replicate 41 0)) := by
    have e := Blk.new (w.alloc (.cells (arr D) 47)) 47 (arr (List.replicate 41 0))
    rw [World.size_alloc] at e
    exact e
  have hbm : Blk (((w.alloc (.cells (arr D) 47)).alloc (.cells (arr (List.replicate 41 0)) 47)).alloc (.cells (arr (List.replicate 41 0)) 47)) (w.heap.size + 2) 47 (arr (List.replicate 41 0)) := by
    have e := Blk.new ((w.alloc (.cells (arr D) 47)).alloc (.cells (arr (List.replicate 41 0)) 47)) 47 (arr (List.replicate 41 0))
    rw [World.size_alloc, World.size_alloc] at e
    exact e
  go_enter Try.func37, Try.ntmps37
  go_wp2_with (first
    | (refine wpList_load_row rfl 47 (.tmp 3) rfl w.heap.size rfl 47 (arr D) (0, 0) _ hba Try.underlying47 rfl hi41 ?_)
    | (refine wpList_store_row rfl 47 (.tmp 7) (.tmp 9) rfl (w.heap.size + 2) rfl (arr D) rfl 47 _ hbm hi41 hsz0 (arr_one _) ?_))
  go_loopw [12] (fun i wr => ∃ l : Nat, l ≤ 41 - p ∧ i = .int .i64 l ∧ Below w.heap.size w wr ∧ Blk wr w.heap.size 47 (arr D) ∧ Blk wr (w.heap.size + 1) 47 (arr (List.replicate 41 0)) ∧ Blk wr (w.heap.size + 2) 47 (arr (womid D p sg l))) (fun i _ => 41 - (intOf i).toNat)
  case atStart =>
    refine ⟨0, Nat.zero_le _, rfl, below_setRow' ((((Below.refl _ _).alloc (Nat.le_refl _) _).alloc (by simp) _).alloc (by simp; omega) _) (by omega) _, ?_, ?_, ?_⟩
    · exact (hba.alloc _).rowOff (by omega)
    · exact (hbr.alloc _).rowOff (by omega)
    · rw [womid_zero HD.out]; exact hbm.row
  case round =>
    obtain ⟨l, hl, rfl, hbel, hb1, hb2, hb3⟩ := hrel
    by_cases hlt : l < 41 - p
    · have hlp : l + p < 41 := by omega
      have hl41 : l < 41 := by omega
      have b1 := HB.out (l + p)
      have b2 := HB.out l
      have HSET := Lib.hid (womid_set D p sg l hp hlp)
      have hc1 : wr.cell? ⟨w.heap.size, l, none⟩ = some (.int .i64 (D.getD l 0)) := by rw [hb1.cell l, arr_get _ l (by rw [HD.out]; exact hl41), getD_lt (by rw [HD.out]; exact hl41)]
      have hc2 : wr.cell? ⟨w.heap.size + 2, l + p, none⟩ = some (.int .i64 (D.getD (l + p) 0)) := by rw [hb3.cell (l + p), arr_get _ (l + p) (by rw [womid_len]; exact hlp), womid_hi D p sg l hlp]
      have hf2 : wr.frozen? ⟨w.heap.size + 2, l + p, none⟩ = false := hb3.free (l + p)
      have hl41' : (l : Int) < 41 := by omega
      obtain ⟨q, hq⟩ : ∃ q : Nat, q = l + p := ⟨_, rfl⟩
      rw [← hq] at hf2 b1
      have hc2' : wr.cell? ⟨w.heap.size + 2, q, none⟩ = some (.int .i64 (D.getD q 0)) := by rw [hq]; exact hc2
      have HSET' : Hid ((womid D p sg l).set q (D.getD q 0 + sg * D.getD l 0) = womid D p sg (l + 1)) := Lib.hid (by rw [hq]; exact HSET.out)
      clear hc2 HSET
      have hw : IntKind.i64.wrap ((l : Int) + (p : Int)) = (q : Int) := by rw [IntWalk.i64_in _ (by omega)]; omega
      have hq41 : (q : Int) < 41 := by omega
      have hq41' : q < 41 := by omega
      clear hq
      generalize D.getD q 0 = x at *
      generalize D.getD l 0 = y at *
      obtain ⟨pr, hpr0, HPR⟩ : ∃ pr : Int, (-1099511627776 ≤ pr ∧ pr ≤ 1099511627776) ∧ Hid (sg * y = pr) := by
        rcases HSG.out with h | h
        · exact ⟨y, b2, Lib.hid (by rw [h, Int.one_mul])⟩
        · exact ⟨-y, by omega, Lib.hid (by rw [h]; omega)⟩
      have hw2 : IntKind.i64.wrap (sg * y) = pr := by rw [HPR.out]; exact IntWalk.i64_in _ (by omega)
      have hw3 : IntKind.i64.wrap (x + pr) = x + pr := IntWalk.i64_in _ (by omega)
      rw [HPR.out] at HSET'
      go_wp2
      go_still_tail 12, (by kernel_rfl)
      change wpList _ _ _ _ _ wr.drew
      have hbel' : Below w.heap.size w wr.drew := hbel.trans ((Dr.n wr 1).below _)
      have hb1' : Blk wr.drew w.heap.size 47 (arr D) := hb1
      have hb2' : Blk wr.drew (w.heap.size + 1) 47 (arr (List.replicate 41 0)) := hb2
      have hb3' : Blk wr.drew (w.heap.size + 2) 47 (arr (womid D p sg l)) := hb3
      have hf3 : wr.drew.frozen? ⟨w.heap.size + 2, q, none⟩ = false := hf2
      have hc3 : wr.drew.cell? ⟨w.heap.size + 2, q, none⟩ = some (.int .i64 x) := hc2'
      generalize wr.drew = w2 at *
      clear hbel hb1 hb2 hb3
      go_wp2
      go_roundw
      case rel =>
        refine ⟨l + 1, by omega, by go_num, hbel'.setCell (by show w.heap.size ≤ w.heap.size + 2; omega) _, hb1'.off (by show w.heap.size ≠ w.heap.size + 2; omega) _, hb2'.off (by show w.heap.size + 1 ≠ w.heap.size + 2; omega) _, ?_⟩
        have e := hb3'.set q (.int .i64 (x + pr))
        rw [arr_set, HSET'.out] at e
        exact e
      case measure => simp [intOf]; omega
    · obtain rfl : l = 41 - p := by omega
      have HE := Lib.hid (womid_end D p sg (41 - p) (by omega))
      have hi2 : (Try.prog.info? 47).map (·.size) = some (arr (womid D p sg (41 - p))).size := by rw [arr_size, womid_len]; exact T_info41
      have hsz : (arr (womid D p sg (41 - p))).size = (arr (List.replicate 41 0)).size := by rw [arr_size, arr_size, womid_len]; rfl
      go_wp2_with (first | (refine wpList_load_row rfl 47 (.tmp 7) rfl (w.heap.size + 2) rfl 47 (arr (womid D p sg (41 - p))) (0, 0) _ hb3 Try.underlying47 rfl hi2 ?_) | (refine wpList_store_row rfl 47 (.tmp 6) (.tmp 28) rfl (w.heap.size + 1) rfl (arr (womid D p sg (41 - p))) rfl 47 _ hb2 hi2 hsz (arr_one _) ?_))
      refine bodyPost_ret (results_cell_row rfl _ _ (w.heap.size + 1) 47 (arr (womid D p sg (41 - p))) (0, 0) _ rfl hb2.row Try.underlying47 rfl hi2) rfl ?_
      exact ⟨by rw [HE.out], below_setRow' hbel (by omega) _⟩



end Go.Proofs.Ytifhnjnpbpgjfaa
namespace Go.Proofs.Ytifhnjnpbpgjfaa
open Go.RowKit NP
set_option maxRecDepth 8000
set_option linter.unusedVariables false

theorem stB_mk {S : List Int} {k : Nat} (hk : k < S.length) (HP : ∀ j, j < k → (1 ≤ S.getD j 0 ∧ S.getD j 0 ≤ 40 ∧ (0 < j → S.getD (j - 1) 0 < S.getD j 0))) (h1 : 1 ≤ S[k]) (h2 : S[k] ≤ 40) (h3 : 0 < k → S.getD (k - 1) 0 < S[k]) :
    ∀ j, j < k + 1 → (1 ≤ S.getD j 0 ∧ S.getD j 0 ≤ 40 ∧ (0 < j → S.getD (j - 1) 0 < S.getD j 0)) := fun j hj => by
  rcases Nat.lt_or_ge j k with h | h
  · exact HP j h
  · obtain rfl : j = k := by omega
    rw [getD_lt hk]
    exact ⟨h1, h2, h3⟩

theorem isSet_any (a : Option Addr) (c B : Nat) (S : List Int) (w : World) (h : Rd w B a (ints S)) (hl : S.length ≤ 4611686018427387904) :
    Calls Try.prog 54 #[.slice a S.length c] w fun e w' => e = .returned (.bool (stB S)) ∧ w = w' := by
  go_enter Try.func54, Try.ntmps54
  go_wp2
  go_loop [3, 5, 8] (fun vl _ vi => ∃ k : Nat, k ≤ S.length ∧ vi = .int .i64 k ∧ vl = .int .i64 (lastOf S k : Nat) ∧ Hid (∀ j, j < k → (1 ≤ S.getD j 0 ∧ S.getD j 0 ≤ 40 ∧ (0 < j → S.getD (j - 1) 0 < S.getD j 0)))) (fun _ _ vi => S.length - (intOf vi).toNat)
  case atStart => exact ⟨0, Nat.zero_le _, rfl, rfl, Lib.hid fun j hj => by omega⟩
  case round =>
    obtain ⟨k, hk, rfl, rfl, HP⟩ := hrel
    by_cases hlt : k < S.length
    · have hlt' : (k : Int) < (S.length : Int) := by omega
      obtain ⟨b, o, rfl, _, hc⟩ := h.at_ hlt
      have hlast : (lastOf S k : Int) = if k = 0 then 0 else S.getD (k - 1) 0 := by
        unfold lastOf
        split
        · rfl
        · have := (HP.out (k - 1) (by omega)).1; omega
      have hnext : 1 ≤ S[k] → lastOf S (k + 1) = S[k].toNat := fun _ => by unfold lastOf; rw [if_neg (by omega), Nat.add_sub_cancel, getD_lt hlt]
      have HN := Lib.hid hnext
      have HB := Lib.hid (stB_at hlt)
      rw [getD_lt hlt] at HB
      have HM := Lib.hid (stB_mk hlt HP.out)
      have hls : 0 < k → (lastOf S k : Int) = S.getD (k - 1) 0 := fun h0 => by rw [hlast, if_neg (by omega)]
      have hl0 : k = 0 → (lastOf S k : Int) = 0 := fun h0 => by rw [hlast, if_pos h0]
      have HLS := Lib.hid hls
      have HL0 := Lib.hid hl0
      clear hlast hnext hls hl0
      generalize lastOf S k = la at *
      by_cases h1 : S[k] ≤ (la : Int)
      · have d1 : decide (S[k] ≤ (la : Int)) = true := decide_eq_true h1
        have HD : Hid (stB S = false) := Lib.hid (HB.out (by
          intro hh
          rcases Nat.eq_zero_or_pos k with h0 | h0
          · have := HL0.out h0; omega
          · have := HLS.out h0; have := hh.2.2 h0; omega))
        clear h1
        go_wp2_with fail
        go_ret
        exact ⟨ret_bool HD.out.symm, rfl⟩
      · have d1 : decide (S[k] ≤ (la : Int)) = false := decide_eq_false h1
        by_cases h2 : 40 < S[k]
        · have d2 : decide (40 < S[k]) = true := decide_eq_true h2
          have HD : Hid (stB S = false) := Lib.hid (HB.out (by intro hh; omega))
          clear h1 h2
          go_wp2_with fail
          go_ret
          exact ⟨ret_bool HD.out.symm, rfl⟩
        · have d2 : decide (40 < S[k]) = false := decide_eq_false h2
          have HS := Lib.hid (HM.out (by omega) (by omega) (fun h0 => by have := HLS.out h0; omega))
          have hnx := HN.out (by omega)
          have HX : Hid (((lastOf S (k + 1) : Nat) : Int) = S[k]) := Lib.hid (by rw [hnx]; omega)
          clear h1 h2 hnx
          go_wp2_with fail
          go_round
          case rel => exact ⟨k + 1, by omega, by go_num, by rw [HX.out], HS⟩
          case measure => simp [intOf]; omega
    · obtain rfl : k = S.length := by omega
      have HD : Hid (stB S = true) := Lib.hid ((stB_iff S).2 HP.out)
      go_wp2
      go_ret
      exact ⟨ret_bool HD.out.symm, rfl⟩

theorem onceFn_any (D : List Int) (hD : D.length = 41) (p : Nat) (hp : 1 ≤ p) (hp40 : p ≤ 40) (hb : ∀ s, -1099511627776 ≤ D.getD s 0 ∧ D.getD s 0 ≤ 1099511627776) (w : World) :
    Calls Try.prog 36 #[.agg (arr D), .int .i64 p] w fun e w' => e = .returned (.agg (arr (worow D p 1))) ∧ Below w.heap.size w w' := by
  have HD := Lib.hid hD
  have HB := Lib.hid hb
  have hi1 : (Try.prog.info? 47).map (·.size) = some (arr D).size := by rw [arr_size, hD]; exact T_info41
  have hi2 : (Try.prog.info? 47).map (·.size) = some (arr (worow D p 1)).size := by rw [arr_size, worow_len]; exact T_info41
  have hsz : (arr (worow D p 1)).size = (arr (List.replicate 41 0)).size := by rw [arr_size, arr_size, worow_len]; rfl
  have hb0 := (Blk.new w 47 (arr D)).alloc (.cells (arr (List.replicate 41 0)) 47)
  have hb1 := Blk.new (w.alloc (.cells (arr D) 47)) 47 (arr (List.replicate 41 0))
  rw [World.size_alloc] at hb1
  have hbel : Below w.heap.size w ((w.alloc (.cells (arr D) 47)).alloc (.cells (arr (List.replicate 41 0)) 47)) := ((Below.refl _ _).alloc (Nat.le_refl _) _).alloc (by simp) _
  clear hD hb
  go_enter Try.func36, Try.ntmps36
  go_wp2_with (first
    | (refine wpList_store_row rfl 47 (.tmp 4) (.tmp 7) rfl (w.heap.size + 1) rfl (arr (worow D p 1)) rfl 47 _ hb3 hi2 hsz (arr_one _) ?_)
    | (go_at_call 37; refine (withOnce_any D HD.out p hp hp40 1 (.inl rfl) HB.out _).mono ?_; rintro e w1 ⟨rfl, hbw⟩; have hb3 := hb1.below hbw hb1.lt; have hbel2 := hbel.trans (hbw.mono hbel.size))
    | (refine wpList_load_row rfl 47 (.tmp 2) rfl w.heap.size rfl 47 (arr D) (0, 0) _ hb0 Try.underlying47 rfl hi1 ?_))
  refine bodyPost_ret (results_cell_row rfl _ _ (w.heap.size + 1) 47 (arr (worow D p 1)) (0, 0) _ rfl hb3.row Try.underlying47 rfl hi2) rfl ?_
  exact ⟨rfl, below_setRow' hbel2 (by omega) _⟩

set_option maxHeartbeats 1000000 in
theorem countOverMany_any (a : Option Addr) (c B : Nat) (S : List Int) (n : Int) (w : World) (h : Rd w B a (ints S)) (hB : B ≤ w.heap.size) (hl : S.length ≤ 4611686018427387904) :
    Calls Try.prog 33 #[.slice a S.length c, .int .i64 n, .func (.func 34) #[] #[]] w fun e w' => e = .returned (.int .i64 (cntF false S n)) ∧ Below w.heap.size w w' := by
  by_cases hn : 0 ≤ n ∧ n ≤ 40
  · have d1 : decide (n < 0) = false := decide_eq_false (by omega)
    have d2 : decide (40 < n) = false := decide_eq_false (by omega)
    cases hs : stB S with
    | true =>
      have HS := Lib.hid hs
      have hSl := stB_len hs
      have HE := Lib.hid (cntF_in false hs hn.1 hn.2)
      obtain ⟨N, rfl⟩ := Int.eq_ofNat_of_zero_le hn.1
      have hN : N ≤ 40 := by omega
      have hi0 : (Try.prog.info? 47).map (·.size) = some (arr (1 :: List.replicate 40 0)).size := T_info41
      have hsz0 : (arr (1 :: List.replicate 40 0)).size = (arr (List.replicate 41 0)).size := rfl
      have hb1 := Blk.new w 47 (arr (List.replicate 41 0))
      clear hs hn
      go_enter Try.func33, Try.ntmps33
      go_wp2_with (first
        | (refine wpList_store_row rfl 47 (.tmp 7) (.tmp 21) rfl w.heap.size rfl (arr (1 :: List.replicate 40 0)) rfl 47 _ hb1 hi0 hsz0 (arr_one _) ?_)
        | (go_at_call 54; refine (isSet_any _ _ B S _ h hl).mono ?_; rintro e w' ⟨rfl, rfl⟩; rw [HS.out]))
      go_loopw [9, 24] (fun vp vi wr => ∃ i : Nat, i ≤ S.length ∧ vi = .int .i64 i ∧ Below w.heap.size w wr ∧ Blk wr w.heap.size 47 (arr (setRows false (S.take i)))) (fun _ vi _ => 50 - (intOf vi).toNat)
      case atStart =>
        refine ⟨0, Nat.zero_le _, rfl, below_setRow' ((Below.refl _ _).alloc (Nat.le_refl _) _) (Nat.le_refl _) _, ?_⟩
        have e := hb1.row (vs := arr (1 :: List.replicate 40 0))
        have e0 : setRows false (S.take 0) = 1 :: List.replicate 40 0 := crow_zero
        rw [e0]
        exact e
      case round =>
        obtain ⟨i, hi, rfl, hbel, hbk⟩ := hrel
        clear hb1
        by_cases hlt : i < S.length
        · have hlt' : (i : Int) < (S.length : Int) := by omega
          obtain ⟨b, o, rfl, hbB, hc⟩ := ((h.more hB).below hbel).at_ hlt
          have hx := (stB_iff S).1 HS.out i hlt
          rw [getD_lt hlt] at hx
          have hstep := setRows_step HS.out false hlt
          have hsucc := setRows_succ false hlt
          have hrl := setRows_len false (S.take i)
          generalize setRows false (S.take i) = D at *
          obtain ⟨p, hp⟩ : ∃ p : Nat, S[i] = (p : Int) := ⟨S[i].toNat, by omega⟩
          rw [hp] at hx hc hsucc
          rw [hp] at hstep
          have e1 : ((p : Int)).toNat = p := by omega
          rw [e1] at hstep hsucc
          have HST := Lib.hid hstep
          have HSU := Lib.hid hsucc
          have hp1 : 1 ≤ p := by omega
          have hp40 : p ≤ 40 := by omega
          have hil : (Try.prog.info? 47).map (·.size) = some (arr D).size := by rw [arr_size, hrl]; exact T_info41
          have hir : (Try.prog.info? 47).map (·.size) = some (arr (mrow false D p)).size := by rw [arr_size, mrow_len]; exact T_info41
          have hsz : (arr (mrow false D p)).size = (arr D).size := by rw [arr_size, arr_size, mrow_len, hrl]
          have HRL := Lib.hid hrl
          have HALL : Hid (∀ s, -1099511627776 ≤ D.getD s 0 ∧ D.getD s 0 ≤ 1099511627776) := Lib.hid fun s => by
            rcases Nat.lt_or_ge s 41 with h1 | h1
            · have := (hstep s h1).1; omega
            · rw [getD_ge (by omega)]; omega
          clear hp hstep hsucc e1 hrl hx
          go_wp2_with (first
            | (refine wpList_store_row rfl 47 (.tmp 7) (.tmp 31) rfl w.heap.size rfl (arr (mrow false D p)) rfl 47 _ hbk2 hir hsz (arr_one _) ?_)
            | (go_at_call 34; refine (withMany_any D HRL.out p hp1 hp40 HST.out _).mono ?_; rintro e w5 ⟨rfl, hbw⟩; have hbk2 := hbk.below hbw hbk.lt; have hbel2 := hbel.trans (hbw.mono hbel.size))
            | (refine wpList_load_row rfl 47 (.tmp 7) rfl w.heap.size rfl 47 (arr D) (0, 0) _ hbk Try.underlying47 rfl hil ?_))
          go_roundw
          case rel =>
            refine ⟨i + 1, by omega, by go_num, below_setRow' hbel2 (Nat.le_refl _) _, ?_⟩
            rw [HSU.out]
            exact hbk2.row
          case measure => simp [intOf]; omega
        · obtain rfl : i = S.length := by omega
          rw [List.take_of_length_le (Nat.le_refl _)] at hbk
          have hrl := setRows_len false S
          have hN41 : N < (setRows false S).length := by omega
          have hN' : (N : Int) < 41 := by omega
          have hc := hbk.cell N
          rw [arr_get _ N hN41] at hc
          have HG : Hid ((setRows false S)[N] = cntF false S N) := Lib.hid (by rw [HE.out, getD_lt (by simpa using hN41)]; rfl)
          go_wp2_with fail
          go_ret
          exact ⟨ret_i64 HG.out, hbel⟩
    | false =>
      have HS := Lib.hid hs
      have hE : cntF false S n = -1 := cntF_out false (fun hh => by rw [hs] at hh; cases hh.1)
      rw [hE]
      clear hE hs hn
      go_enter Try.func33, Try.ntmps33
      go_wp2_with (go_at_call 54; refine (isSet_any _ _ B S _ h hl).mono ?_; rintro e w' ⟨rfl, rfl⟩; rw [HS.out])
      go_ret
      exact ⟨rfl, Below.refl _ _⟩
  · have hE : cntF false S n = -1 := cntF_out false (fun hh => hn hh.2)
    rw [hE]
    by_cases h0 : n < 0
    · have d1 : decide (n < 0) = true := decide_eq_true h0
      clear hn h0 hE
      go_enter Try.func33, Try.ntmps33
      go_wp2_with fail
      go_ret
      exact ⟨rfl, Below.refl _ _⟩
    · have d1 : decide (n < 0) = false := decide_eq_false h0
      have d2 : decide (40 < n) = true := decide_eq_true (by omega)
      clear hn h0 hE
      go_enter Try.func33, Try.ntmps33
      go_wp2_with fail
      go_ret
      exact ⟨rfl, Below.refl _ _⟩

theorem iCountIn_any (a : Option Addr) (c B : Nat) (S : List Int) (n : Int) (w : World) (h : Rd w B a (ints S)) (hB : B ≤ w.heap.size) (hl : S.length ≤ 4611686018427387904) :
    Calls Try.prog 10 #[.slice a S.length c, .int .i64 n] w fun e w' => e = .returned (.int .i64 (cntF false S n)) ∧ Below w.heap.size w w' := by
  go_enter Try.func10, Try.ntmps10
  go_wp2_with (go_at_call 33; refine (countOverMany_any _ _ B S n _ h hB hl).mono ?_; rintro e w1 ⟨rfl, hb1⟩)
  go_ret
  exact ⟨rfl, hb1⟩

set_option maxHeartbeats 1000000 in
theorem countOverOnce_any (a : Option Addr) (c B : Nat) (S : List Int) (n : Int) (w : World) (h : Rd w B a (ints S)) (hB : B ≤ w.heap.size) (hl : S.length ≤ 4611686018427387904) :
    Calls Try.prog 33 #[.slice a S.length c, .int .i64 n, .func (.func 36) #[] #[]] w fun e w' => e = .returned (.int .i64 (cntF true S n)) ∧ Below w.heap.size w w' := by
  by_cases hn : 0 ≤ n ∧ n ≤ 40
  · have d1 : decide (n < 0) = false := decide_eq_false (by omega)
    have d2 : decide (40 < n) = false := decide_eq_false (by omega)
    cases hs : stB S with
    | true =>
      have HS := Lib.hid hs
      have hSl := stB_len hs
      have HE := Lib.hid (cntF_in true hs hn.1 hn.2)
      obtain ⟨N, rfl⟩ := Int.eq_ofNat_of_zero_le hn.1
      have hN : N ≤ 40 := by omega
      have hi0 : (Try.prog.info? 47).map (·.size) = some (arr (1 :: List.replicate 40 0)).size := T_info41
      have hsz0 : (arr (1 :: List.replicate 40 0)).size = (arr (List.replicate 41 0)).size := rfl
      have hb1 := Blk.new w 47 (arr (List.replicate 41 0))
      clear hs hn
      go_enter Try.func33, Try.ntmps33
      go_wp2_with (first
        | (refine wpList_store_row rfl 47 (.tmp 7) (.tmp 21) rfl w.heap.size rfl (arr (1 :: List.replicate 40 0)) rfl 47 _ hb1 hi0 hsz0 (arr_one _) ?_)
        | (go_at_call 54; refine (isSet_any _ _ B S _ h hl).mono ?_; rintro e w' ⟨rfl, rfl⟩; rw [HS.out]))
      go_loopw [9, 24] (fun vp vi wr => ∃ i : Nat, i ≤ S.length ∧ vi = .int .i64 i ∧ Below w.heap.size w wr ∧ Blk wr w.heap.size 47 (arr (setRows true (S.take i)))) (fun _ vi _ => 50 - (intOf vi).toNat)
      case atStart =>
        refine ⟨0, Nat.zero_le _, rfl, below_setRow' ((Below.refl _ _).alloc (Nat.le_refl _) _) (Nat.le_refl _) _, ?_⟩
        have e := hb1.row (vs := arr (1 :: List.replicate 40 0))
        have e0 : setRows true (S.take 0) = 1 :: List.replicate 40 0 := crow_zero
        rw [e0]
        exact e
      case round =>
        obtain ⟨i, hi, rfl, hbel, hbk⟩ := hrel
        clear hb1
        by_cases hlt : i < S.length
        · have hlt' : (i : Int) < (S.length : Int) := by omega
          obtain ⟨b, o, rfl, hbB, hc⟩ := ((h.more hB).below hbel).at_ hlt
          have hx := (stB_iff S).1 HS.out i hlt
          rw [getD_lt hlt] at hx
          have hstep := setRows_step HS.out true hlt
          have hsucc := setRows_succ true hlt
          have hrl := setRows_len true (S.take i)
          generalize setRows true (S.take i) = D at *
          obtain ⟨p, hp⟩ : ∃ p : Nat, S[i] = (p : Int) := ⟨S[i].toNat, by omega⟩
          rw [hp] at hx hc hsucc
          rw [hp] at hstep
          have e1 : ((p : Int)).toNat = p := by omega
          rw [e1] at hstep hsucc
          have HST := Lib.hid hstep
          have HSU := Lib.hid hsucc
          have hp1 : 1 ≤ p := by omega
          have hp40 : p ≤ 40 := by omega
          have hil : (Try.prog.info? 47).map (·.size) = some (arr D).size := by rw [arr_size, hrl]; exact T_info41
          have hir : (Try.prog.info? 47).map (·.size) = some (arr (mrow true D p)).size := by rw [arr_size, mrow_len]; exact T_info41
          have hsz : (arr (mrow true D p)).size = (arr D).size := by rw [arr_size, arr_size, mrow_len, hrl]
          have HRL := Lib.hid hrl
          have HALL : Hid (∀ s, -1099511627776 ≤ D.getD s 0 ∧ D.getD s 0 ≤ 1099511627776) := Lib.hid fun s => by
            rcases Nat.lt_or_ge s 41 with h1 | h1
            · have := (hstep s h1).1; omega
            · rw [getD_ge (by omega)]; omega
          clear hp hstep hsucc e1 hrl hx
          go_wp2_with (first
            | (refine wpList_store_row rfl 47 (.tmp 7) (.tmp 31) rfl w.heap.size rfl (arr (mrow true D p)) rfl 47 _ hbk2 hir hsz (arr_one _) ?_)
            | (go_at_call 36; refine (onceFn_any D HRL.out p hp1 hp40 HALL.out _).mono ?_; rintro e w5 ⟨rfl, hbw⟩; have hbk2 := hbk.below hbw hbk.lt; have hbel2 := hbel.trans (hbw.mono hbel.size))
            | (refine wpList_load_row rfl 47 (.tmp 7) rfl w.heap.size rfl 47 (arr D) (0, 0) _ hbk Try.underlying47 rfl hil ?_))
          go_roundw
          case rel =>
            refine ⟨i + 1, by omega, by go_num, below_setRow' hbel2 (Nat.le_refl _) _, ?_⟩
            rw [HSU.out]
            exact hbk2.row
          case measure => simp [intOf]; omega
        · obtain rfl : i = S.length := by omega
          rw [List.take_of_length_le (Nat.le_refl _)] at hbk
          have hrl := setRows_len true S
          have hN41 : N < (setRows true S).length := by omega
          have hN' : (N : Int) < 41 := by omega
          have hc := hbk.cell N
          rw [arr_get _ N hN41] at hc
          have HG : Hid ((setRows true S)[N] = cntF true S N) := Lib.hid (by rw [HE.out, getD_lt (by simpa using hN41)]; rfl)
          go_wp2_with fail
          go_ret
          exact ⟨ret_i64 HG.out, hbel⟩
    | false =>
      have HS := Lib.hid hs
      have hE : cntF true S n = -1 := cntF_out true (fun hh => by rw [hs] at hh; cases hh.1)
      rw [hE]
      clear hE hs hn
      go_enter Try.func33, Try.ntmps33
      go_wp2_with (go_at_call 54; refine (isSet_any _ _ B S _ h hl).mono ?_; rintro e w' ⟨rfl, rfl⟩; rw [HS.out])
      go_ret
      exact ⟨rfl, Below.refl _ _⟩
  · have hE : cntF true S n = -1 := cntF_out true (fun hh => hn hh.2)
    rw [hE]
    by_cases h0 : n < 0
    · have d1 : decide (n < 0) = true := decide_eq_true h0
      clear hn h0 hE
      go_enter Try.func33, Try.ntmps33
      go_wp2_with fail
      go_ret
      exact ⟨rfl, Below.refl _ _⟩
    · have d1 : decide (n < 0) = false := decide_eq_false h0
      have d2 : decide (40 < n) = true := decide_eq_true (by omega)
      clear hn h0 hE
      go_enter Try.func33, Try.ntmps33
      go_wp2_with fail
      go_ret
      exact ⟨rfl, Below.refl _ _⟩

theorem iCountOnce_any (a : Option Addr) (c B : Nat) (S : List Int) (n : Int) (w : World) (h : Rd w B a (ints S)) (hB : B ≤ w.heap.size) (hl : S.length ≤ 4611686018427387904) :
    Calls Try.prog 15 #[.slice a S.length c, .int .i64 n] w fun e w' => e = .returned (.int .i64 (cntF true S n)) ∧ Below w.heap.size w w' := by
  go_enter Try.func15, Try.ntmps15
  go_wp2_with (go_at_call 33; refine (countOverOnce_any _ _ B S n _ h hB hl).mono ?_; rintro e w1 ⟨rfl, hb1⟩)
  go_ret
  exact ⟨rfl, hb1⟩
end Go.Proofs.Ytifhnjnpbpgjfaa
namespace Go.Proofs.Ytifhnjnpbpgjfaa
open Go.RowKit NP
set_option maxRecDepth 8000
set_option linter.unusedVariables false
set_option linter.unusedSimpArgs false
theorem kpF_ap (l : List UInt8) (n : Int) : kpF l n = [] ∨ ∃ K, kpF l n = (apF n).filter K := by
  unfold kpF apF
  split
  · rename_i K _
    right
    refine ⟨K, ?_⟩
    split <;> simp
  · exact .inl rfl
theorem cnt_filter (K : List Int → Bool) (l : List (List Int)) : cntLL (l.filter K) ≤ cntLL l := by
  induction l with
  | nil => simp [cntLL]
  | cons x r ih =>
    rw [List.filter_cons]
    split
    · simp [cntLL] at ih ⊢; omega
    · simp [cntLL] at ih ⊢; omega
theorem kpF_few (l : List UInt8) (n : Int) : (kpF l n).length ≤ 1000 := by
  rcases kpF_ap l n with h | ⟨K, h⟩
  · rw [h]; simp
  · rw [h]; exact Nat.le_trans (List.length_filter_le _ _) (apF_few2 n)
theorem kpF_cnt (l : List UInt8) (n : Int) : cntLL (kpF l n) ≤ 2000 := by
  rcases kpF_ap l n with h | ⟨K, h⟩
  · rw [h]; simp [cntLL]
  · rw [h]; exact Nat.le_trans (cnt_filter _ _) (apF_cnt n)
theorem kpF_short (l : List UInt8) (n : Int) : ∀ X ∈ kpF l n, X.length ≤ 4611686018427387904 := by
  intro X hX
  rcases kpF_ap l n with h | ⟨K, h⟩
  · rw [h] at hX; simp at hX
  · rw [h] at hX; exact apF_short2 n X ((List.mem_filter.1 hX).1)
set_option maxRecDepth 4000 in
set_option maxHeartbeats 2000000 in
theorem iKindParts_any (s : ByteArray) (hs : s.size ≤ maxLen) (n : Int) (w : World) :
    Calls Try.prog 18 #[.string s, .int .i64 n] w fun e w' => ∃ (a' : Option Addr) (c' : Nat) (us : List Value), e = .returned (.slice a' (kpF s.data.toList n).length c') ∧ OwnLL w' w.heap.size w'.heap.size 25 3 (.slice a' (kpF s.data.toList n).length c') us (kpF s.data.toList n) ∧ Below w.heap.size w w' := by
  cases hk : kindOf s.data.toList with
  | none =>
    have HF := Lib.hid (kpF_none hk n)
    go_enter Try.func18, Try.ntmps18
    go_wp2_with (go_at_call 35; refine (kindsByName_any _).mono ?_; rintro e w1 ⟨b, n, f, rfl, km, kt, hb1⟩; have kt0 := kt s.data.toList; rw [hk] at kt0; have hlk := km.look_no s hs kt0)
    go_ret
    rw [HF.out]
    exact ⟨none, 0, [], rfl, (OwnLL.nil _ _ _ _).lower hb1.size, hb1⟩
  | some K =>
    by_cases h : 0 ≤ n ∧ n ≤ 12
    · obtain ⟨h1, h2⟩ := h
      obtain ⟨n, rfl⟩ := Int.eq_ofNat_of_zero_le h1
      have hn : n ≤ 12 := by omega
      have HF := Lib.hid (kpF_some hk hn)
      clear h1 h2
      go_enter Try.func18, Try.ntmps18
      go_wp2_with (first
        | (go_at_call 41; refine (listWhere_any n hn _ K _ hKK.out).mono ?_; rintro e w2 ⟨a', c', us, rfl, hLL, hb2⟩; rw [← HF.out] at hLL ⊢)
        | (go_at_call 35; refine (kindsByName_any _).mono ?_; rintro e w1 ⟨b, nn, f, rfl, km, kt, hb1⟩; have kt0 := kt s.data.toList; rw [hk] at kt0; obtain ⟨v, hfv, hik⟩ := kt0; have hKK := Lib.hid hik.isK; obtain ⟨f1, p1, c1, rfl, he1, hK1⟩ := hik.isK; have hlk := km.look_ok s hs hfv; clear hK1))
      go_ret
      exact ⟨a', c', us, rfl, hLL.lower hb1.size, hb1.trans (hb2.mono hb1.size)⟩
    · have HF := Lib.hid (kpF_out (l := s.data.toList) h)
      have HN := Lib.hid h
      clear h
      go_enter Try.func18, Try.ntmps18
      go_wp2_with (first
        | (go_at_call 41; refine (listWhere_no n HN.out _ _).mono ?_; rintro e w2 ⟨rfl, hb2⟩)
        | (go_at_call 35; refine (kindsByName_any _).mono ?_; rintro e w1 ⟨b, nn, f, rfl, km, kt, hb1⟩; have kt0 := kt s.data.toList; rw [hk] at kt0; obtain ⟨v, hfv, hik⟩ := kt0; obtain ⟨f1, p1, c1, rfl, he1, hK1⟩ := hik.isK; have hlk := km.look_ok s hs hfv; clear hK1))
      go_ret
      rw [HF.out]
      have hb := hb1.trans (hb2.mono hb1.size)
      exact ⟨none, 0, [], rfl, (OwnLL.nil _ _ _ _).lower hb.size, hb⟩
set_option maxRecDepth 4000 in
set_option maxHeartbeats 2000000 in
theorem iKindCount_any (s : ByteArray) (hs : s.size ≤ maxLen) (n : Int) (w : World) :
    Calls Try.prog 11 #[.string s, .int .i64 n] w fun e w' => e = .returned (.int .i64 (kcF s.data.toList n)) ∧ Below w.heap.size w w' := by
  cases hk : kindOf s.data.toList with
  | none =>
    have HF := Lib.hid (kcF_none hk n)
    go_enter Try.func11, Try.ntmps11
    go_wp2_with (go_at_call 35; refine (kindsByName_any _).mono ?_; rintro e w1 ⟨b, n, f, rfl, km, kt, hb1⟩; have kt0 := kt s.data.toList; rw [hk] at kt0; have hlk := km.look_no s hs kt0)
    go_ret
    exact ⟨ret_i64 HF.out.symm, hb1⟩
  | some K =>
    by_cases h : 0 ≤ n ∧ n ≤ 12
    · obtain ⟨h1, h2⟩ := h
      obtain ⟨n, rfl⟩ := Int.eq_ofNat_of_zero_le h1
      have hn : n ≤ 12 := by omega
      have HC := Lib.hid (kcF_some hk hn)
      go_enter Try.func11, Try.ntmps11
      go_wp2_with (first
        | (go_at_call 18; refine (iKindParts_any s hs (n : Int) _).mono ?_; rintro e w2 ⟨a', c', us, rfl, hLL, hb2⟩)
        | (go_at_call 35; refine (kindsByName_any _).mono ?_; rintro e w1 ⟨b, nn, f, rfl, km, kt, hb1⟩; have kt0 := kt s.data.toList; rw [hk] at kt0; obtain ⟨v, hfv, hik⟩ := kt0; obtain ⟨f1, p1, c1, rfl, he1, hK1⟩ := hik.isK; have hlk := km.look_ok s hs hfv; clear hK1))
      go_ret
      exact ⟨ret_i64 HC.out.symm, hb1.trans (hb2.mono hb1.size)⟩
    · have HF := Lib.hid (kcF_out (l := s.data.toList) h)
      have HN : Hid (n < 0 ∨ 12 < n) := Lib.hid (by omega)
      by_cases h0 : n < 0
      · clear h
        go_enter Try.func11, Try.ntmps11
        go_wp2_with (go_at_call 35; refine (kindsByName_any _).mono ?_; rintro e w1 ⟨b, nn, f, rfl, km, kt, hb1⟩; have kt0 := kt s.data.toList; rw [hk] at kt0; obtain ⟨v, hfv, hik⟩ := kt0; obtain ⟨f1, p1, c1, rfl, he1, hK1⟩ := hik.isK; have hlk := km.look_ok s hs hfv; clear hK1)
        go_ret
        exact ⟨ret_i64 HF.out.symm, hb1⟩
      · have h12 : 12 < n := by omega
        clear h
        go_enter Try.func11, Try.ntmps11
        go_wp2_with (go_at_call 35; refine (kindsByName_any _).mono ?_; rintro e w1 ⟨b, nn, f, rfl, km, kt, hb1⟩; have kt0 := kt s.data.toList; rw [hk] at kt0; obtain ⟨v, hfv, hik⟩ := kt0; obtain ⟨f1, p1, c1, rfl, he1, hK1⟩ := hik.isK; have hlk := km.look_ok s hs hfv; clear hK1)
        go_ret
        exact ⟨ret_i64 HF.out.symm, hb1⟩
end Go.Proofs.Ytifhnjnpbpgjfaa
namespace Go.Proofs.Ytifhnjnpbpgjfaa
open Go.RowKit NP
set_option maxRecDepth 8000
set_option linter.unusedVariables false

theorem chg_low2 {a b c : World} {g : Nat} (hb : Below a.heap.size a b) (hg : a.heap.size ≤ g) (h : b.grownBy c (some g)) : Below a.heap.size a c := hb.grown h hb.size fun k hk => by injection hk with hk; omega

theorem DrawCountParts_any (a : Option Addr) (c B : Nat) (bs : List Int) (w : World) (h : Rd w B a (bs.map (Value.int .u8))) (hB : B ≤ w.heap.size) (hb : ∀ n ∈ bs, (Lit.int .u8 n).wf = true) (hl : bs.length ≤ 1048576) (hc : bs.length ≤ c) :
    Calls Try.prog 29 #[.slice a bs.length c] w fun e w' => ∃ x : Int, e = .returned (.int .i64 x) ∧ (-1000 ≤ x ∧ x ≤ 1000) ∧ Below w.heap.size w w' := by
  go_enter Try.func29, Try.ntmps29
  go_wp2_with fail
  refine (newReader_any _ _ B bs _ h hB hb hl hc).mono ?_
  rintro e w1 ⟨rfl, h1, hb1, -⟩
  go_wp2_with fail
  refine (one_any w.heap.size 0 _ _ _ [8, 12, 5, 20, 3, 16, 25, 1, 0, 30, 10, 41, -1] _ _ (by simp) (by simp) (by omega) (h1.below ((Below.refl _ _).alloc h1.lt _)) (rd_new w1 _ _) (by intro b o e; injection e with e; injection e with e; have := h1.lt; omega)).mono ?_
  rintro e w2 ⟨k, hk, rfl, h2, hg2, -⟩
  have hx : ∀ x ∈ ([8, 12, 5, 20, 3, 16, 25, 1, 0, 30, 10, 41, -1] : List Int), -1000 ≤ x ∧ x ≤ 1000 := by intro x hx; simp only [List.mem_cons, List.not_mem_nil, or_false] at hx; omega
  have hx2 := hx _ (List.getElem_mem hk)
  obtain ⟨x2, hxx⟩ : ∃ x, x = ([8, 12, 5, 20, 3, 16, 25, 1, 0, 30, 10, 41, -1] : List Int)[k] := ⟨_, rfl⟩
  rw [← hxx] at hx2 ⊢
  clear hx hxx hk
  have hb2 : Below w.heap.size w w2 := chg_low2 (hb1.alloc hb1.size _) (Nat.le_refl _) hg2
  clear hg2
  go_wp2_with fail
  go_ret
  exact ⟨x2, rfl, hx2, hb2⟩




theorem DrawSquareSum_any (a : Option Addr) (c B : Nat) (bs : List Int) (w : World) (h : Rd w B a (bs.map (Value.int .u8))) (hB : B ≤ w.heap.size) (hb : ∀ n ∈ bs, (Lit.int .u8 n).wf = true) (hl : bs.length ≤ 1048576) (hc : bs.length ≤ c) :
    Calls Try.prog 7 #[.slice a bs.length c] w fun e w' => ∃ x : Int, e = .returned (.int .i64 x) ∧ (-1000 ≤ x ∧ x ≤ 1000) ∧ Below w.heap.size w w' := by
  go_enter Try.func7, Try.ntmps7
  go_wp2_with fail
  refine (DrawCountParts_any _ _ B bs _ h hB hb hl hc).mono ?_
  rintro e w1 ⟨x, rfl, hx, hb1⟩
  go_wp2_with fail
  go_ret
  exact ⟨x, rfl, hx, hb1⟩

theorem DrawSelfCount_any (a : Option Addr) (c B : Nat) (bs : List Int) (w : World) (h : Rd w B a (bs.map (Value.int .u8))) (hB : B ≤ w.heap.size) (hb : ∀ n ∈ bs, (Lit.int .u8 n).wf = true) (hl : bs.length ≤ 1048576) (hc : bs.length ≤ c) :
    Calls Try.prog 12 #[.slice a bs.length c] w fun e w' => ∃ x : Int, e = .returned (.int .i64 x) ∧ (-1000 ≤ x ∧ x ≤ 1000) ∧ Below w.heap.size w w' := by
  go_enter Try.func12, Try.ntmps12
  go_wp2_with fail
  refine (DrawCountParts_any _ _ B bs _ h hB hb hl hc).mono ?_
  rintro e w1 ⟨x, rfl, hx, hb1⟩
  go_wp2_with fail
  go_ret
  exact ⟨x, rfl, hx, hb1⟩



end Go.Proofs.Ytifhnjnpbpgjfaa
namespace Go.Proofs.Ytifhnjnpbpgjfaa
open Go.RowKit NP
set_option maxRecDepth 8000
set_option linter.unusedVariables false




end Go.Proofs.Ytifhnjnpbpgjfaa
