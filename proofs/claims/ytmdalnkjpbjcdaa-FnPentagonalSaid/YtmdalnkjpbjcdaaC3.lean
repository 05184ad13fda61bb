/-
  Walks: SquareSum, SelfCount, DivisorSum, Pentagonal of the model and of the program.
-/
import Derived.Test.YtmdalnkjpbjcdaaC2
import Derived.Test.YtmdalnkjpbjcdaaM9
namespace Go.Proofs.Ytmdalnkjpbjcdaa
open Go.RowKit NP
set_option linter.unusedVariables false

theorem same_below {P : Program} {f : FuncId} {args : Array Value} {w : World} {v : Value} (h : Calls P f args w fun e w' => e = .returned v ∧ w = w') : Calls P f args w fun e w' => e = .returned v ∧ Below w.heap.size w w' := h.mono fun _ _ ⟨a, b⟩ => ⟨a, b ▸ Below.refl _ _⟩

theorem sSquareSum_any (n : Int) (w : World) :
    Calls Try.prog 33 #[.int .i64 n] w fun e w' => e = .returned (.int .i64 (sqF n)) ∧ w = w' := by
  by_cases h : 0 ≤ n ∧ n ≤ 40
  · have HF : Hid (sqF n = sqs n (isq n)) := Lib.hid (by unfold sqF; rw [if_pos h])
    rw [HF.out]
    obtain ⟨hn1, hn2⟩ := h
    go_enter Try.func33, Try.ntmps33
    go_wp2_with (go_at_call 37; refine (rngYes _ _ _ _ hn1 hn2).mono ?_; rintro e w1 ⟨rfl, rfl⟩)
    go_loop [3, 4] (fun s i => ∃ k : Nat, k ≤ 7 ∧ i = .int .i64 k ∧ s = .int .i64 (sqs n k) ∧ Hid (∀ j : Nat, j < k → (j : Int) * j ≤ n)) (fun _ i => 8 - (intOf i).toNat)
    case atStart => exact ⟨0, Nat.zero_le _, rfl, rfl, Lib.hid fun j hj => by omega⟩
    case round =>
        obtain ⟨k, hk7, rfl, rfl, HP⟩ := hrel
        obtain ⟨q, hq0, e1, e2, HQ⟩ : ∃ q : Int, (0 ≤ q ∧ q ≤ 49) ∧ wrap64 ((k : Int) * (k : Int)) = q ∧ IntKind.i64.wrap ((k : Int) * (k : Int)) = q ∧ Hid ((k : Int) * (k : Int) = q) := by
          have h0 := sq_nn k
          have h1 : (k : Int) * (k : Int) ≤ 49 := by
            rcases Nat.lt_or_ge k 7 with h | h
            · have := sq_lt k h; omega
            · obtain rfl : k = 7 := by omega
              decide
          exact ⟨_, ⟨h0, h1⟩, IntWalk.wrap64_in _ (by omega), IntWalk.i64_in _ (by omega), Lib.hid rfl⟩
        have hb := sqs_bd n hn2 k
        by_cases hle : q ≤ n
        · have hk6 : k < 7 := by
            rcases Nat.lt_or_ge k 7 with h | h
            · exact h
            · obtain rfl : k = 7 := by omega
              have := HQ.out
              omega
          have HS : Hid (sqs n (k + 1) = sqs n k + ctZ (n - q) k) := Lib.hid (by rw [← HQ.out]; rfl)
          have hbc := ctZ_bd (n - q) k (by omega)
          go_wp2_with (go_at_call 38; refine (countTo_at _ _ _ (by omega) (by omega) (by omega) (by omega)).mono ?_; rintro e w1 ⟨rfl, rfl⟩)
          go_round
          case rel => exact ⟨k + 1, by omega, by go_num, by rw [HS.out], Lib.hid fun j hj => by
            rcases Nat.lt_or_ge j k with h | h
            · exact HP.out j h
            · obtain rfl : j = k := by omega
              rw [HQ.out]; exact hle⟩
          case measure => simp [intOf]; omega
        · have HI : Hid (isq n = k) := Lib.hid (isq_eq hn2 hk7 HP.out (.inr (by rw [HQ.out]; omega)))
          have hle' : n < q := by omega
          clear hle
          go_wp2_with fail
          go_ret
          exact ⟨ret_i64 (by rw [HI.out]), rfl⟩
  · have HF : Hid (sqF n = -1) := Lib.hid (by unfold sqF; rw [if_neg h])
    rw [HF.out]
    have H := Lib.hid (by omega : n < 0 ∨ 40 < n)
    clear h
    go_enter Try.func33, Try.ntmps33
    go_wp2_with (go_at_call 37; refine (rngNo _ _ _ _ H.out).mono ?_; rintro e w1 ⟨rfl, rfl⟩)
    go_ret
    exact ⟨rfl, rfl⟩

theorem iSquareSum_any (n : Int) (w : World) :
    Calls Try.prog 34 #[.int .i64 n] w fun e w' => e = .returned (.int .i64 (sqF n)) ∧ Below w.heap.size w w' := by
  by_cases h : 0 ≤ n ∧ n ≤ 40
  · have HF : Hid (sqF n = sqs n (isq n)) := Lib.hid (by unfold sqF; rw [if_pos h])
    rw [HF.out]
    obtain ⟨hn1, hn2⟩ := h
    have g1 : decide (n < 0) = false := decide_eq_false (by omega)
    have g2 : decide (40 < n) = false := decide_eq_false (by omega)
    go_enter Try.func34, Try.ntmps34
    go_wp2_with fail
    go_loopw [3, 4] (fun s i wr => Below w.heap.size w wr ∧ ∃ k : Nat, k ≤ 7 ∧ i = .int .i64 k ∧ s = .int .i64 (sqs n k) ∧ Hid (∀ j : Nat, j < k → (j : Int) * j ≤ n)) (fun _ i _ => 8 - (intOf i).toNat)
    case atStart => exact ⟨Below.refl _ _, 0, Nat.zero_le _, rfl, rfl, Lib.hid fun j hj => by omega⟩
    case round =>
        obtain ⟨hbel, k, hk7, rfl, rfl, HP⟩ := hrel
        obtain ⟨q, hq0, e1, e2, HQ⟩ : ∃ q : Int, (0 ≤ q ∧ q ≤ 49) ∧ wrap64 ((k : Int) * (k : Int)) = q ∧ IntKind.i64.wrap ((k : Int) * (k : Int)) = q ∧ Hid ((k : Int) * (k : Int) = q) := by
          have h0 := sq_nn k
          have h1 : (k : Int) * (k : Int) ≤ 49 := by
            rcases Nat.lt_or_ge k 7 with h | h
            · have := sq_lt k h; omega
            · obtain rfl : k = 7 := by omega
              decide
          exact ⟨_, ⟨h0, h1⟩, IntWalk.wrap64_in _ (by omega), IntWalk.i64_in _ (by omega), Lib.hid rfl⟩
        have hb := sqs_bd n hn2 k
        by_cases hle : q ≤ n
        · have hk6 : k < 7 := by
            rcases Nat.lt_or_ge k 7 with h | h
            · exact h
            · obtain rfl : k = 7 := by omega
              have := HQ.out
              omega
          have HS : Hid (sqs n (k + 1) = sqs n k + ctZ (n - q) k) := Lib.hid (by rw [← HQ.out]; rfl)
          have hbc := ctZ_bd (n - q) k (by omega)
          have HA := Lib.hid (amF_in (n := n - q) (k := (k : Int)) ⟨by omega, by omega⟩ ⟨by omega, by omega⟩)
          go_wp2_with (go_at_call 20; refine (iAtMostParts_any _ _ _).mono ?_; rintro e w2 ⟨rfl, hb2⟩; rw [HA.out])
          have hbel2 := hbel.trans (hb2.mono hbel.size)
          go_roundw
          case rel => exact ⟨hbel2, k + 1, by omega, by go_num, by rw [HS.out], Lib.hid fun j hj => by
            rcases Nat.lt_or_ge j k with h | h
            · exact HP.out j h
            · obtain rfl : j = k := by omega
              rw [HQ.out]; exact hle⟩
          case measure => simp [intOf]; omega
        · have HI : Hid (isq n = k) := Lib.hid (isq_eq hn2 hk7 HP.out (.inr (by rw [HQ.out]; omega)))
          have hle' : n < q := by omega
          clear hle
          go_wp2_with fail
          go_ret
          exact ⟨ret_i64 (by rw [HI.out]), hbel⟩
  · have HF : Hid (sqF n = -1) := Lib.hid (by unfold sqF; rw [if_neg h])
    rw [HF.out]
    by_cases h1 : n < 0
    · have g1 : decide (n < 0) = true := decide_eq_true h1
      clear h h1
      go_enter Try.func34, Try.ntmps34
      go_wp2
      go_ret
      exact ⟨rfl, Below.refl _ _⟩
    · have g1 : decide (n < 0) = false := decide_eq_false h1
      have g2 : decide (40 < n) = true := decide_eq_true (by omega)
      clear h h1
      go_enter Try.func34, Try.ntmps34
      go_wp2
      go_ret
      exact ⟨rfl, Below.refl _ _⟩

theorem sSelfCount_any (n : Int) (w : World) :
    Calls Try.prog 35 #[.int .i64 n] w fun e w' => e = .returned (.int .i64 (scF n)) ∧ w = w' := by
  by_cases h : 0 ≤ n ∧ n ≤ 40
  · have HF : Hid (scF n = scs n (isq n)) := Lib.hid (by unfold scF; rw [if_pos h])
    rw [HF.out]
    obtain ⟨hn1, hn2⟩ := h
    go_enter Try.func35, Try.ntmps35
    go_wp2_with (go_at_call 37; refine (rngYes _ _ _ _ hn1 hn2).mono ?_; rintro e w1 ⟨rfl, rfl⟩)
    go_loop [3, 4] (fun s i => ∃ k : Nat, k ≤ 7 ∧ i = .int .i64 k ∧ s = .int .i64 (scs n k) ∧ Hid (∀ j : Nat, j < k → (j : Int) * j ≤ n)) (fun _ i => 8 - (intOf i).toNat)
    case atStart => exact ⟨0, Nat.zero_le _, rfl, rfl, Lib.hid fun j hj => by omega⟩
    case round =>
        obtain ⟨k, hk7, rfl, rfl, HP⟩ := hrel
        obtain ⟨q, hq0, e1, e2, HQ⟩ : ∃ q : Int, (0 ≤ q ∧ q ≤ 49) ∧ wrap64 ((k : Int) * (k : Int)) = q ∧ IntKind.i64.wrap ((k : Int) * (k : Int)) = q ∧ Hid ((k : Int) * (k : Int) = q) := by
          have h0 := sq_nn k
          have h1 : (k : Int) * (k : Int) ≤ 49 := by
            rcases Nat.lt_or_ge k 7 with h | h
            · have := sq_lt k h; omega
            · obtain rfl : k = 7 := by omega
              decide
          exact ⟨_, ⟨h0, h1⟩, IntWalk.wrap64_in _ (by omega), IntWalk.i64_in _ (by omega), Lib.hid rfl⟩
        have hb := scs_bd n hn2 k
        by_cases hle : q ≤ n
        · have hk6 : k < 7 := by
            rcases Nat.lt_or_ge k 7 with h | h
            · exact h
            · obtain rfl : k = 7 := by omega
              have := HQ.out
              omega
          by_cases hev : (n - q) % 2 = 0
          · have hevb : ((n - q) % 2 == 0) = true := beq_iff_eq.2 hev
            have HS : Hid (scs n (k + 1) = scs n k + ctZ ((n - q) / 2) k) := Lib.hid (by rw [← HQ.out] at hev ⊢; simp only [scs]; rw [if_pos hev])
            have hbc := ctZ_bd ((n - q) / 2) k (by omega)
            have HEV := Lib.hid hev
            clear hev
            go_wp2_with (go_at_call 38; refine (countTo_at _ _ _ (by omega) (by omega) (by omega) (by omega)).mono ?_; rintro e w1 ⟨rfl, rfl⟩)
            go_round
            case rel => exact ⟨k + 1, by omega, by go_num, by rw [HS.out], Lib.hid fun j hj => by
              rcases Nat.lt_or_ge j k with h | h
              · exact HP.out j h
              · obtain rfl : j = k := by omega
                rw [HQ.out]; exact hle⟩
            case measure => simp [intOf]; omega
          · have hevb : ((n - q) % 2 == 0) = false := beq_eq_false_iff_ne.2 hev
            have HS : Hid (scs n (k + 1) = scs n k) := Lib.hid (by rw [← HQ.out] at hev; simp only [scs]; rw [if_neg hev, Int.add_zero])
            clear hev
            go_wp2_with fail
            go_round
            case rel => exact ⟨k + 1, by omega, by go_num, by rw [HS.out], Lib.hid fun j hj => by
              rcases Nat.lt_or_ge j k with h | h
              · exact HP.out j h
              · obtain rfl : j = k := by omega
                rw [HQ.out]; exact hle⟩
            case measure => simp [intOf]; omega
        · have HI : Hid (isq n = k) := Lib.hid (isq_eq hn2 hk7 HP.out (.inr (by rw [HQ.out]; omega)))
          have hle' : n < q := by omega
          clear hle
          go_wp2_with fail
          go_ret
          exact ⟨ret_i64 (by rw [HI.out]), rfl⟩
  · have HF : Hid (scF n = -1) := Lib.hid (by unfold scF; rw [if_neg h])
    rw [HF.out]
    have H := Lib.hid (by omega : n < 0 ∨ 40 < n)
    clear h
    go_enter Try.func35, Try.ntmps35
    go_wp2_with (go_at_call 37; refine (rngNo _ _ _ _ H.out).mono ?_; rintro e w1 ⟨rfl, rfl⟩)
    go_ret
    exact ⟨rfl, rfl⟩

theorem iSelfCount_any (n : Int) (w : World) :
    Calls Try.prog 36 #[.int .i64 n] w fun e w' => e = .returned (.int .i64 (scF n)) ∧ Below w.heap.size w w' := by
  by_cases h : 0 ≤ n ∧ n ≤ 40
  · have HF : Hid (scF n = scs n (isq n)) := Lib.hid (by unfold scF; rw [if_pos h])
    rw [HF.out]
    obtain ⟨hn1, hn2⟩ := h
    have g1 : decide (n < 0) = false := decide_eq_false (by omega)
    have g2 : decide (40 < n) = false := decide_eq_false (by omega)
    go_enter Try.func36, Try.ntmps36
    go_wp2_with fail
    go_loopw [3, 4] (fun s i wr => Below w.heap.size w wr ∧ ∃ k : Nat, k ≤ 7 ∧ i = .int .i64 k ∧ s = .int .i64 (scs n k) ∧ Hid (∀ j : Nat, j < k → (j : Int) * j ≤ n)) (fun _ i _ => 8 - (intOf i).toNat)
    case atStart => exact ⟨Below.refl _ _, 0, Nat.zero_le _, rfl, rfl, Lib.hid fun j hj => by omega⟩
    case round =>
        obtain ⟨hbel, k, hk7, rfl, rfl, HP⟩ := hrel
        obtain ⟨q, hq0, e1, e2, HQ⟩ : ∃ q : Int, (0 ≤ q ∧ q ≤ 49) ∧ wrap64 ((k : Int) * (k : Int)) = q ∧ IntKind.i64.wrap ((k : Int) * (k : Int)) = q ∧ Hid ((k : Int) * (k : Int) = q) := by
          have h0 := sq_nn k
          have h1 : (k : Int) * (k : Int) ≤ 49 := by
            rcases Nat.lt_or_ge k 7 with h | h
            · have := sq_lt k h; omega
            · obtain rfl : k = 7 := by omega
              decide
          exact ⟨_, ⟨h0, h1⟩, IntWalk.wrap64_in _ (by omega), IntWalk.i64_in _ (by omega), Lib.hid rfl⟩
        have hb := scs_bd n hn2 k
        by_cases hle : q ≤ n
        · have hk6 : k < 7 := by
            rcases Nat.lt_or_ge k 7 with h | h
            · exact h
            · obtain rfl : k = 7 := by omega
              have := HQ.out
              omega
          by_cases hev : (n - q) % 2 = 0
          · have hevb : ((n - q) % 2 == 0) = true := beq_iff_eq.2 hev
            have HS : Hid (scs n (k + 1) = scs n k + ctZ ((n - q) / 2) k) := Lib.hid (by rw [← HQ.out] at hev ⊢; simp only [scs]; rw [if_pos hev])
            have hbc := ctZ_bd ((n - q) / 2) k (by omega)
            have HEV := Lib.hid hev
            clear hev
            have HA := Lib.hid (amF_in (n := (n - q) / 2) (k := (k : Int)) ⟨by omega, by omega⟩ ⟨by omega, by omega⟩)
            go_wp2_with (go_at_call 20; refine (iAtMostParts_any _ _ _).mono ?_; rintro e w2 ⟨rfl, hb2⟩; rw [HA.out])
            have hbel2 := hbel.trans (hb2.mono hbel.size)
            go_roundw
            case rel => exact ⟨hbel2, k + 1, by omega, by go_num, by rw [HS.out], Lib.hid fun j hj => by
              rcases Nat.lt_or_ge j k with h | h
              · exact HP.out j h
              · obtain rfl : j = k := by omega
                rw [HQ.out]; exact hle⟩
            case measure => simp [intOf]; omega
          · have hevb : ((n - q) % 2 == 0) = false := beq_eq_false_iff_ne.2 hev
            have HS : Hid (scs n (k + 1) = scs n k) := Lib.hid (by rw [← HQ.out] at hev; simp only [scs]; rw [if_neg hev, Int.add_zero])
            clear hev
            go_wp2_with fail
            go_roundw
            case rel => exact ⟨hbel, k + 1, by omega, by go_num, by rw [HS.out], Lib.hid fun j hj => by
              rcases Nat.lt_or_ge j k with h | h
              · exact HP.out j h
              · obtain rfl : j = k := by omega
                rw [HQ.out]; exact hle⟩
            case measure => simp [intOf]; omega
        · have HI : Hid (isq n = k) := Lib.hid (isq_eq hn2 hk7 HP.out (.inr (by rw [HQ.out]; omega)))
          have hle' : n < q := by omega
          clear hle
          go_wp2_with fail
          go_ret
          exact ⟨ret_i64 (by rw [HI.out]), hbel⟩
  · have HF : Hid (scF n = -1) := Lib.hid (by unfold scF; rw [if_neg h])
    rw [HF.out]
    by_cases h1 : n < 0
    · have g1 : decide (n < 0) = true := decide_eq_true h1
      clear h h1
      go_enter Try.func36, Try.ntmps36
      go_wp2
      go_ret
      exact ⟨rfl, Below.refl _ _⟩
    · have g1 : decide (n < 0) = false := decide_eq_false h1
      have g2 : decide (40 < n) = true := decide_eq_true (by omega)
      clear h h1
      go_enter Try.func36, Try.ntmps36
      go_wp2
      go_ret
      exact ⟨rfl, Below.refl _ _⟩

theorem divisors_any (n : Int) (h1 : 1 ≤ n) (h2 : n ≤ 40) (w : World) :
    Calls Try.prog 47 #[.int .i64 n, .bool false] w fun e w' => e = .returned (.int .i64 (dvs n n.toNat)) ∧ w = w' := by
  · go_enter Try.func47, Try.ntmps47
    go_wp2_with fail
    go_loop [5, 6] (fun s i => ∃ k : Nat, (k : Int) ≤ n ∧ i = .int .i64 ((k : Int) + 1) ∧ s = .int .i64 (dvs n k)) (fun _ i => 50 - (intOf i).toNat)
    case atStart => exact ⟨0, by omega, rfl, rfl⟩
    case round =>
      obtain ⟨k, hk, rfl, rfl⟩ := hrel
      have hb := dvs_bd n k (by omega)
      by_cases hlt : (k : Int) < n
      · have hlt' : (k : Int) + 1 ≤ n := by omega
        have hmod : n.tmod ((k : Int) + 1) = n % ((k : Int) + 1) := Int.tmod_eq_emod_of_nonneg (by omega)
        by_cases hd : n % ((k : Int) + 1) = 0
        · have hdb : (n % ((k : Int) + 1) == 0) = true := beq_iff_eq.2 hd
          have HS : Hid (dvs n (k + 1) = dvs n k + ((k : Int) + 1)) := Lib.hid (by simp only [dvs]; rw [if_pos hd])
          clear hd
          go_wp2_with fail
          go_round
          case rel => exact ⟨k + 1, by omega, by go_num, by rw [HS.out]⟩
          case measure => simp [intOf]; omega
        · have hdb : (n % ((k : Int) + 1) == 0) = false := beq_eq_false_iff_ne.2 hd
          have HS : Hid (dvs n (k + 1) = dvs n k) := Lib.hid (by simp only [dvs]; rw [if_neg hd, Int.add_zero])
          clear hd
          go_wp2_with fail
          go_round
          case rel => exact ⟨k + 1, by omega, by go_num, by rw [HS.out]⟩
          case measure => simp [intOf]; omega
      · have HN : Hid (n.toNat = k) := Lib.hid (by omega)
        have hlt' : n < (k : Int) + 1 := by omega
        clear hlt
        go_wp2_with fail
        go_ret
        exact ⟨ret_i64 (by rw [HN.out]), rfl⟩

theorem sDivisorSum_any (n : Int) (w : World) :
    Calls Try.prog 32 #[.int .i64 n] w fun e w' => e = .returned (.int .i64 (dvF n)) ∧ w = w' := by
  by_cases h : 1 ≤ n ∧ n ≤ 40
  · have HF : Hid (dvF n = dvs n n.toNat) := Lib.hid (by unfold dvF; rw [if_pos h])
    rw [HF.out]
    obtain ⟨h1, h2⟩ := h
    go_enter Try.func32, Try.ntmps32
    go_wp2_with (first | (go_at_call 37; refine (rngYes _ _ _ _ h1 h2).mono ?_; rintro e w1 ⟨rfl, rfl⟩) | (go_at_call 47; refine (divisors_any n h1 h2 _).mono ?_; rintro e w1 ⟨rfl, rfl⟩))
    go_ret
    exact ⟨rfl, rfl⟩
  · have HF : Hid (dvF n = -1) := Lib.hid (by unfold dvF; rw [if_neg h])
    rw [HF.out]
    have H := Lib.hid (by omega : n < 1 ∨ 40 < n)
    clear h
    go_enter Try.func32, Try.ntmps32
    go_wp2_with (go_at_call 37; refine (rngNo _ _ _ _ H.out).mono ?_; rintro e w1 ⟨rfl, rfl⟩)
    go_ret
    exact ⟨rfl, rfl⟩

theorem iDivisorSum_any (n : Int) (w : World) :
    Calls Try.prog 31 #[.int .i64 n] w fun e w' => e = .returned (.int .i64 (dvF n)) ∧ Below w.heap.size w w' := by
  by_cases h : 1 ≤ n ∧ n ≤ 40
  · have HF : Hid (dvF n = dvs n n.toNat) := Lib.hid (by unfold dvF; rw [if_pos h])
    rw [HF.out]
    have g1 : decide (n < 1) = false := decide_eq_false (by omega)
    have g2 : decide (40 < n) = false := decide_eq_false (by omega)
    obtain ⟨h1, h2⟩ := h
    go_enter Try.func31, Try.ntmps31
    go_wp2_with fail
    go_loop [3, 4] (fun s i => ∃ k : Nat, (k : Int) ≤ n ∧ i = .int .i64 ((k : Int) + 1) ∧ s = .int .i64 (dvs n k)) (fun _ i => 50 - (intOf i).toNat)
    case atStart => exact ⟨0, by omega, rfl, rfl⟩
    case round =>
      obtain ⟨k, hk, rfl, rfl⟩ := hrel
      have hb := dvs_bd n k (by omega)
      by_cases hlt : (k : Int) < n
      · have hlt' : (k : Int) + 1 ≤ n := by omega
        have hmod : n.tmod ((k : Int) + 1) = n % ((k : Int) + 1) := Int.tmod_eq_emod_of_nonneg (by omega)
        by_cases hd : n % ((k : Int) + 1) = 0
        · have hdb : (n % ((k : Int) + 1) == 0) = true := beq_iff_eq.2 hd
          have HS : Hid (dvs n (k + 1) = dvs n k + ((k : Int) + 1)) := Lib.hid (by simp only [dvs]; rw [if_pos hd])
          clear hd
          go_wp2_with fail
          go_round
          case rel => exact ⟨k + 1, by omega, by go_num, by rw [HS.out]⟩
          case measure => simp [intOf]; omega
        · have hdb : (n % ((k : Int) + 1) == 0) = false := beq_eq_false_iff_ne.2 hd
          have HS : Hid (dvs n (k + 1) = dvs n k) := Lib.hid (by simp only [dvs]; rw [if_neg hd, Int.add_zero])
          clear hd
          go_wp2_with fail
          go_round
          case rel => exact ⟨k + 1, by omega, by go_num, by rw [HS.out]⟩
          case measure => simp [intOf]; omega
      · have HN : Hid (n.toNat = k) := Lib.hid (by omega)
        have hlt' : n < (k : Int) + 1 := by omega
        clear hlt
        go_wp2_with fail
        go_ret
        exact ⟨ret_i64 (by rw [HN.out]), Below.refl _ _⟩
  · have HF : Hid (dvF n = -1) := Lib.hid (by unfold dvF; rw [if_neg h])
    rw [HF.out]
    by_cases h1 : n < 1
    · have g1 : decide (n < 1) = true := decide_eq_true h1
      clear h h1
      go_enter Try.func31, Try.ntmps31
      go_wp2
      go_ret
      exact ⟨rfl, Below.refl _ _⟩
    · have g1 : decide (n < 1) = false := decide_eq_false h1
      have g2 : decide (40 < n) = true := decide_eq_true (by omega)
      clear h h1
      go_enter Try.func31, Try.ntmps31
      go_wp2
      go_ret
      exact ⟨rfl, Below.refl _ _⟩

theorem sPentagonal_any (n : Int) (w : World) :
    Calls Try.prog 29 #[.int .i64 n] w fun e w' => e = .returned (.int .i64 (pnF n)) ∧ w = w' := by
  by_cases h : -100 ≤ n ∧ n ≤ 100
  · have HF : Hid (pnF n = n * (3 * n - 1) / 2) := Lib.hid (by unfold pnF; rw [if_pos h])
    rw [HF.out]
    obtain ⟨h1, h2⟩ := h
    have hb := pn_bd n h1 h2
    obtain ⟨q, hq0, e1, e2, HQ⟩ : ∃ q : Int, (0 ≤ q ∧ q ≤ 30100) ∧ wrap64 (n * (3 * n - 1)) = q ∧ IntKind.i64.wrap (n * (3 * n - 1)) = q ∧ Hid (n * (3 * n - 1) = q) := ⟨_, hb, IntWalk.wrap64_in _ (by omega), IntWalk.i64_in _ (by omega), Lib.hid rfl⟩
    clear hb
    rw [HQ.out]
    go_enter Try.func29, Try.ntmps29
    go_wp2_with (go_at_call 37; refine (rngYes _ _ _ _ h1 h2).mono ?_; rintro e w1 ⟨rfl, rfl⟩)
    go_ret
    exact ⟨rfl, rfl⟩
  · have HF : Hid (pnF n = -1) := Lib.hid (by unfold pnF; rw [if_neg h])
    rw [HF.out]
    have H := Lib.hid (by omega : n < -100 ∨ 100 < n)
    clear h
    go_enter Try.func29, Try.ntmps29
    go_wp2_with (go_at_call 37; refine (rngNo _ _ _ _ H.out).mono ?_; rintro e w1 ⟨rfl, rfl⟩)
    go_ret
    exact ⟨rfl, rfl⟩

theorem iPentagonal_any (n : Int) (w : World) :
    Calls Try.prog 27 #[.int .i64 n] w fun e w' => e = .returned (.int .i64 (pnF n)) ∧ Below w.heap.size w w' := by
  by_cases h : -100 ≤ n ∧ n ≤ 100
  · have HF : Hid (pnF n = n * (3 * n - 1) / 2) := Lib.hid (by unfold pnF; rw [if_pos h])
    rw [HF.out]
    have g1 : decide (n < -100) = false := decide_eq_false (by omega)
    have g2 : decide (100 < n) = false := decide_eq_false (by omega)
    obtain ⟨h1, h2⟩ := h
    have hb := pn_bd n h1 h2
    obtain ⟨q, hq0, e1, e2, HQ⟩ : ∃ q : Int, (0 ≤ q ∧ q ≤ 30100) ∧ wrap64 (n * (3 * n - 1)) = q ∧ IntKind.i64.wrap (n * (3 * n - 1)) = q ∧ Hid (n * (3 * n - 1) = q) := ⟨_, hb, IntWalk.wrap64_in _ (by omega), IntWalk.i64_in _ (by omega), Lib.hid rfl⟩
    clear hb
    rw [HQ.out]
    go_enter Try.func27, Try.ntmps27
    go_wp2_with fail
    go_ret
    exact ⟨rfl, Below.refl _ _⟩
  · have HF : Hid (pnF n = -1) := Lib.hid (by unfold pnF; rw [if_neg h])
    rw [HF.out]
    by_cases h1 : n < -100
    · have g1 : decide (n < -100) = true := decide_eq_true h1
      clear h h1
      go_enter Try.func27, Try.ntmps27
      go_wp2
      go_ret
      exact ⟨rfl, Below.refl _ _⟩
    · have g1 : decide (n < -100) = false := decide_eq_false h1
      have g2 : decide (100 < n) = true := decide_eq_true (by omega)
      clear h h1
      go_enter Try.func27, Try.ntmps27
      go_wp2
      go_ret
      exact ⟨rfl, Below.refl _ _⟩
end Go.Proofs.Ytmdalnkjpbjcdaa
