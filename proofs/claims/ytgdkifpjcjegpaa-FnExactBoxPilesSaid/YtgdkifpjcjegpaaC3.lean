/-
  Walks: SquareSum, SelfCount, DivisorSum, Pentagonal of the model and of the program.
-/
import Derived.Test.YtgdkifpjcjegpaaC2
import Derived.Test.YtgdkifpjcjegpaaM9
namespace Go.Proofs.Ytgdkifpjcjegpaa
open Go.RowKit NP
set_option linter.unusedVariables false

theorem same_below {P : Program} {f : FuncId} {args : Array Value} {w : World} {v : Value} (h : Calls P f args w fun e w' => e = .returned v ∧ w = w') : Calls P f args w fun e w' => e = .returned v ∧ Below w.heap.size w w' := h.mono fun _ _ ⟨a, b⟩ => ⟨a, b ▸ Below.refl _ _⟩





theorem divisors_any (n : Int) (h1 : 1 ≤ n) (h2 : n ≤ 40) (w : World) :
    Calls Try.prog 31 #[.int .i64 n, .bool false] w fun e w' => e = .returned (.int .i64 (dvs n n.toNat)) ∧ w = w' := by
  · go_enter Try.func31, Try.ntmps31
    go_wp2_with fail
    go_loop [5, 6] (fun s i => ∃ k : Nat, (k : Int) ≤ n ∧ i = .int .i64 ((k : Int) + 1) ∧ s = .int .i64 (dvs n k)) (fun _ i => 50 - (intOf i).toNat)
    case atStart => exact ⟨0, by omega, rfl, rfl⟩
    case round =>
      obtain ⟨k, hk, rfl, rfl⟩ := hrel
      have hb := dvs_bd n k (by omega)
      by_cases hlt : (k : Int) < n
      · have hlt' : (k : Int) + 1 ≤ n := by omega
        have hmod : n.tmod ((k : Int) + 1) = n % ((k : Int) + 1) := Int.tmod_eq_emod_of_nonneg (by omega)
        by_cases hd : n % ((k : Int) + 1) = 0
        · have hdb : (n % ((k : Int) + 1) == 0) = true := beq_iff_eq.2 hd
          have HS : Hid (dvs n (k + 1) = dvs n k + ((k : Int) + 1)) := Lib.hid (by simp only [dvs]; rw [if_pos hd])
          clear hd
          go_wp2_with fail
          go_round
          case rel => exact ⟨k + 1, by omega, by go_num, by rw [HS.out]⟩
          case measure => simp [intOf]; omega
        · have hdb : (n % ((k : Int) + 1) == 0) = false := beq_eq_false_iff_ne.2 hd
          have HS : Hid (dvs n (k + 1) = dvs n k) := Lib.hid (by simp only [dvs]; rw [if_neg hd, Int.add_zero])
          clear hd
          go_wp2_with fail
          go_round
          case rel => exact ⟨k + 1, by omega, by go_num, by rw [HS.out]⟩
          case measure => simp [intOf]; omega
      · have HN : Hid (n.toNat = k) := Lib.hid (by omega)
        have hlt' : n < (k : Int) + 1 := by omega
        clear hlt
        go_wp2_with fail
        go_ret
        exact ⟨ret_i64 (by rw [HN.out]), rfl⟩




end Go.Proofs.Ytgdkifpjcjegpaa
