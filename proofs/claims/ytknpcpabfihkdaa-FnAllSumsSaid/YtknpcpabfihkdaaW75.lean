/-
  All summands with a sum: how many, how long; the power of the laws.
-/
import Derived.Test.YtknpcpabfihkdaaW71
namespace Go.Proofs.Ytknpcpabfihkdaa
open Go.RowKit NP
set_option linter.unusedVariables false
theorem asTab : (List.range 9).all (fun k => decide ((allS k).length ≤ 1000) && decide (cntLL (allS k) ≤ 2000)) = true := by decide +kernel
theorem asF_few (n : Int) : (asF n).length ≤ 1000 := by
  unfold asF
  split
  · have := List.all_eq_true.1 asTab n.toNat (by simp; omega)
    simp at this
    exact this.1
  · simp
theorem asF_cnt (n : Int) : cntLL (asF n) ≤ 2000 := by
  unfold asF
  split
  · have := List.all_eq_true.1 asTab n.toNat (by simp; omega)
    simp at this
    exact this.2
  · simp [cntLL]
theorem asF_short (n : Int) : ∀ X ∈ asF n, X.length ≤ 4611686018427387904 := by
  intro X hX
  unfold asF at hX
  split at hX
  · unfold allS at hX
    obtain ⟨m, -, rfl⟩ := List.mem_map.1 hX
    have := smk_len16 m (show n.toNat ≤ 16 by omega)
    omega
  · simp at hX
theorem as_at {m k : Nat} (hm : m ≤ 8) (hk : k < (allS m).length) : mkF ((allS m)[k]) = (k : Int) ∧ sumL ((allS m)[k]) = (m : Int) ∧ sumFits ((allS m)[k]) := by
  have hk' : k < 2 ^ (m - 1) := by rw [← allS_len]; exact hk
  have e : (allS m)[k] = smk m k := by simp [allS]
  rw [e]
  have hv := smk_ok (n := m) k (by omega)
  refine ⟨by rw [mkF_yes hv, mkN_smk hk'], smk_sum m k, fun j hj => by have := vsm_bd (vsm_take hv j); omega⟩
theorem lpower_any (n : Nat) (w : World) (hn : n ≤ 40) :
    Calls Try.prog 46 #[.int .i64 n] w fun e w' => e = .returned (.int .i64 ((2 ^ n : Nat) : Int)) ∧ w = w' := by
  go_enter Try.func46, Try.ntmps46
  go_wp2
  go_loop [0, 3] (fun i o => ∃ k : Nat, k ≤ n ∧ i = .int .i64 k ∧ ∃ p : Nat, Hid (p = 2 ^ (n - k)) ∧ p ≤ 1099511627776 ∧ o = .int .i64 p) (fun i _ => (intOf i).toNat)
  case atStart => exact ⟨n, Nat.le_refl _, rfl, 1, Lib.hid (by simp), by omega, rfl⟩
  case round =>
    obtain ⟨k, hk, rfl, p, HP, hp, rfl⟩ := hrel
    by_cases hlt : 0 < k
    · have HN : Hid (2 * p = 2 ^ (n - (k - 1))) := Lib.hid (by rw [HP.out, show n - (k - 1) = (n - k) + 1 by omega, Nat.pow_succ]; omega)
      have hb : 2 * p ≤ 1099511627776 := by
        have h1 : (2 : Nat) ^ (n - (k - 1)) ≤ 2 ^ 40 := Nat.pow_le_pow_right (by omega) (by omega)
        rw [HN.out]; omega
      have hlt' : (0 : Int) < k := by omega
      go_wp2
      go_round
      case rel => exact ⟨k - 1, by omega, by first | go_num | (congr 1; omega), 2 * p, HN, hb, by go_num⟩
      case measure => simp [intOf] <;> omega
    · obtain rfl : k = 0 := by omega
      go_wp2
      go_ret
      exact ⟨ret_i64 (by rw [HP.out]; simp), rfl⟩

end Go.Proofs.Ytknpcpabfihkdaa
