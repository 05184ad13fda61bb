/-
  Walks: sum, validParts, ValidParts, SumOf of the model.
-/
import Derived.Test.YtknpcpabfihkdaaProg
import Derived.Test.YtknpcpabfihkdaaMath
import Derived.Test.YtknpcpabfihkdaaBase
import Derived.Deep.QuietTactic
import Derived.BigQuiet
import Derived.Lib.Hide
namespace Go.Proofs.Ytknpcpabfihkdaa
open Go.RowKit NP
set_option linter.unusedVariables false

/-- what the sums on the way stay within -/
def sumFits (L : List Int) : Prop := ∀ k, k ≤ L.length → -4611686018427387904 ≤ sumL (L.take k) ∧ sumL (L.take k) ≤ 4611686018427387904
theorem sumFits.next {L : List Int} (h : sumFits L) {k : Nat} (hk : k < L.length) : -4611686018427387904 ≤ sumL (L.take k) + L[k] ∧ sumL (L.take k) + L[k] ≤ 4611686018427387904 := by
  have := h (k + 1) (by omega)
  rw [sumL_take_succ L k hk] at this
  exact this

theorem sum_any (a : Option Addr) (c B : Nat) (L : List Int) (w : World) (h : Rd w B a (ints L)) (hs : sumFits L) (hl : L.length ≤ 4611686018427387904) :
    Calls Try.prog 58 #[.slice a L.length c] w fun e w' => e = .returned (.int .i64 (sumL L)) ∧ w = w' := by
  go_enter Try.func58, Try.ntmps58
  go_wp2
  go_loop [3, 4] (fun s i => ∃ k : Nat, k ≤ L.length ∧ i = .int .i64 k ∧ s = .int .i64 (sumL (L.take k))) (fun _ i => L.length - (intOf i).toNat)
  case atStart => exact ⟨0, Nat.zero_le _, rfl, rfl⟩
  case round =>
    obtain ⟨k, hk, rfl, rfl⟩ := hrel
    by_cases hlt : k < L.length
    · obtain ⟨b, o, rfl, _, hc⟩ := h.at_ hlt
      have h1 := hs k hk
      have h2 := hs.next hlt
      have h3 := sumL_take_succ L k hlt
      have H3 := Lib.hid h3
      clear h3
      go_wp2
      go_round
      case rel => exact ⟨k + 1, by omega, by go_num, by rw [H3.out]⟩
      case measure => simp [intOf]; omega
    · go_wp2
      go_ret
      exact ⟨ret_i64 (by rw [List.take_of_length_le (by omega)]), rfl⟩

theorem inRange_yes (n lo hi : Int) (w : World) (h1 : lo ≤ n) (h2 : n ≤ hi) : Calls Try.prog 53 #[.int .i64 n, .int .i64 lo, .int .i64 hi] w fun e w' => e = .returned (.bool true) ∧ w' = w := by
  go_enter Try.func53, Try.ntmps53
  go_wp2
  go_ret
  exact ⟨rfl, rfl⟩
theorem inRange_no (n lo hi : Int) (w : World) (h : n < lo ∨ hi < n) : Calls Try.prog 53 #[.int .i64 n, .int .i64 lo, .int .i64 hi] w fun e w' => e = .returned (.bool false) ∧ w' = w := by
  by_cases h1 : lo ≤ n
  · have h2 : hi < n := by omega
    clear h
    go_enter Try.func53, Try.ntmps53
    go_wp2
    go_ret
    exact ⟨ret_bool (by simp; omega), rfl⟩
  · clear h
    go_enter Try.func53, Try.ntmps53
    go_wp2
    go_ret
    exact ⟨rfl, rfl⟩

end Go.Proofs.Ytknpcpabfihkdaa
