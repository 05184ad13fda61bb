/-
  Walks: sum, validParts, ValidParts, SumOf of the model.
-/
import Derived.Test.YthafbdpeignccaaProg
import Derived.Test.YthafbdpeignccaaMath
import Derived.Test.YthafbdpeignccaaBase
import Derived.Deep.QuietTactic
import Derived.BigQuiet
import Derived.Lib.Hide
namespace Go.Proofs.Ythafbdpeignccaa
open Go.RowKit NP
set_option maxRecDepth 8000
set_option linter.unusedVariables false

/-- what the sums on the way stay within -/
def sumFits (L : List Int) : Prop := ∀ k, k ≤ L.length → -4611686018427387904 ≤ sumL (L.take k) ∧ sumL (L.take k) ≤ 4611686018427387904
theorem sumFits.next {L : List Int} (h : sumFits L) {k : Nat} (hk : k < L.length) : -4611686018427387904 ≤ sumL (L.take k) + L[k] ∧ sumL (L.take k) + L[k] ≤ 4611686018427387904 := by
  have := h (k + 1) (by omega)
  rw [sumL_take_succ L k hk] at this
  exact this

theorem sum_any (a : Option Addr) (c B : Nat) (L : List Int) (w : World) (h : Rd w B a (ints L)) (hs : sumFits L) (hl : L.length ≤ 4611686018427387904) :
    Calls Try.prog 68 #[.slice a L.length c] w fun e w' => e = .returned (.int .i64 (sumL L)) ∧ w = w' := by
  go_enter Try.func68, Try.ntmps68
  go_wp2
  go_loop [3, 4] (fun s i => ∃ k : Nat, k ≤ L.length ∧ i = .int .i64 k ∧ s = .int .i64 (sumL (L.take k))) (fun _ i => L.length - (intOf i).toNat)
  case atStart => exact ⟨0, Nat.zero_le _, rfl, rfl⟩
  case round =>
    obtain ⟨k, hk, rfl, rfl⟩ := hrel
    by_cases hlt : k < L.length
    · obtain ⟨b, o, rfl, _, hc⟩ := h.at_ hlt
      have h1 := hs k hk
      have h2 := hs.next hlt
      have h3 := sumL_take_succ L k hlt
      have H3 := Lib.hid h3
      clear h3
      go_wp2
      go_round
      case rel => exact ⟨k + 1, by omega, by go_num, by rw [H3.out]⟩
      case measure => simp [intOf]; omega
    · go_wp2
      go_ret
      exact ⟨ret_i64 (by rw [List.take_of_length_le (by omega)]), rfl⟩

theorem inRange_yes (n lo hi : Int) (w : World) (h1 : lo ≤ n) (h2 : n ≤ hi) : Calls Try.prog 49 #[.int .i64 n, .int .i64 lo, .int .i64 hi] w fun e w' => e = .returned (.bool true) ∧ w' = w := by
  go_enter Try.func49, Try.ntmps49
  go_wp2
  go_ret
  exact ⟨rfl, rfl⟩
theorem inRange_no (n lo hi : Int) (w : World) (h : n < lo ∨ hi < n) : Calls Try.prog 49 #[.int .i64 n, .int .i64 lo, .int .i64 hi] w fun e w' => e = .returned (.bool false) ∧ w' = w := by
  by_cases h1 : lo ≤ n
  · have h2 : hi < n := by omega
    clear h
    go_enter Try.func49, Try.ntmps49
    go_wp2
    go_ret
    exact ⟨ret_bool (by simp; omega), rfl⟩
  · clear h
    go_enter Try.func49, Try.ntmps49
    go_wp2
    go_ret
    exact ⟨rfl, rfl⟩

theorem validParts_any (a : Option Addr) (c B : Nat) (L : List Int) (w : World) (h : Rd w B a (ints L)) (hl : L.length ≤ 4611686018427387904) :
    Calls Try.prog 48 #[.slice a L.length c] w fun e w' => e = .returned (.bool (valid L)) ∧ ∃ n, w' = w.drewN n := by
  go_enter Try.func48, Try.ntmps48
  go_wp2
  go_loopw [3] (fun i wr => ∃ k : Nat, k ≤ L.length ∧ i = .int .i64 k ∧ Dr w wr ∧ preS L k) (fun i _ => L.length - (intOf i).toNat)
  case atStart => exact ⟨0, Nat.zero_le _, rfl, Dr.refl _, fun j _ h => by omega⟩
  case round =>
    obtain ⟨k, hk, rfl, hdr, hpre⟩ := hrel
    by_cases hlt : k < L.length
    · have hR := h.dr hdr
      obtain ⟨b, o, rfl, hB, hc⟩ := hR.at_ hlt
      have HP := Lib.hid hpre
      have HN := Lib.hid (not_valid_at hlt)
      have HS := Lib.hid (preS_succ hlt hpre)
      clear hpre
      by_cases h12 : 1 ≤ L[k] ∧ L[k] ≤ 16
      · obtain ⟨h1, h2⟩ := h12
        by_cases h0 : k = 0
        · subst h0
          have hc' : wr.cell? ⟨b, o, none⟩ = some (.int .i64 L[0]) := hc
          go_wp2_with fail
          go_quiet ((go_at_call 49; exact Calls.quiet_of_same (inRange_yes _ _ _ _ h1 h2)))
          go_wp2
          go_roundw
          case rel => exact ⟨0 + 1, by omega, by go_num, hdr.drewN _, HS.out h1 h2 (by omega)⟩
          case measure => simp [intOf]; omega
        · have hk1 : k - 1 < L.length := by omega
          obtain ⟨b', o', e', -, hc2⟩ := hR.at_ hk1
          injection e' with e'; injection e' with e1 e2; subst e1 e2
          have h4 : (0 : Int) < k := by omega
          have h5 : 0 < k := by omega
          have h7 : 1 ≤ k := by omega
          by_cases h3 : L[k] ≤ L[k - 1]
          · go_wp2_with fail
            go_quiet ((go_at_call 49; exact Calls.quiet_of_same (inRange_yes _ _ _ _ h1 h2)))
            go_wp2
            go_roundw
            case rel => exact ⟨k + 1, by omega, by go_num, hdr.drewN _, HS.out h1 h2 (fun _ => h3)⟩
            case measure => simp [intOf]; omega
          · have hv : valid L = false := HN.out (fun hh => h3 (hh.2.2 h5))
            have HV := Lib.hid hv
            clear hv
            have h3' : L[k - 1] < L[k] := by omega
            go_wp2_with fail
            go_quiet ((go_at_call 49; exact Calls.quiet_of_same (inRange_yes _ _ _ _ h1 h2)))
            go_wp2
            go_ret
            exact ⟨ret_bool HV.out.symm, hdr.drewN _⟩
      · have hv : valid L = false := HN.out (fun hh => h12 ⟨hh.1, hh.2.1⟩)
        have HV := Lib.hid hv
        clear hv
        have h12' : L[k] < 1 ∨ 16 < L[k] := by omega
        clear h12
        have H12 := Lib.hid h12'
        clear h12'
        go_wp2_with fail
        go_quiet ((go_at_call 49; exact Calls.quiet_of_same (inRange_no _ _ _ _ H12.out)))
        go_wp2
        go_ret
        exact ⟨ret_bool HV.out.symm, hdr.drewN _⟩
    · obtain rfl : k = L.length := by omega
      by_cases hlen : L.length ≤ 16
      · have hfit : sumFits L := fun j hj => by have := preS_sum hpre j hj; omega
        have HV := Lib.hid (fun hs => valid_of_preS hpre hs)
        have HV2 := Lib.hid (fun hv : valid L = true => (valid_bd hv).2.1)
        by_cases hs : sumL L ≤ 16
        · go_wp2_with (go_at_call 68; refine (sum_any _ _ B L _ (h.dr hdr) hfit (by omega)).mono ?_; rintro e w' ⟨rfl, rfl⟩)
          go_ret
          exact ⟨ret_bool (HV.out hs).symm, hdr⟩
        · go_wp2_with (go_at_call 68; refine (sum_any _ _ B L _ (h.dr hdr) hfit (by omega)).mono ?_; rintro e w' ⟨rfl, rfl⟩)
          go_ret
          exact ⟨ret_bool (by cases hv : valid L with | false => (simp; omega) | true => exact absurd (HV2.out hv) (by omega)), hdr⟩
      · have HV2 := Lib.hid (fun hv : valid L = true => (valid_bd hv).2.2.2)
        go_wp2_with fail
        go_ret
        exact ⟨ret_bool (by cases hv : valid L with | false => simp | true => exact absurd (HV2.out hv) (by omega)), hdr⟩
end Go.Proofs.Ythafbdpeignccaa
