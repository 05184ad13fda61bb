/-
  Walks: ascends, mirrored of the laws.
-/
import Derived.Test.YtbldnjcjdnlhgaaW4
import Derived.Test.YtbldnjcjdnlhgaaL1
import Derived.Test.YtbldnjcjdnlhgaaM6
namespace Go.Proofs.Ytbldnjcjdnlhgaa
open Go.RowKit NP
set_option linter.unusedVariables false

theorem sum_bd {L : List Int} {b : Int} (h : ∀ x ∈ L, 0 ≤ x ∧ x ≤ b) (hb : 0 ≤ b) : 0 ≤ sumL L ∧ sumL L ≤ b * L.length := by
  induction L with
  | nil => simp [sumL]
  | cons x r ih =>
    have h1 := h x (by simp)
    have h2 := ih fun y hy => h y (by simp [hy])
    simp only [sumL, List.length_cons]
    have e : b * ((r.length + 1 : Nat) : Int) = b * (r.length : Int) + b := by rw [Int.natCast_add, Int.mul_add]; simp
    rw [e]
    omega
theorem fits_bd {L : List Int} (h : ∀ x ∈ L, 0 ≤ x ∧ x ≤ 1000) (hl : L.length ≤ 1000) : sumFits L := fun k hk => by
  have := sum_bd (L := L.take k) (b := 1000) (fun x hx => h x (List.mem_of_mem_take hx)) (by omega)
  have e : (L.take k).length ≤ 1000 := by simp; omega
  omega
theorem ascends_any (a : Option Addr) (c B : Nat) (M : List Int) (w : World) (h : Rd w B a (ints M)) (hs : ∀ i (hi : i + 1 < M.length), M[i] < M[i + 1]) (hl : M.length ≤ 1048576) :
    Calls Try.prog 25 #[.slice a M.length c] w fun e w' => e = .returned (.bool true) ∧ Dr w w' := by
  have HS := Lib.hid hs
  clear hs
  go_enter Try.func25, Try.ntmps25
  go_wp2
  go_loopw [3] (fun i wr => ∃ k : Nat, 1 ≤ k ∧ k ≤ M.length + 1 ∧ i = .int .i64 k ∧ Dr w wr) (fun i _ => M.length + 1 - (intOf i).toNat)
  case atStart => exact ⟨1, Nat.le_refl _, by omega, rfl, Dr.refl _⟩
  case round =>
    obtain ⟨k, hk1, hk, rfl, hdr⟩ := hrel
    by_cases hlt : k < M.length
    · have hR := h.dr hdr
      obtain ⟨b, o, rfl, _, hc⟩ := hR.at_ hlt
      obtain ⟨b', o', e', -, hc2⟩ := hR.at_ (k := k - 1) (by omega)
      injection e' with e'; injection e' with e1 e2; subst e1 e2
      have hlt' : (k : Int) < (M.length : Int) := by omega
      have hkm : (k : Int) - 1 = ((k - 1 : Nat) : Int) := by omega
      have hkm' : ((k - 1 : Nat) : Int) < (M.length : Int) := by omega
      have hx : M[k - 1]'(by omega) < M[k] := by
        have := HS.out (k - 1) (by omega)
        have e : M[k - 1 + 1]'(by omega) = M[k] := by congr 1; omega
        rw [e] at this
        exact this
      have hb : decide (M[k] ≤ M[k - 1]'(by omega)) = false := decide_eq_false (by omega)
      clear hx
      go_wp2_with fail
      go_quiet (fail)
      go_wp2
      go_roundw
      case rel => exact ⟨k + 1, by omega, by omega, by go_num, hdr.drewN _⟩
      case measure => simp [intOf]; omega
    · have hlt' : (M.length : Int) ≤ (k : Int) := by omega
      go_wp2
      go_ret
      exact ⟨rfl, hdr⟩
end Go.Proofs.Ytbldnjcjdnlhgaa
