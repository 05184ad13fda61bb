/-
  Walks: numbers by steps (the laws' rising).
-/
import Derived.Test.YteglcoalfgjjiaaW21
import Derived.Test.YteglcoalfgjjiaaM23
namespace Go.Proofs.Yteglcoalfgjjiaa
open Go.RowKit NP
set_option linter.unusedVariables false
theorem rsL_take (st k j : Nat) (h : j ≤ k) : (rsL st k).take j = rsL st j := by
  apply List.ext_getElem
  · simp [rsL_len]; omega
  · intro i h1 h2
    rw [rsL_len] at h2
    rw [List.getElem_take, ← getD_lt, ← getD_lt, rsL_getD _ _ _ (by omega), rsL_getD _ _ _ h2]

theorem rising1_any (N k : Nat) (hN : N ≤ 40) (hk : k = N) (w : World) :
    Calls Try.prog 33 #[.int .i64 1, .int .i64 N, .int .i64 1] w fun e w' => ∃ a' c', e = .returned (.slice a' (rsL 1 k).length c') ∧ Own w' w.heap.size w'.heap.size 3 (.slice a' (rsL 1 k).length c') (ints (rsL 1 k)) ∧ Below w.heap.size w w' := by
  obtain ⟨i0, hi, hz0, hz1, hz2⟩ := T_int'
  go_enter Try.func33, Try.ntmps33
  go_wp2_with fail
  go_loopw [7, 8] (fun v vi wr => ∃ j : Nat, j ≤ k ∧ vi = .int .i64 (1 + 1 * (j : Int)) ∧ Below w.heap.size w wr ∧ Own wr w.heap.size wr.heap.size 3 v (ints (rsL 1 j))) (fun _ vi _ => 50 - (intOf vi).toNat)
  case atStart => exact ⟨0, Nat.zero_le _, rfl, (Below.refl _ _).alloc (Nat.le_refl _) _, (Own.empty w 3).more⟩
  case round =>
    obtain ⟨j, hj, rfl, hbel, hown⟩ := hrel
    have HO := Lib.hid hown
    have hvl : (ints (rsL 1 j)).length = j := by rw [List.length_map, rsL_len]
    have HS := Lib.hid (rsL_succ 1 j)
    obtain ⟨x, hx⟩ : ∃ x : Int, x = 1 + 1 * (j : Int) := ⟨_, rfl⟩
    by_cases hlt : j < k
    · have hx2 : x ≤ (N : Int) := by omega
      clear hown
      rw [← hx]
      have HX := Lib.hid hx
      have hx3 : 1 ≤ x := by omega
      have hx40 : x ≤ 40 := by omega
      have hnx : x + 1 = 1 + 1 * ((j + 1 : Nat) : Int) := by omega
      have HNX := Lib.hid hnx
      have hxm : (intOf (.int .i64 x)).toNat < (intOf (.int .i64 (x + 1))).toNat := by simp [intOf]; omega
      clear hx hnx
      obtain ⟨vs, hvs⟩ : ∃ vs, vs = ints (rsL 1 j) := ⟨_, rfl⟩
      rw [← hvs] at HO hvl
      have HVS := Lib.hid hvs
      clear hvs
      go_wp2_with (at_builtin; refine wpList_append_o _ rfl (.tmp 17) (.tmp 19) 22 rfl w.heap.size wr.heap.size 3 i0 (.int .i64 0) 8 Try.underlying22 hi hz0 hz1 hz2 rfl _ vs rfl (HO.out.alloc _) (wr.heap.size + 1) (some ⟨wr.heap.size, 0, none⟩) 1 1 [.int .i64 x] rfl (Rd.one _ _ _) rfl (by simp; rfl) (by unfold maxLen; omega) (by omega) (by have := hbel.size; simp; omega) ?_; intro v' w1 ho1 hg1 hat1)
      go_roundw
      case rel =>
        refine ⟨j + 1, by omega, by rw [← HNX.out], below_push hbel (Nat.le_refl _) hg1 HO.out.base, ?_⟩
        rw [HVS.out] at ho1
        rw [HS.out]
        have e : (1 : Int) + ((1 : Nat) : Int) * (j : Int) = x := by rw [HX.out]; rfl
        rw [e]
        simpa [ints] using ho1
      case measure => simp [intOf] at hxm ⊢; omega
    · obtain rfl : j = k := by omega
      have hx2 : (N : Int) < x := by omega
      rw [← hx]
      clear hx
      obtain ⟨a', c', rfl⟩ := hown.form
      rw [hvl] at HO ⊢
      have HL := Lib.hid (rsL_len 1 j)
      clear hown
      go_wp2_with fail
      go_ret
      rw [HL.out]
      exact ⟨a', c', rfl, HO.out, hbel⟩


theorem rising2_any (N k : Nat) (hN : N ≤ 40) (hk : k = (N + 1) / 2) (w : World) :
    Calls Try.prog 33 #[.int .i64 1, .int .i64 N, .int .i64 2] w fun e w' => ∃ a' c', e = .returned (.slice a' (rsL 2 k).length c') ∧ Own w' w.heap.size w'.heap.size 3 (.slice a' (rsL 2 k).length c') (ints (rsL 2 k)) ∧ Below w.heap.size w w' := by
  obtain ⟨i0, hi, hz0, hz1, hz2⟩ := T_int'
  go_enter Try.func33, Try.ntmps33
  go_wp2_with fail
  go_loopw [7, 8] (fun v vi wr => ∃ j : Nat, j ≤ k ∧ vi = .int .i64 (1 + 2 * (j : Int)) ∧ Below w.heap.size w wr ∧ Own wr w.heap.size wr.heap.size 3 v (ints (rsL 2 j))) (fun _ vi _ => 50 - (intOf vi).toNat)
  case atStart => exact ⟨0, Nat.zero_le _, rfl, (Below.refl _ _).alloc (Nat.le_refl _) _, (Own.empty w 3).more⟩
  case round =>
    obtain ⟨j, hj, rfl, hbel, hown⟩ := hrel
    have HO := Lib.hid hown
    have hvl : (ints (rsL 2 j)).length = j := by rw [List.length_map, rsL_len]
    have HS := Lib.hid (rsL_succ 2 j)
    obtain ⟨x, hx⟩ : ∃ x : Int, x = 1 + 2 * (j : Int) := ⟨_, rfl⟩
    by_cases hlt : j < k
    · have hx2 : x ≤ (N : Int) := by omega
      clear hown
      rw [← hx]
      have HX := Lib.hid hx
      have hx3 : 1 ≤ x := by omega
      have hx40 : x ≤ 40 := by omega
      have hnx : x + 2 = 1 + 2 * ((j + 1 : Nat) : Int) := by omega
      have HNX := Lib.hid hnx
      have hxm : (intOf (.int .i64 x)).toNat < (intOf (.int .i64 (x + 2))).toNat := by simp [intOf]; omega
      clear hx hnx
      obtain ⟨vs, hvs⟩ : ∃ vs, vs = ints (rsL 2 j) := ⟨_, rfl⟩
      rw [← hvs] at HO hvl
      have HVS := Lib.hid hvs
      clear hvs
      go_wp2_with (at_builtin; refine wpList_append_o _ rfl (.tmp 17) (.tmp 19) 22 rfl w.heap.size wr.heap.size 3 i0 (.int .i64 0) 8 Try.underlying22 hi hz0 hz1 hz2 rfl _ vs rfl (HO.out.alloc _) (wr.heap.size + 1) (some ⟨wr.heap.size, 0, none⟩) 1 1 [.int .i64 x] rfl (Rd.one _ _ _) rfl (by simp; rfl) (by unfold maxLen; omega) (by omega) (by have := hbel.size; simp; omega) ?_; intro v' w1 ho1 hg1 hat1)
      go_roundw
      case rel =>
        refine ⟨j + 1, by omega, by rw [← HNX.out], below_push hbel (Nat.le_refl _) hg1 HO.out.base, ?_⟩
        rw [HVS.out] at ho1
        rw [HS.out]
        have e : (1 : Int) + ((2 : Nat) : Int) * (j : Int) = x := by rw [HX.out]; rfl
        rw [e]
        simpa [ints] using ho1
      case measure => simp [intOf] at hxm ⊢; omega
    · obtain rfl : j = k := by omega
      have hx2 : (N : Int) < x := by omega
      rw [← hx]
      clear hx
      obtain ⟨a', c', rfl⟩ := hown.form
      rw [hvl] at HO ⊢
      have HL := Lib.hid (rsL_len 2 j)
      clear hown
      go_wp2_with fail
      go_ret
      rw [HL.out]
      exact ⟨a', c', rfl, HO.out, hbel⟩

end Go.Proofs.Yteglcoalfgjjiaa
