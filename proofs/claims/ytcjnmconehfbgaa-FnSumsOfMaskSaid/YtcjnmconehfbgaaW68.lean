/-
  Walks: the model's functions of summands.
-/
import Derived.Test.YtcjnmconehfbgaaW63
import Derived.Test.YtcjnmconehfbgaaM34
namespace Go.Proofs.Ytcjnmconehfbgaa
open Go.RowKit NP
set_option maxRecDepth 8000
set_option linter.unusedVariables false
theorem vsm_sumFits {L : List Int} (h : vsm L = true) : sumFits L := fun k hk => by have := vsm_bd (vsm_take h k); omega
theorem power_any (n : Nat) (w : World) (hn : n ≤ 40) :
    Calls Try.prog 67 #[.int .i64 n] w fun e w' => e = .returned (.int .i64 ((2 ^ n : Nat) : Int)) ∧ w = w' := by
  go_enter Try.func67, Try.ntmps67
  go_wp2
  go_loop [0, 3] (fun i o => ∃ k : Nat, k ≤ n ∧ i = .int .i64 k ∧ ∃ p : Nat, Hid (p = 2 ^ (n - k)) ∧ p ≤ 1099511627776 ∧ o = .int .i64 p) (fun i _ => (intOf i).toNat)
  case atStart => exact ⟨n, Nat.le_refl _, rfl, 1, Lib.hid (by simp), by omega, rfl⟩
  case round =>
    obtain ⟨k, hk, rfl, p, HP, hp, rfl⟩ := hrel
    by_cases hlt : 0 < k
    · have HN : Hid (2 * p = 2 ^ (n - (k - 1))) := Lib.hid (by rw [HP.out, show n - (k - 1) = (n - k) + 1 by omega, Nat.pow_succ]; omega)
      have hb : 2 * p ≤ 1099511627776 := by
        have h1 : (2 : Nat) ^ (n - (k - 1)) ≤ 2 ^ 40 := Nat.pow_le_pow_right (by omega) (by omega)
        rw [HN.out]; omega
      have hlt' : (0 : Int) < k := by omega
      go_wp2
      go_round
      case rel => exact ⟨k - 1, by omega, by first | go_num | (congr 1; omega), 2 * p, HN, hb, by go_num⟩
      case measure => simp [intOf] <;> omega
    · obtain rfl : k = 0 := by omega
      go_wp2
      go_ret
      exact ⟨ret_i64 (by rw [HP.out]; simp), rfl⟩
set_option maxHeartbeats 400000 in
theorem sums_any (n m : Nat) (w : World) (hn : n ≤ 16) (hm : m ≤ 65536) :
    Calls Try.prog 70 #[.int .i64 n, .int .i64 m] w fun e w' => ∃ a' c', e = .returned (.slice a' (smk n m).length c') ∧ Own w' w.heap.size w'.heap.size 3 (.slice a' (smk n m).length c') (ints (smk n m)) ∧ Below w.heap.size w w' := by
  obtain ⟨i0, hi, hz0, hz1, hz2⟩ := T_int'
  go_enter Try.func70, Try.ntmps70
  go_wp2
  go_loopw [1, 5, 6, 7] (fun mm v r i wr => ∃ k : Nat, 1 ≤ k ∧ k ≤ max 1 n ∧ i = .int .i64 k ∧ (∃ q : Nat, Hid (q = m / 2 ^ (k - 1)) ∧ q ≤ 65536 ∧ mm = .int .i64 q) ∧ (∃ (out : List Int) (run : Int), Hid (SmAt n m k out run) ∧ out.length < k ∧ 1 ≤ run ∧ run ≤ k ∧ r = .int .i64 run ∧ Own wr w.heap.size wr.heap.size 3 v (ints out)) ∧
    Below w.heap.size w wr) (fun _ _ _ i _ => n + 1 - (intOf i).toNat)
  case atStart =>
    exact ⟨1, Nat.le_refl _, by omega, rfl, ⟨m, Lib.hid (by simp), hm, rfl⟩, ⟨[], 1, Lib.hid (SmAt.first n m), by simp, by omega, by omega, rfl, (Own.empty w 3).more⟩, (Below.refl _ _).alloc (Nat.le_refl _) _⟩
  case round =>
    obtain ⟨k, hk1, hk2, rfl, ⟨q, HQ, hq, rfl⟩, ⟨out, run, HS, hol, hr1, hr2, rfl, hown⟩, hbel⟩ := hrel
    have HO := Lib.hid hown
    clear hown
    obtain ⟨vs, hvs⟩ : ∃ vs, vs = ints out := ⟨_, rfl⟩
    have hlv : vs.length < k := by rw [hvs]; simpa using hol
    have HVS := Lib.hid hvs
    rw [← hvs] at HO
    clear hvs
    have hbs := hbel.size
    by_cases hlt : k < n
    · have HQ2 : Hid (q / 2 = m / 2 ^ (k + 1 - 1)) := Lib.hid (by rw [HQ.out, Nat.div_div_eq_div_mul, show k + 1 - 1 = (k - 1) + 1 by omega, Nat.pow_succ])
      by_cases hb : q % 2 = 1
      · have HN := Lib.hid (HS.out.yes hk1 hlt (by rw [← HQ.out]; exact hb))
        have hb' : ((q : Int) % 2 == 1) = true := beq_iff_eq.2 (by omega)
        clear HS hb
        go_wp2_with (at_builtin; (refine wpList_append_o _ rfl (.tmp 17) (.tmp 19) 22 rfl w.heap.size wr.heap.size 3 i0 (.int .i64 0) 8 Try.underlying22 hi hz0 hz1 hz2 rfl _ vs rfl (HO.out.alloc _) (wr.heap.size + 1) (some ⟨wr.heap.size, 0, none⟩) 1 1 [.int .i64 run] rfl (Rd.one _ _ _) rfl (by simp; rfl) (by unfold maxLen; omega) (by omega) (by simp; omega) ?_); intro v' w2 ho1 hg1 hat1)
        go_roundw
        case rel =>
          refine ⟨k + 1, by omega, by omega, by go_num, ⟨q / 2, HQ2, by omega, by go_num⟩, ⟨out ++ [run], 1, HN, by simp; omega, by omega, by omega, by go_num, ?_⟩, below_push hbel (Nat.le_refl _) hg1 HO.out.base⟩
          rw [HVS.out] at ho1
          simpa [ints] using ho1
        case measure => simp [intOf] <;> omega
      · have HN := Lib.hid (HS.out.no hk1 hlt (by rw [← HQ.out]; exact hb))
        have hb' : ((q : Int) % 2 == 1) = false := beq_eq_false_iff_ne.2 (by omega)
        clear HS hb
        go_wp2_with fail
        go_roundw
        case rel =>
          refine ⟨k + 1, by omega, by omega, by go_num, ⟨q / 2, HQ2, by omega, by go_num⟩, ⟨out, run + 1, HN, by omega, by omega, by omega, by go_num, ?_⟩, hbel⟩
          rw [← HVS.out]
          exact HO.out
        case measure => simp [intOf] <;> omega
    · by_cases h0 : n = 0
      · subst h0
        have HE : Hid (out = smk 0 m) := Lib.hid (HS.out.2 (by omega))
        obtain ⟨a', c', rfl⟩ := HO.out.form
        go_wp2
        go_ret
        have e : vs = ints (smk 0 m) := by rw [HVS.out, HE.out]
        have el : vs.length = (smk 0 m).length := by rw [e]; simp
        refine ⟨a', c', by rw [← el]; rfl, ?_, hbel⟩
        have := HO.out
        rw [e] at this
        simpa using this
      · obtain rfl : k = n := by omega
        have HE : Hid (out ++ [run] = smk k m) := Lib.hid ((HS.out.last hk1).2 rfl)
        have hn0 : (0 : Int) < k := by omega
        clear HS
        go_wp2_with (at_builtin; (refine wpList_append_o _ rfl (.tmp 27) (.tmp 29) 22 rfl w.heap.size wr.heap.size 3 i0 (.int .i64 0) 8 Try.underlying22 hi hz0 hz1 hz2 rfl _ vs rfl (HO.out.alloc _) (wr.heap.size + 1) (some ⟨wr.heap.size, 0, none⟩) 1 1 [.int .i64 run] rfl (Rd.one _ _ _) rfl (by simp; rfl) (by unfold maxLen; omega) (by omega) (by simp; omega) ?_); intro v' w2 ho1 hg1 hat1; have hbn := below_push hbel (Nat.le_refl _) hg1 HO.out.base; have ho2 : Own w2 w.heap.size w2.heap.size 3 v' (ints (smk k m)) := (by rw [HVS.out] at ho1; rw [← HE.out]; simpa [ints] using ho1); clear ho1 hg1 hat1; obtain ⟨a', c', rfl⟩ := ho2.form)
        go_ret
        have el : (ints (smk k m)).length = (smk k m).length := by simp
        rw [el] at ho2
        exact ⟨a', c', by rw [← el]; rfl, ho2, hbn⟩
end Go.Proofs.Ytcjnmconehfbgaa
