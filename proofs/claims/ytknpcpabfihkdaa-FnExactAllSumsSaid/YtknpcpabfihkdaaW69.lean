/-
  Walks: the model's functions of summands that answer lists, and FinerSums.
-/
import Derived.Test.YtknpcpabfihkdaaW68
import Derived.Test.YtknpcpabfihkdaaW64
namespace Go.Proofs.Ytknpcpabfihkdaa
open Go.RowKit NP
set_option linter.unusedVariables false
set_option maxHeartbeats 1600000 in
theorem sSumsOfMask_any (n m : Int) (w : World) :
    Calls Try.prog 23 #[.int .i64 n, .int .i64 m] w fun e w' => ∃ a' c', e = .returned (.tuple #[.slice a' (smkF n m).length c', .bool (smOk n m)]) ∧ Own w' w.heap.size w'.heap.size 3 (.slice a' (smkF n m).length c') (ints (smkF n m)) ∧ Below w.heap.size w w' := by
  by_cases hr : 0 ≤ n ∧ n ≤ 16
  · obtain ⟨h1, h2⟩ := hr
    obtain ⟨N, rfl⟩ := Int.eq_ofNat_of_zero_le h1
    have hN : N ≤ 16 := by omega
    have hp := pow16 hN
    have h0 := Nat.two_pow_pos (N - 1)
    cases hv : smOk N m with
    | true =>
      have h := smOk_iff.1 hv
      have HF := Lib.hid (smkF_yes hv)
      obtain ⟨M, rfl⟩ := Int.eq_ofNat_of_zero_le h.2.2.1
      obtain ⟨-, -, -, h4⟩ := h
      simp only [Int.toNat_natCast] at h4 HF
      have hM16 : M ≤ 65536 := by omega
      by_cases hz : N = 0
      · subst hz
        have hM0 : M = 0 := by simp at h4; omega
        subst hM0
        clear hv hp h0 h4 h1
        go_enter Try.func23, Try.ntmps23
        go_wp2_with (first | (go_at_call 54; refine (power_any 0 _ (by omega)).mono ?_; rintro e w' ⟨rfl, rfl⟩) | (go_at_call 55; refine (sums_any 0 0 _ (by omega) (by omega)).mono ?_; rintro e w1 ⟨a', c', rfl, ho, hb⟩) | (go_at_call 53; refine (inRange_yes _ _ _ _ (by first | omega | decide) (by first | omega | decide)).mono ?_; rintro e w' ⟨rfl, rfl⟩))
        go_ret2
        rw [HF.out]
        exact ⟨a', c', rfl, ho, hb⟩
      · obtain ⟨j, rfl⟩ : ∃ j, N = j + 1 := ⟨N - 1, by omega⟩
        rw [Nat.add_sub_cancel] at h4 hp h0
        obtain ⟨p, hpp⟩ : ∃ p, p = 2 ^ j := ⟨_, rfl⟩
        have HP := Lib.hid (fun w => power_any j w (by omega))
        rw [← hpp] at h4 hp h0 HP
        clear hv hz hpp h1
        have hMp : (M : Int) ≤ (p : Int) - 1 := by omega
        go_enter Try.func23, Try.ntmps23
        go_wp2_with (first | (go_at_call 54; refine (HP.out _).mono ?_; rintro e w' ⟨rfl, rfl⟩) | (go_at_call 55; refine (sums_any (j + 1) M _ hN hM16).mono ?_; rintro e w1 ⟨a', c', rfl, ho, hb⟩) | (go_at_call 53; refine (inRange_yes _ _ _ _ (by first | omega | decide) (by first | omega | decide)).mono ?_; rintro e w' ⟨rfl, rfl⟩))
        go_ret2
        rw [HF.out]
        exact ⟨a', c', rfl, ho, hb⟩
    | false =>
      have HF := Lib.hid (smkF_no hv)
      have hn : ¬ (0 ≤ m ∧ m < ((2 ^ (N - 1) : Nat) : Int)) := by
        intro hh
        have hn : ¬ (smOk N m = true) := by rw [hv]; decide
        rw [smOk_iff] at hn
        simp only [Int.toNat_natCast] at hn
        omega
      by_cases hz : N = 0
      · subst hz
        have HNO : Hid (m < 0 ∨ (0 : Int) < m) := Lib.hid (by simp at hn; omega)
        clear hv hp h0 hn h1
        go_enter Try.func23, Try.ntmps23
        go_wp2_with (first | (go_at_call 54; refine (power_any 0 _ (by omega)).mono ?_; rintro e w' ⟨rfl, rfl⟩) | (go_at_call 53; (with_reducible refine (inRange_no _ _ _ _ HNO.out).mono ?_); rintro e w' ⟨rfl, rfl⟩) | (go_at_call 53; refine (inRange_yes _ _ _ _ (by first | omega | decide) (by first | omega | decide)).mono ?_; rintro e w' ⟨rfl, rfl⟩))
        go_ret2
        rw [HF.out]
        exact ⟨none, 0, rfl, Own.nil _ _ _, Below.refl _ _⟩
      · obtain ⟨j, rfl⟩ : ∃ j, N = j + 1 := ⟨N - 1, by omega⟩
        rw [Nat.add_sub_cancel] at hn hp h0
        obtain ⟨p, hpp⟩ : ∃ p, p = 2 ^ j := ⟨_, rfl⟩
        have HP := Lib.hid (fun w => power_any j w (by omega))
        rw [← hpp] at hn hp h0 HP
        have HNO : Hid (m < 0 ∨ (p : Int) - 1 < m) := Lib.hid (by omega)
        clear hv hz hpp h1 hn
        go_enter Try.func23, Try.ntmps23
        go_wp2_with (first | (go_at_call 54; refine (HP.out _).mono ?_; rintro e w' ⟨rfl, rfl⟩) | (go_at_call 53; (with_reducible refine (inRange_no _ _ _ _ HNO.out).mono ?_); rintro e w' ⟨rfl, rfl⟩) | (go_at_call 53; refine (inRange_yes _ _ _ _ (by first | omega | decide) (by first | omega | decide)).mono ?_; rintro e w' ⟨rfl, rfl⟩))
        go_ret2
        rw [HF.out]
        exact ⟨none, 0, rfl, Own.nil _ _ _, Below.refl _ _⟩
  · have hv : smOk n m = false := by
      cases hh : smOk n m with
      | false => rfl
      | true => exact absurd ⟨(smOk_iff.1 hh).1, (smOk_iff.1 hh).2.1⟩ hr
    have HF := Lib.hid (smkF_no hv)
    have HV := Lib.hid hv
    have HNO : Hid (n < 0 ∨ 16 < n) := Lib.hid (by omega)
    clear hr hv
    go_enter Try.func23, Try.ntmps23
    go_wp2_with (go_at_call 53; (with_reducible refine (inRange_no _ _ _ _ HNO.out).mono ?_); rintro e w' ⟨rfl, rfl⟩)
    go_ret2
    rw [HF.out, HV.out]
    exact ⟨none, 0, rfl, Own.nil _ _ _, Below.refl _ _⟩
set_option maxHeartbeats 1600000 in
theorem sOppositeSums_any (a : Option Addr) (c B : Nat) (L : List Int) (w : World) (h : Rd w B a (ints L)) (hB : B ≤ w.heap.size) (hl : L.length ≤ 4611686018427387904) :
    Calls Try.prog 32 #[.slice a L.length c] w fun e w' => ∃ a' c', e = .returned (.slice a' (oppF L).length c') ∧ Own w' w.heap.size w'.heap.size 3 (.slice a' (oppF L).length c') (ints (oppF L)) ∧ Below w.heap.size w w' := by
  cases hv : vsm L with
  | true =>
    have hb := vsm_bd hv
    have hg : sgN L ≤ 16 := by unfold sgN; omega
    have hgs : sumL L = (sgN L : Int) := by unfold sgN; omega
    have HO : Hid (oppF L = smk (sgN L) (2 ^ (sgN L - 1) - 1 - mkN L)) := Lib.hid (by rw [oppF_yes hv]; rfl)
    have HS := Lib.hid (fun w h => sum_any a c B L w h (vsm_sumFits hv) hl)
    rw [hgs] at HS
    have hmk := mkN_lt (vsm_iff.1 hv).1
    have hp := pow16 hg
    have HV := Lib.hid hv
    clear hv hb hgs
    obtain ⟨S, hS⟩ : ∃ S, S = sgN L := ⟨_, rfl⟩
    obtain ⟨M, hM⟩ : ∃ M, M = mkN L := ⟨_, rfl⟩
    have HK := Lib.hid (fun w h => maskOf_any a c B L w h HV.out)
    rw [← hS] at hg HO HS hmk hp
    rw [← hM] at HO hmk HK
    clear hS hM
    by_cases hz : S = 0
    · subst hz
      have hM0 : M = 0 := by simp at hmk; omega
      subst hM0
      clear hmk hp
      go_enter Try.func32, Try.ntmps32
      go_wp2_with (first | (go_at_call 50; refine (validSums_any _ _ B L _ h hl).mono ?_; rintro e w' ⟨rfl, rfl⟩; rw [HV.out]) | (go_at_call 58; refine (HS.out _ h).mono ?_; rintro e w' ⟨rfl, rfl⟩) | (go_at_call 54; refine (power_any 0 _ (by omega)).mono ?_; rintro e w' ⟨rfl, rfl⟩) | (go_at_call 52; refine (HK.out _ h).mono ?_; rintro e w' ⟨rfl, rfl⟩) | (go_at_call 55; refine (sums_any 0 0 _ (by omega) (by omega)).mono ?_; rintro e w1 ⟨a', c', rfl, ho, hb⟩))
      go_ret
      rw [HO.out]
      exact ⟨a', c', rfl, ho, hb⟩
    · obtain ⟨j, rfl⟩ : ∃ j, S = j + 1 := ⟨S - 1, by omega⟩
      simp only [Nat.add_sub_cancel] at hmk hp HO
      obtain ⟨p, hpp⟩ : ∃ p, p = 2 ^ j := ⟨_, rfl⟩
      have HP := Lib.hid (fun w => power_any j w (by omega))
      rw [← hpp] at hmk hp HP HO
      obtain ⟨r, hr⟩ : ∃ r, r = p - 1 - M := ⟨_, rfl⟩
      rw [← hr] at HO
      have hr' : ((p : Int) - 1 - (M : Int)) = (r : Int) := by omega
      have hr16 : r ≤ 65536 := by omega
      clear hpp hr hz
      go_enter Try.func32, Try.ntmps32
      go_wp2_with (first | (go_at_call 50; refine (validSums_any _ _ B L _ h hl).mono ?_; rintro e w' ⟨rfl, rfl⟩; rw [HV.out]) | (go_at_call 58; refine (HS.out _ h).mono ?_; rintro e w' ⟨rfl, rfl⟩) | (go_at_call 54; refine (HP.out _).mono ?_; rintro e w' ⟨rfl, rfl⟩) | (go_at_call 52; refine (HK.out _ h).mono ?_; rintro e w' ⟨rfl, rfl⟩) | (go_at_call 55; refine (sums_any (j + 1) r _ hg hr16).mono ?_; rintro e w1 ⟨a', c', rfl, ho, hb⟩))
      go_ret
      rw [HO.out]
      exact ⟨a', c', rfl, ho, hb⟩
  | false =>
    have HO := Lib.hid (oppF_no hv)
    have HV := Lib.hid hv
    clear hv
    go_enter Try.func32, Try.ntmps32
    go_wp2_with (go_at_call 50; refine (validSums_any _ _ B L _ h hl).mono ?_; rintro e w' ⟨rfl, rfl⟩; rw [HV.out])
    go_ret
    rw [HO.out]
    exact ⟨none, 0, rfl, Own.nil _ _ _, Below.refl _ _⟩
set_option maxHeartbeats 1600000 in
theorem sTurnSums_any (a : Option Addr) (c B : Nat) (L : List Int) (w : World) (h : Rd w B a (ints L)) (hB : B ≤ w.heap.size) (hl : L.length ≤ 4611686018427387904) :
    Calls Try.prog 34 #[.slice a L.length c] w fun e w' => ∃ a' c', e = .returned (.slice a' (trnF L).length c') ∧ Own w' w.heap.size w'.heap.size 3 (.slice a' (trnF L).length c') (ints (trnF L)) ∧ Below w.heap.size w w' := by
  cases hv : vsm L with
  | true =>
    obtain ⟨i0, hi, hz0, hz1, hz2⟩ := T_int'
    have HF := Lib.hid (trnF_yes hv)
    have hln := (vsm_bd hv).2.2.2
    have HV := Lib.hid hv
    clear hv
    go_enter Try.func34, Try.ntmps34
    go_wp2_with (go_at_call 50; refine (validSums_any _ _ B L _ h hl).mono ?_; rintro e w' ⟨rfl, rfl⟩; rw [HV.out])
    go_loopw [3, 4] (fun v i wr => ∃ k : Nat, k ≤ L.length ∧ i = .int .i64 ((k : Int) - 1) ∧ Below w.heap.size w wr ∧ Own wr w.heap.size wr.heap.size 3 v (ints (L.drop k).reverse)) (fun _ i _ => (intOf i + 1).toNat)
    case atStart => exact ⟨L.length, Nat.le_refl _, rfl, (Below.refl _ _).alloc (Nat.le_refl _) _, by simpa [ints] using (Own.empty w 3).more⟩
    case round =>
      obtain ⟨k, hk, rfl, hbel, hown⟩ := hrel
      by_cases hlt : 0 < k
      · obtain ⟨j, rfl⟩ : ∃ j, k = j + 1 := ⟨k - 1, by omega⟩
        have hj : (((j + 1 : Nat) : Int) - 1) = (j : Int) := by omega
        rw [hj]
        obtain ⟨b, o, rfl, _, hc0⟩ := ((h.more hB).below hbel).at_ (k := j) (by omega)
        have HS : Hid ((L.drop (j + 1)).reverse ++ [L[j]] = (L.drop j).reverse) := Lib.hid (by rw [List.drop_eq_getElem_cons (i := j) (by omega), List.reverse_cons])
        obtain ⟨vs, hvs⟩ : ∃ vs, vs = ints (L.drop (j + 1)).reverse := ⟨_, rfl⟩
        have hlv : vs.length ≤ 16 := by rw [hvs]; simp; omega
        rw [← hvs] at hown
        have HVS := Lib.hid hvs
        have HO := Lib.hid hown
        have hbs := hbel.size
        clear hown hvs
        go_wp2_with (at_builtin; (refine wpList_append_o _ rfl (.tmp 16) (.tmp 21) 22 rfl w.heap.size wr.heap.size 3 i0 (.int .i64 0) 8 Try.underlying22 hi hz0 hz1 hz2 rfl _ vs rfl (HO.out.alloc _) (wr.heap.size + 1) (some ⟨wr.heap.size, 0, none⟩) 1 1 [.int .i64 L[j]] rfl (Rd.one _ _ _) rfl (by simp; rfl) (by unfold maxLen; omega) (by omega) (by simp; omega) ?_); intro v' w2 ho1 hg1 hat1)
        go_roundw
        case rel =>
          refine ⟨j, by omega, by go_num, below_push hbel (Nat.le_refl _) hg1 HO.out.base, ?_⟩
          rw [HVS.out] at ho1
          rw [← HS.out]
          simpa [ints] using ho1
        case measure => simp [intOf] <;> omega
      · obtain rfl : k = 0 := by omega
        obtain ⟨a', c', rfl⟩ := hown.form
        have HO := Lib.hid hown
        clear hown
        go_wp2
        go_ret
        have hlc : (trnF L).length = (ints (L.drop 0).reverse).length := by rw [HF.out]; simp
        refine ⟨a', c', by rw [hlc]; rfl, ?_, hbel⟩
        rw [hlc, HF.out]
        exact HO.out
  | false =>
    have HO := Lib.hid (trnF_no hv)
    have HV := Lib.hid hv
    clear hv
    go_enter Try.func34, Try.ntmps34
    go_wp2_with (go_at_call 50; refine (validSums_any _ _ B L _ h hl).mono ?_; rintro e w1 ⟨rfl, rfl⟩; rw [HV.out])
    go_ret
    rw [HO.out]
    exact ⟨none, 0, rfl, Own.nil _ _ _, Below.refl _ _⟩
set_option maxHeartbeats 1600000 in
theorem sFinerSums_any (a b : Option Addr) (ca cb Ba Bb : Nat) (L M : List Int) (w : World) (h : Rd w Ba a (ints L)) (hm : Rd w Bb b (ints M)) (hl : L.length ≤ 4611686018427387904) (hl2 : M.length ≤ 4611686018427387904) :
    Calls Try.prog 38 #[.slice a L.length ca, .slice b M.length cb] w fun e w' => e = .returned (.bool (finF L M)) ∧ w = w' := by
  cases hv1 : vsm L with
  | true =>
    have HV1 := Lib.hid hv1
    cases hv2 : vsm M with
    | true =>
      have HV2 := Lib.hid hv2
      have HF := Lib.hid (finF_yes hv1 hv2)
      have hb1 := vsm_bd hv1
      have hb2 := vsm_bd hv2
      have hs1 : sumL L = (sgN L : Int) := by unfold sgN; omega
      have hs2 : sumL M = (sgN M : Int) := by unfold sgN; omega
      have HS1 := Lib.hid (fun w h => sum_any a ca Ba L w h (vsm_sumFits hv1) hl)
      have HS2 := Lib.hid (fun w h => sum_any b cb Bb M w h (vsm_sumFits hv2) hl2)
      rw [hs1] at HS1
      rw [hs2] at HS2
      have m1 := mkN_16 hv1
      have m2 := mkN_16 hv2
      have HA := Lib.hid (i64_and (mkN L) (mkN M) (by omega) (by omega))
      clear hv1 hv2 hb1 hb2 hs1 hs2 m1 m2
      by_cases hs : sgN L = sgN M
      · have e1 : ((sgN L : Int) != (sgN M : Int)) = false := by simp; omega
        have HE := Lib.hid hs
        clear hs
        go_enter Try.func38, Try.ntmps38
        go_wp2_with (first | (go_at_call 50; (with_reducible refine (validSums_any _ _ Ba L _ h hl).mono ?_); rintro e w' ⟨rfl, rfl⟩; rw [HV1.out]) | (go_at_call 50; (with_reducible refine (validSums_any _ _ Bb M _ hm hl2).mono ?_); rintro e w' ⟨rfl, rfl⟩; rw [HV2.out]) | (go_at_call 58; (with_reducible refine (HS1.out _ h).mono ?_); rintro e w' ⟨rfl, rfl⟩) | (go_at_call 58; (with_reducible refine (HS2.out _ hm).mono ?_); rintro e w' ⟨rfl, rfl⟩) | (go_at_call 52; (with_reducible refine (maskOf_any _ _ Ba L _ h HV1.out).mono ?_); rintro e w' ⟨rfl, rfl⟩) | (go_at_call 52; (with_reducible refine (maskOf_any _ _ Bb M _ hm HV2.out).mono ?_); rintro e w' ⟨rfl, rfl⟩))
        go_ret
        refine ⟨ret_bool ?_, rfl⟩
        rw [HF.out, decide_eq_true HE.out, Bool.true_and]
        show (bits BinOp.and IntKind.i64 (mkN L : Int) (mkN M : Int) == (mkN M : Int)) = _
        rw [HA.out, Bool.eq_iff_iff, beq_iff_eq, decide_eq_true_eq]
        omega
      · have e1 : ((sgN L : Int) != (sgN M : Int)) = true := by simp; omega
        have HE := Lib.hid hs
        clear hs
        go_enter Try.func38, Try.ntmps38
        go_wp2_with (first | (go_at_call 50; (with_reducible refine (validSums_any _ _ Ba L _ h hl).mono ?_); rintro e w' ⟨rfl, rfl⟩; rw [HV1.out]) | (go_at_call 50; (with_reducible refine (validSums_any _ _ Bb M _ hm hl2).mono ?_); rintro e w' ⟨rfl, rfl⟩; rw [HV2.out]) | (go_at_call 58; (with_reducible refine (HS1.out _ h).mono ?_); rintro e w' ⟨rfl, rfl⟩) | (go_at_call 58; (with_reducible refine (HS2.out _ hm).mono ?_); rintro e w' ⟨rfl, rfl⟩))
        go_ret
        exact ⟨ret_bool (by rw [HF.out, decide_eq_false HE.out]; rfl), rfl⟩
    | false =>
      have HV2 := Lib.hid hv2
      have HF : Hid (finF L M = false) := Lib.hid (finF_no (by rw [hv1, hv2]; rfl))
      clear hv1 hv2
      go_enter Try.func38, Try.ntmps38
      go_wp2_with (first | (go_at_call 50; (with_reducible refine (validSums_any _ _ Ba L _ h hl).mono ?_); rintro e w' ⟨rfl, rfl⟩; rw [HV1.out]) | (go_at_call 50; (with_reducible refine (validSums_any _ _ Bb M _ hm hl2).mono ?_); rintro e w' ⟨rfl, rfl⟩; rw [HV2.out]))
      go_ret
      exact ⟨ret_bool HF.out.symm, rfl⟩
  | false =>
    have HV1 := Lib.hid hv1
    have HF : Hid (finF L M = false) := Lib.hid (finF_no (by rw [hv1]; rfl))
    clear hv1
    go_enter Try.func38, Try.ntmps38
    go_wp2_with (first | (go_at_call 50; (with_reducible refine (validSums_any _ _ Ba L _ h hl).mono ?_); rintro e w' ⟨rfl, rfl⟩; rw [HV1.out]))
    go_ret
    exact ⟨ret_bool HF.out.symm, rfl⟩
end Go.Proofs.Ytknpcpabfihkdaa
