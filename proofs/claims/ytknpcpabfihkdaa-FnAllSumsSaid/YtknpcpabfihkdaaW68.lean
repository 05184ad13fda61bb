/-
  Walks: the model's functions of summands.
-/
import Derived.Test.YtknpcpabfihkdaaW63
import Derived.Test.YtknpcpabfihkdaaM34
namespace Go.Proofs.Ytknpcpabfihkdaa
open Go.RowKit NP
set_option linter.unusedVariables false
theorem vsm_sumFits {L : List Int} (h : vsm L = true) : sumFits L := fun k hk => by have := vsm_bd (vsm_take h k); omega
/-- each of the first k is in 1 .. 16 -/
def preV (L : List Int) (k : Nat) : Prop := ∀ j (h : j < L.length), j < k → 1 ≤ L[j] ∧ L[j] ≤ 16
theorem preV_succ {L : List Int} {k : Nat} (hk : k < L.length) (h : preV L k) (h1 : 1 ≤ L[k]) (h2 : L[k] ≤ 16) : preV L (k + 1) := by
  intro j hj hjk
  rcases Nat.lt_or_ge j k with hlt | hge
  · exact h j hj hlt
  · obtain rfl : j = k := by omega
    exact ⟨h1, h2⟩
theorem preV_pos {L : List Int} (h : preV L L.length) : ∀ x ∈ L, 1 ≤ x := by
  intro x hx
  obtain ⟨j, hj, rfl⟩ := List.getElem_of_mem hx
  exact (h j hj hj).1
theorem preV_sum {L : List Int} (h : preV L L.length) : ∀ k, k ≤ L.length → 0 ≤ sumL (L.take k) ∧ sumL (L.take k) ≤ 16 * k := by
  intro k
  induction k with
  | zero => intro _; simp [sumL]
  | succ k ih =>
    intro hk
    have := ih (by omega)
    have h1 := h k (by omega) (by omega)
    rw [sumL_take_succ L k (by omega)]
    omega
theorem vsm_of {L : List Int} (h : preV L L.length) : vsm L = decide (sumL L ≤ 16) := by
  rw [Bool.eq_iff_iff, vsm_iff, decide_eq_true_eq]
  exact ⟨fun h => h.2, fun h2 => ⟨preV_pos h, h2⟩⟩
theorem vsm_not_at {L : List Int} {k : Nat} (hk : k < L.length) (h : ¬ (1 ≤ L[k] ∧ L[k] ≤ 16)) : vsm L = false := by
  cases hv : vsm L with
  | false => rfl
  | true =>
    have h1 := vsm_bd (vsm_take hv k)
    have h2 := vsm_bd (vsm_take hv (k + 1))
    rw [sumL_take_succ L k hk] at h2
    exact absurd ⟨(vsm_iff.1 hv).1 _ (List.getElem_mem hk), by omega⟩ h
theorem validSums_any (a : Option Addr) (c B : Nat) (L : List Int) (w : World) (h : Rd w B a (ints L)) (hl : L.length ≤ 4611686018427387904) :
    Calls Try.prog 50 #[.slice a L.length c] w fun e w' => e = .returned (.bool (vsm L)) ∧ w = w' := by
  go_enter Try.func50, Try.ntmps50
  go_wp2
  go_loop [3] (fun i => ∃ k : Nat, k ≤ L.length ∧ i = .int .i64 k ∧ preV L k) (fun i => L.length - (intOf i).toNat)
  case atStart => exact ⟨0, Nat.zero_le _, rfl, fun j _ h => by omega⟩
  case round =>
    obtain ⟨k, hk, rfl, hpre⟩ := hrel
    by_cases hlt : k < L.length
    · obtain ⟨b, o, rfl, hB, hc⟩ := h.at_ hlt
      have HS := Lib.hid (preV_succ hlt hpre)
      clear hpre
      by_cases h12 : 1 ≤ L[k] ∧ L[k] ≤ 16
      · obtain ⟨h1, h2⟩ := h12
        go_wp2_with (go_at_call 53; refine (inRange_yes _ _ _ _ h1 h2).mono ?_; rintro e w' ⟨rfl, rfl⟩)
        go_round
        case rel => exact ⟨k + 1, by omega, by go_num, HS.out h1 h2⟩
        case measure => simp [intOf] <;> omega
      · have HV := Lib.hid (vsm_not_at hlt h12)
        have H12 : Hid (L[k] < 1 ∨ 16 < L[k]) := Lib.hid (by omega)
        clear h12
        go_wp2_with (go_at_call 53; refine (inRange_no _ _ _ _ H12.out).mono ?_; rintro e w' ⟨rfl, rfl⟩)
        go_ret
        exact ⟨ret_bool HV.out.symm, rfl⟩
    · obtain rfl : k = L.length := by omega
      have hfit : sumFits L ∨ ¬ L.length ≤ 16 := by
        by_cases h16 : L.length ≤ 16
        · exact .inl fun j hj => by have := preV_sum hpre j hj; omega
        · exact .inr h16
      have HV := Lib.hid (vsm_of hpre)
      have HL : Hid (¬ L.length ≤ 16 → vsm L = false) := Lib.hid (fun hh => by
        cases hv : vsm L with
        | false => rfl
        | true => exact absurd (vsm_bd hv).2.2.2 hh)
      clear hpre
      by_cases hlen : L.length ≤ 16
      · have hf : sumFits L := hfit.elim id (fun hh => absurd hlen hh)
        clear hfit
        go_wp2_with (go_at_call 58; refine (sum_any _ _ B L _ h hf (by omega)).mono ?_; rintro e w' ⟨rfl, rfl⟩)
        go_ret
        exact ⟨ret_bool HV.out.symm, rfl⟩
      · clear hfit
        go_wp2_with fail
        go_ret
        exact ⟨ret_bool (HL.out hlen).symm, rfl⟩
theorem sValidSums_any (a : Option Addr) (c B : Nat) (L : List Int) (w : World) (h : Rd w B a (ints L)) (hl : L.length ≤ 4611686018427387904) :
    Calls Try.prog 17 #[.slice a L.length c] w fun e w' => e = .returned (.bool (vsm L)) ∧ w = w' := by
  go_enter Try.func17, Try.ntmps17
  go_wp2_with (go_at_call 50; refine (validSums_any _ _ B L _ h hl).mono ?_; rintro e w' ⟨rfl, rfl⟩)
  go_ret
  exact ⟨rfl, rfl⟩
theorem power_any (n : Nat) (w : World) (hn : n ≤ 40) :
    Calls Try.prog 54 #[.int .i64 n] w fun e w' => e = .returned (.int .i64 ((2 ^ n : Nat) : Int)) ∧ w = w' := by
  go_enter Try.func54, Try.ntmps54
  go_wp2
  go_loop [0, 3] (fun i o => ∃ k : Nat, k ≤ n ∧ i = .int .i64 k ∧ ∃ p : Nat, Hid (p = 2 ^ (n - k)) ∧ p ≤ 1099511627776 ∧ o = .int .i64 p) (fun i _ => (intOf i).toNat)
  case atStart => exact ⟨n, Nat.le_refl _, rfl, 1, Lib.hid (by simp), by omega, rfl⟩
  case round =>
    obtain ⟨k, hk, rfl, p, HP, hp, rfl⟩ := hrel
    by_cases hlt : 0 < k
    · have HN : Hid (2 * p = 2 ^ (n - (k - 1))) := Lib.hid (by rw [HP.out, show n - (k - 1) = (n - k) + 1 by omega, Nat.pow_succ]; omega)
      have hb : 2 * p ≤ 1099511627776 := by
        have h1 : (2 : Nat) ^ (n - (k - 1)) ≤ 2 ^ 40 := Nat.pow_le_pow_right (by omega) (by omega)
        rw [HN.out]; omega
      have hlt' : (0 : Int) < k := by omega
      go_wp2
      go_round
      case rel => exact ⟨k - 1, by omega, by first | go_num | (congr 1; omega), 2 * p, HN, hb, by go_num⟩
      case measure => simp [intOf] <;> omega
    · obtain rfl : k = 0 := by omega
      go_wp2
      go_ret
      exact ⟨ret_i64 (by rw [HP.out]; simp), rfl⟩
theorem pow_le16' {n : Nat} (h : n ≤ 16) : 2 ^ n ≤ 65536 := Nat.pow_le_pow_right (n := 2) (by omega) h
theorem mkN_one {L : List Int} (h : L.length ≤ 1) : mkN L = 0 := by
  match L, h with
  | [], _ => rfl
  | [x], _ => simp [mkN, toB, bval_zeros]
theorem pow_le17 {k : Nat} (h : k ≤ 17) : 2 ^ k ≤ 131072 := Nat.pow_le_pow_right (n := 2) (by omega) h
set_option maxHeartbeats 400000 in
theorem maskOf_any (a : Option Addr) (c B : Nat) (L : List Int) (w : World) (h : Rd w B a (ints L)) (hv : vsm L = true) :
    Calls Try.prog 52 #[.slice a L.length c] w fun e w' => e = .returned (.int .i64 (mkN L : Int)) ∧ w = w' := by
  have hl16 := (vsm_bd hv).2.2.2
  have hpos := (vsm_iff.1 hv).1
  have HV := Lib.hid hv
  have HP := Lib.hid hpos
  clear hv hpos
  go_enter Try.func52, Try.ntmps52
  go_wp2
  go_loop [3, 4, 5, 6] (fun o t i _ => ∃ k : Nat, k ≤ L.length ∧ i = .int .i64 k ∧ (∃ om p : Nat, Hid (om = mkN (L.take (k + 1))) ∧ om ≤ 65536 ∧ Hid (p = 2 ^ sgN (L.take k)) ∧ p ≤ 131072 ∧ o = .int .i64 om ∧ t = .int .i64 p)) (fun _ _ i _ => L.length - (intOf i).toNat)
  case atStart => exact ⟨0, Nat.zero_le _, rfl, 0, 1, Lib.hid (mkN_one (by simp; omega)).symm, by omega, Lib.hid rfl, by omega, rfl, rfl⟩
  case round =>
    obtain ⟨k, hk, rfl, om, p, HO, hom, HPW, hp, rfl, rfl⟩ := hrel
    by_cases hlt : k + 1 < L.length
    · have hkl : k < L.length := by omega
      obtain ⟨b, o, rfl, -, hc⟩ := h.at_ hkl
      have hx1 := HP.out L[k] (List.getElem_mem hkl)
      obtain ⟨x, hx⟩ := Int.eq_ofNat_of_zero_le (show 0 ≤ L[k] by omega)
      have HS1 := Lib.hid (sgN_next hkl (.inl HV.out) hx)
      have hg2 := vsm_bd (vsm_take HV.out (k + 1))
      have hg : sgN (L.take (k + 1)) ≤ 16 := by unfold sgN; omega
      have hsx : sgN (L.take k) + x ≤ 16 := by rw [← HS1.out]; exact hg
      rw [hx] at hc hx1
      have HN := Lib.hid (mkN_next hlt (by omega) HP.out)
      have hx1' : 1 ≤ x := by omega
      clear hx hg2
      go_wp2_with fail
      go_loop [4, 6] (fun t j => ∃ q : Nat, 1 ≤ q ∧ q ≤ x ∧ j = .int .i64 q ∧ ∃ p : Nat, Hid (p = 2 ^ (sgN (L.take k) + q - 1)) ∧ p ≤ 65536 ∧ t = .int .i64 p) (fun _ j => x - (intOf j).toNat)
      case atStart => exact ⟨1, Nat.le_refl _, hx1', rfl, p, Lib.hid (by rw [HPW.out]; rfl), by rw [HPW.out]; exact pow_le16' (by omega), rfl⟩
      case round =>
        obtain ⟨q, hq1, hq2, rfl, p2, HP2, hp2, rfl⟩ := hrel
        by_cases hqx : q < x
        · have HP3 : Hid (2 * p2 = 2 ^ (sgN (L.take k) + (q + 1) - 1)) := Lib.hid (by rw [HP2.out, show sgN (L.take k) + (q + 1) - 1 = (sgN (L.take k) + q - 1) + 1 by omega, Nat.pow_succ]; omega)
          have hp3 : 2 * p2 ≤ 65536 := by rw [HP3.out]; exact pow_le16' (by omega)
          have hqx' : (q : Int) < (x : Int) := by omega
          go_wp2
          go_round
          case rel => exact ⟨q + 1, by omega, by omega, by go_num, 2 * p2, HP3, hp3, by go_num⟩
          case measure => simp [intOf] <;> omega
        · obtain rfl : q = x := by omega
          have HN2 : Hid (om + p2 = mkN (L.take (k + 1 + 1))) := Lib.hid (by rw [HN.out, HO.out, HP2.out, HS1.out])
          have hom2 : om + p2 ≤ 65536 := by
            rw [HN2.out]
            have h1 := mkN_lt (vsm_iff.1 (vsm_take HV.out (k + 1 + 1))).1
            have h2 := vsm_bd (vsm_take HV.out (k + 1 + 1))
            have := pow16 (n := sgN (L.take (k + 1 + 1))) (by unfold sgN; omega)
            omega
          have HPW2 : Hid (2 * p2 = 2 ^ sgN (L.take (k + 1))) := Lib.hid (by rw [HP2.out, HS1.out, show sgN (L.take k) + q = (sgN (L.take k) + q - 1) + 1 by omega, Nat.pow_succ]; simp; omega)
          go_wp2
          go_round
          case rel => exact ⟨k + 1, by omega, by go_num, om + p2, 2 * p2, HN2, hom2, HPW2, by omega, by go_num, by go_num⟩
          case measure => simp [intOf] <;> omega
    · have HE : Hid (om = mkN L) := Lib.hid (by rw [HO.out, List.take_of_length_le (by omega)])
      go_wp2
      go_ret
      exact ⟨ret_i64 (by rw [HE.out]), rfl⟩
theorem sMaskOf_any (a : Option Addr) (c B : Nat) (L : List Int) (w : World) (h : Rd w B a (ints L)) (hl : L.length ≤ 4611686018427387904) :
    Calls Try.prog 21 #[.slice a L.length c] w fun e w' => e = .returned (.int .i64 (mkF L)) ∧ w = w' := by
  cases hv : vsm L with
  | true =>
    have HF := Lib.hid (mkF_yes hv)
    have HV := Lib.hid hv
    clear hv
    go_enter Try.func21, Try.ntmps21
    go_wp2_with (first | (go_at_call 50; refine (validSums_any _ _ B L _ h hl).mono ?_; rintro e w' ⟨rfl, rfl⟩; rw [HV.out]) | (go_at_call 52; refine (maskOf_any _ _ B L _ h HV.out).mono ?_; rintro e w' ⟨rfl, rfl⟩))
    go_ret
    exact ⟨ret_i64 HF.out.symm, rfl⟩
  | false =>
    have HF := Lib.hid (mkF_no hv)
    have HV := Lib.hid hv
    clear hv
    go_enter Try.func21, Try.ntmps21
    go_wp2_with (first | (go_at_call 50; refine (validSums_any _ _ B L _ h hl).mono ?_; rintro e w' ⟨rfl, rfl⟩; rw [HV.out]))
    go_ret
    exact ⟨ret_i64 HF.out.symm, rfl⟩
set_option maxHeartbeats 400000 in
theorem sums_any (n m : Nat) (w : World) (hn : n ≤ 16) (hm : m ≤ 65536) :
    Calls Try.prog 55 #[.int .i64 n, .int .i64 m] w fun e w' => ∃ a' c', e = .returned (.slice a' (smk n m).length c') ∧ Own w' w.heap.size w'.heap.size 3 (.slice a' (smk n m).length c') (ints (smk n m)) ∧ Below w.heap.size w w' := by
  obtain ⟨i0, hi, hz0, hz1, hz2⟩ := T_int'
  go_enter Try.func55, Try.ntmps55
  go_wp2
  go_loopw [1, 5, 6, 7] (fun mm v r i wr => ∃ k : Nat, 1 ≤ k ∧ k ≤ max 1 n ∧ i = .int .i64 k ∧ (∃ q : Nat, Hid (q = m / 2 ^ (k - 1)) ∧ q ≤ 65536 ∧ mm = .int .i64 q) ∧ (∃ (out : List Int) (run : Int), Hid (SmAt n m k out run) ∧ out.length < k ∧ 1 ≤ run ∧ run ≤ k ∧ r = .int .i64 run ∧ Own wr w.heap.size wr.heap.size 3 v (ints out)) ∧
    Below w.heap.size w wr) (fun _ _ _ i _ => n + 1 - (intOf i).toNat)
  case atStart =>
    exact ⟨1, Nat.le_refl _, by omega, rfl, ⟨m, Lib.hid (by simp), hm, rfl⟩, ⟨[], 1, Lib.hid (SmAt.first n m), by simp, by omega, by omega, rfl, (Own.empty w 3).more⟩, (Below.refl _ _).alloc (Nat.le_refl _) _⟩
  case round =>
    obtain ⟨k, hk1, hk2, rfl, ⟨q, HQ, hq, rfl⟩, ⟨out, run, HS, hol, hr1, hr2, rfl, hown⟩, hbel⟩ := hrel
    have HO := Lib.hid hown
    clear hown
    obtain ⟨vs, hvs⟩ : ∃ vs, vs = ints out := ⟨_, rfl⟩
    have hlv : vs.length < k := by rw [hvs]; simpa using hol
    have HVS := Lib.hid hvs
    rw [← hvs] at HO
    clear hvs
    have hbs := hbel.size
    by_cases hlt : k < n
    · have HQ2 : Hid (q / 2 = m / 2 ^ (k + 1 - 1)) := Lib.hid (by rw [HQ.out, Nat.div_div_eq_div_mul, show k + 1 - 1 = (k - 1) + 1 by omega, Nat.pow_succ])
      by_cases hb : q % 2 = 1
      · have HN := Lib.hid (HS.out.yes hk1 hlt (by rw [← HQ.out]; exact hb))
        have hb' : ((q : Int) % 2 == 1) = true := beq_iff_eq.2 (by omega)
        clear HS hb
        go_wp2_with (at_builtin; (refine wpList_append_o _ rfl (.tmp 17) (.tmp 19) 22 rfl w.heap.size wr.heap.size 3 i0 (.int .i64 0) 8 Try.underlying22 hi hz0 hz1 hz2 rfl _ vs rfl (HO.out.alloc _) (wr.heap.size + 1) (some ⟨wr.heap.size, 0, none⟩) 1 1 [.int .i64 run] rfl (Rd.one _ _ _) rfl (by simp; rfl) (by unfold maxLen; omega) (by omega) (by simp; omega) ?_); intro v' w2 ho1 hg1 hat1)
        go_roundw
        case rel =>
          refine ⟨k + 1, by omega, by omega, by go_num, ⟨q / 2, HQ2, by omega, by go_num⟩, ⟨out ++ [run], 1, HN, by simp; omega, by omega, by omega, by go_num, ?_⟩, below_push hbel (Nat.le_refl _) hg1 HO.out.base⟩
          rw [HVS.out] at ho1
          simpa [ints] using ho1
        case measure => simp [intOf] <;> omega
      · have HN := Lib.hid (HS.out.no hk1 hlt (by rw [← HQ.out]; exact hb))
        have hb' : ((q : Int) % 2 == 1) = false := beq_eq_false_iff_ne.2 (by omega)
        clear HS hb
        go_wp2_with fail
        go_roundw
        case rel =>
          refine ⟨k + 1, by omega, by omega, by go_num, ⟨q / 2, HQ2, by omega, by go_num⟩, ⟨out, run + 1, HN, by omega, by omega, by omega, by go_num, ?_⟩, hbel⟩
          rw [← HVS.out]
          exact HO.out
        case measure => simp [intOf] <;> omega
    · by_cases h0 : n = 0
      · subst h0
        have HE : Hid (out = smk 0 m) := Lib.hid (HS.out.2 (by omega))
        obtain ⟨a', c', rfl⟩ := HO.out.form
        go_wp2
        go_ret
        have e : vs = ints (smk 0 m) := by rw [HVS.out, HE.out]
        have el : vs.length = (smk 0 m).length := by rw [e]; simp
        refine ⟨a', c', by rw [← el]; rfl, ?_, hbel⟩
        have := HO.out
        rw [e] at this
        simpa using this
      · obtain rfl : k = n := by omega
        have HE : Hid (out ++ [run] = smk k m) := Lib.hid ((HS.out.last hk1).2 rfl)
        have hn0 : (0 : Int) < k := by omega
        clear HS
        go_wp2_with (at_builtin; (refine wpList_append_o _ rfl (.tmp 27) (.tmp 29) 22 rfl w.heap.size wr.heap.size 3 i0 (.int .i64 0) 8 Try.underlying22 hi hz0 hz1 hz2 rfl _ vs rfl (HO.out.alloc _) (wr.heap.size + 1) (some ⟨wr.heap.size, 0, none⟩) 1 1 [.int .i64 run] rfl (Rd.one _ _ _) rfl (by simp; rfl) (by unfold maxLen; omega) (by omega) (by simp; omega) ?_); intro v' w2 ho1 hg1 hat1; have hbn := below_push hbel (Nat.le_refl _) hg1 HO.out.base; have ho2 : Own w2 w.heap.size w2.heap.size 3 v' (ints (smk k m)) := (by rw [HVS.out] at ho1; rw [← HE.out]; simpa [ints] using ho1); clear ho1 hg1 hat1; obtain ⟨a', c', rfl⟩ := ho2.form)
        go_ret
        have el : (ints (smk k m)).length = (smk k m).length := by simp
        rw [el] at ho2
        exact ⟨a', c', by rw [← el]; rfl, ho2, hbn⟩
end Go.Proofs.Ytknpcpabfihkdaa
