/-
  Walks: the program's summands: masksOf, endsAt. Walks: the model's functions of summands. Walks: the program's summands: link, opposite, isFiner. Walks: the model's functions of summands that answer lists, and FinerSums. Walks: the draw of FinerSums. Plain mathematics: parts with labels go into the rooms of their labels. Plain mathematics: finer sums and their opposites. Plain mathematics: finer sums refine as parts. Plain mathematics of diagonals. Plain mathematics of the promise of diagonals. Plain mathematics: what is refined is dominated and has no fewer parts. Plain mathematics: what the law of FinerSums wants. Walks: the program's summands: opposite, summandsOf, twoSummands.
-/
import Derived.Test.YthafbdpeignccaaZR1
import Derived.Test.YthafbdpeignccaaZR2
import Derived.Test.YthafbdpeignccaaZR3
import Derived.Test.YthafbdpeignccaaZR4
import Derived.Test.YthafbdpeignccaaZR5
import Derived.Test.YthafbdpeignccaaZR6
import Derived.Test.YthafbdpeignccaaZR7
import Derived.Test.YthafbdpeignccaaZR8
import Derived.Test.YthafbdpeignccaaZR9
import Derived.Test.YthafbdpeignccaaZR10
import Derived.Test.YthafbdpeignccaaZU1
import Derived.IntWalk
import Derived.StillTailTactics
import Derived.RegionTactic
import Derived.Deep.RegionWith
namespace Go.Proofs.Ythafbdpeignccaa
open Go.RowKit NP
set_option maxRecDepth 8000
set_option linter.unusedVariables false
theorem tmod_nat' (q N : Nat) : (q : Int).tmod (N : Int) = ((q % N : Nat) : Int) := by rw [Int.tmod_eq_emod_of_nonneg (by omega)]; simp
theorem T_sms : (Try.prog.info? 73).map (·.size) = some 2 := by kernel_rfl
theorem pow_bd {k : Nat} (h : k ≤ 40) : (1 : Int) ≤ 2 ^ k ∧ (2 : Int) ^ k ≤ 1099511627776 := by
  have h1 : (2 : Nat) ^ k ≤ 2 ^ 40 := Nat.pow_le_pow_right (by omega) h
  have h2 : 0 < (2 : Nat) ^ k := Nat.two_pow_pos k
  have e : ((2 ^ k : Nat) : Int) = (2 : Int) ^ k := by simp
  omega
theorem wrap_pow {k : Nat} (h : k ≤ 40) : wrap64 ((2 : Int) ^ k) = 2 ^ k := by
  have := pow_bd h
  exact IntWalk.wrap64_in _ (by omega)
theorem masksOf_any (n : Nat) (w : World) (hn : n ≤ 16) :
    Calls Try.prog 115 #[.int .i64 n] w fun e w' => e = .returned (.int .i64 ((2 ^ (n - 1) : Nat) : Int)) ∧ w = w' := by
  by_cases h : n = 0
  · subst h
    go_enter Try.func115, Try.ntmps115
    go_wp2
    go_ret
    exact ⟨rfl, rfl⟩
  · by_cases h1 : n = 1
    · subst h1
      go_enter Try.func115, Try.ntmps115
      go_wp2
      go_ret
      exact ⟨rfl, rfl⟩
    · have h2 : (1 : Int) < n := by omega
      have HW := Lib.hid (wrap_pow (show n - 1 ≤ 40 by omega))
      go_enter Try.func115, Try.ntmps115
      go_wp2
      go_ret
      exact ⟨ret_i64 HW.out, rfl⟩
theorem endsAt_last (n m : Nat) (w : World) :
    Calls Try.prog 116 #[.agg #[.int .i64 n, .int .i64 m], .int .i64 n] w fun e w' => e = .returned (.bool true) ∧ Below w.heap.size w w' := by
  go_enter Try.func116, Try.ntmps116
  go_wp2
  go_ret
  exact ⟨rfl, (Below.refl _ _).alloc (Nat.le_refl _) _⟩
theorem bit_as (m k : Nat) : (((m : Int) / 2 ^ k).tmod 2 == 1) = decide (m / 2 ^ k % 2 = 1) := by
  have e : ((m : Int) / 2 ^ k) = ((m / 2 ^ k : Nat) : Int) := by simp
  rw [e, show (2 : Int) = ((2 : Nat) : Int) from rfl, tmod_nat', Bool.eq_iff_iff]
  simp; omega
theorem endsAt_mid (n m k : Nat) (w : World) (hk0 : 1 ≤ k) (hk : k < n) (hn : n ≤ 16) :
    Calls Try.prog 116 #[.agg #[.int .i64 n, .int .i64 m], .int .i64 k] w fun e w' => e = .returned (.bool (decide (m / 2 ^ (k - 1) % 2 = 1))) ∧ Below w.heap.size w w' := by
  obtain ⟨j, rfl⟩ : ∃ j, k = j + 1 := ⟨k - 1, by omega⟩
  have e1 : ((j : Int) + 1 == (n : Int)) = false := beq_eq_false_iff_ne.2 (by omega)
  have HB := Lib.hid (bit_as m j)
  rw [Nat.add_sub_cancel]
  go_enter Try.func116, Try.ntmps116
  go_wp2
  go_ret
  exact ⟨ret_bool HB.out, (Below.refl _ _).alloc (Nat.le_refl _) _⟩
/-- the summands written ahead of place k, and what runs there -/
def SmAt (n m k : Nat) (out : List Int) (run : Int) : Prop := (k ≤ n → ofB (bitsN m (k - 1)) = out ++ [run]) ∧ (k = n + 1 → out = smk n m)
theorem SmAt.first (n m : Nat) : SmAt n m 1 [] 1 := ⟨fun _ => rfl, fun h => by obtain rfl : n = 0 := by omega
                                                                               rfl⟩
theorem SmAt.last {n m : Nat} {out : List Int} {run : Int} (h : SmAt n m n out run) (h1 : 1 ≤ n) : SmAt n m (n + 1) (out ++ [run]) 1 :=
  ⟨fun h => by omega, fun _ => by rw [← h.1 (Nat.le_refl _)]; unfold smk; rw [if_neg (by omega)]⟩
theorem SmAt.yes {n m k : Nat} {out : List Int} {run : Int} (h : SmAt n m k out run) (h1 : 1 ≤ k) (hk : k < n) (hb : m / 2 ^ (k - 1) % 2 = 1) : SmAt n m (k + 1) (out ++ [run]) 1 := by
  refine ⟨fun _ => ?_, fun h => by omega⟩
  obtain ⟨j, rfl⟩ : ∃ j, k = j + 1 := ⟨k - 1, by omega⟩
  have e := h.1 (by omega)
  rw [Nat.add_sub_cancel] at e hb ⊢
  rw [bitsN, decide_eq_true hb, ofB_true, e]; rfl
theorem SmAt.no {n m k : Nat} {out : List Int} {run : Int} (h : SmAt n m k out run) (h1 : 1 ≤ k) (hk : k < n) (hb : ¬ m / 2 ^ (k - 1) % 2 = 1) : SmAt n m (k + 1) out (run + 1) := by
  refine ⟨fun _ => ?_, fun h => by omega⟩
  obtain ⟨j, rfl⟩ : ∃ j, k = j + 1 := ⟨k - 1, by omega⟩
  have e := h.1 (by omega)
  rw [Nat.add_sub_cancel] at e hb ⊢
  rw [bitsN, decide_eq_false hb, ofB_false _ [] out run e]; rfl
theorem smlist_any (n m : Nat) (w : World) (hn : n ≤ 16) :
    Calls Try.prog 92 #[.agg #[.int .i64 n, .int .i64 m]] w fun e w' => ∃ a' c', e = .returned (.slice a' (smk n m).length c') ∧ Own w' w.heap.size w'.heap.size 3 (.slice a' (smk n m).length c') (ints (smk n m)) ∧ Below w.heap.size w w' := by
  obtain ⟨i0, hi, hz0, hz1, hz2⟩ := T_int'
  go_enter Try.func92, Try.ntmps92
  go_wp2
  go_loopw [3, 4, 5] (fun v b i wr => ∃ k : Nat, 1 ≤ k ∧ k ≤ n + 1 ∧ i = .int .i64 k ∧ (∃ (out : List Int) (run : Int), Hid (SmAt n m k out run) ∧ out.length < k ∧ 1 ≤ run ∧ run ≤ k ∧ b = .int .i64 ((k : Int) - run) ∧ Own wr (w.heap.size + 1) wr.heap.size 3 v (ints out)) ∧
    Below (w.heap.size + 1) (w.alloc (.cells #[.int .i64 n, .int .i64 m] 73)) wr) (fun _ _ i _ => n + 1 - (intOf i).toNat)
  case atStart =>
    refine ⟨1, Nat.le_refl _, by omega, rfl, ⟨[], 1, Lib.hid (SmAt.first n m), by simp, by omega, by omega, rfl, ?_⟩, Below.refl _ _⟩
    have := Own.nil (w.alloc (.cells #[.int .i64 n, .int .i64 m] 73)) (w.heap.size + 1) 3
    exact this
  case round =>
    obtain ⟨k, hk1, hk2, rfl, ⟨out, run, HS, hol, hr1, hr2, rfl, hown⟩, hbel⟩ := hrel
    have hbx := (Blk.new w 73 #[Value.int .i64 n, Value.int .i64 m]).below hbel (by omega)
    have hc0 := hbx.cell 0
    have hc1 := hbx.cell 1
    simp at hc0 hc1
    have hbs := hbel.size
    rw [World.size_alloc] at hbs
    have HO := Lib.hid hown
    clear hown
    obtain ⟨vs, hvs⟩ : ∃ vs, vs = ints out := ⟨_, rfl⟩
    have hlv : vs.length < k := by rw [hvs]; simpa using hol
    have HVS := Lib.hid hvs
    rw [← hvs] at HO
    clear hvs
    have hrs : (k : Int) - ((k : Int) - run) = run := by omega
    by_cases hlt : k ≤ n
    · by_cases hl : k = n
      · subst hl
        have HN := Lib.hid (HS.out.last hk1)
        clear HS
        go_wp2_with (first | (go_at_call 116; refine (endsAt_last k m _).mono ?_; rintro e w1 ⟨rfl, hb1⟩) | (at_builtin; (refine wpList_append_o _ rfl (.tmp 15) (.tmp 19) 22 rfl (w.heap.size + 1) wr.heap.size 3 i0 (.int .i64 0) 8 Try.underlying22 hi hz0 hz1 hz2 rfl _ vs rfl ((HO.out.below hb1).alloc _) (w1.heap.size + 1) (some ⟨w1.heap.size, 0, none⟩) 1 1 [.int .i64 run] rfl (Rd.one _ _ _) rfl (by simp; rfl) (by unfold maxLen; omega) (by omega) (by have := hb1.size; simp; omega) ?_); intro v' w2 ho1 hg1 hat1))
        go_roundw
        case rel =>
          refine ⟨k + 1, by omega, by omega, by go_num, ⟨out ++ [run], 1, HN, by simp; omega, by omega, by omega, by go_num, ?_⟩, below_push (hbel.trans (hb1.mono hbs)) (by simp) hg1 HO.out.base⟩
          rw [HVS.out] at ho1
          simpa [ints] using ho1
        case measure => simp [intOf] <;> omega
      · have hkn : k < n := by omega
        clear hl
        by_cases hb : m / 2 ^ (k - 1) % 2 = 1
        · have HN := Lib.hid (HS.out.yes hk1 hkn hb)
          have HD := Lib.hid (decide_eq_true hb)
          clear HS hb
          go_wp2_with (first | (go_at_call 116; refine (endsAt_mid n m k _ hk1 hkn hn).mono ?_; rintro e w1 ⟨rfl, hb1⟩; rw [HD.out]) | (at_builtin; (refine wpList_append_o _ rfl (.tmp 15) (.tmp 19) 22 rfl (w.heap.size + 1) wr.heap.size 3 i0 (.int .i64 0) 8 Try.underlying22 hi hz0 hz1 hz2 rfl _ vs rfl ((HO.out.below hb1).alloc _) (w1.heap.size + 1) (some ⟨w1.heap.size, 0, none⟩) 1 1 [.int .i64 run] rfl (Rd.one _ _ _) rfl (by simp; rfl) (by unfold maxLen; omega) (by omega) (by have := hb1.size; simp; omega) ?_); intro v' w2 ho1 hg1 hat1))
          go_roundw
          case rel =>
            refine ⟨k + 1, by omega, by omega, by go_num, ⟨out ++ [run], 1, HN, by simp; omega, by omega, by omega, by go_num, ?_⟩, below_push (hbel.trans (hb1.mono hbs)) (by simp) hg1 HO.out.base⟩
            rw [HVS.out] at ho1
            simpa [ints] using ho1
          case measure => simp [intOf] <;> omega
        · have HN := Lib.hid (HS.out.no hk1 hkn hb)
          have HD := Lib.hid (decide_eq_false hb)
          clear HS hb
          go_wp2_with (go_at_call 116; refine (endsAt_mid n m k _ hk1 hkn hn).mono ?_; rintro e w1 ⟨rfl, hb1⟩; rw [HD.out])
          go_roundw
          case rel =>
            refine ⟨k + 1, by omega, by omega, by go_num, ⟨out, run + 1, HN, by omega, by omega, by omega, by go_num, ?_⟩, hbel.trans (hb1.mono hbs)⟩
            rw [← HVS.out]
            exact (HO.out.below hb1).more
          case measure => simp [intOf] <;> omega
    · obtain rfl : k = n + 1 := by omega
      have HE := Lib.hid (HS.out.2 rfl)
      obtain ⟨a', c', rfl⟩ := HO.out.form
      clear HS
      go_wp2
      go_ret
      have e : vs = ints (smk n m) := by rw [HVS.out, HE.out]
      have el : vs.length = (smk n m).length := by rw [e]; simp
      refine ⟨a', c', by rw [← el]; rfl, ?_, ?_⟩
      · have := HO.out.lower (lo' := w.heap.size) (by omega)
        rw [e] at this
        simpa using this
      · exact ((Below.refl w.heap.size w).alloc (Nat.le_refl _) _).trans (hbel.mono (by omega))
end Go.Proofs.Ythafbdpeignccaa
namespace Go.Proofs.Ythafbdpeignccaa
open Go.RowKit NP
set_option maxRecDepth 8000
set_option linter.unusedVariables false
theorem vsm_sumFits {L : List Int} (h : vsm L = true) : sumFits L := fun k hk => by have := vsm_bd (vsm_take h k); omega
/-- each of the first k is in 1 .. 16 -/
def preV (L : List Int) (k : Nat) : Prop := ∀ j (h : j < L.length), j < k → 1 ≤ L[j] ∧ L[j] ≤ 16
theorem preV_succ {L : List Int} {k : Nat} (hk : k < L.length) (h : preV L k) (h1 : 1 ≤ L[k]) (h2 : L[k] ≤ 16) : preV L (k + 1) := by
  intro j hj hjk
  rcases Nat.lt_or_ge j k with hlt | hge
  · exact h j hj hlt
  · obtain rfl : j = k := by omega
    exact ⟨h1, h2⟩
theorem preV_pos {L : List Int} (h : preV L L.length) : ∀ x ∈ L, 1 ≤ x := by
  intro x hx
  obtain ⟨j, hj, rfl⟩ := List.getElem_of_mem hx
  exact (h j hj hj).1
theorem preV_sum {L : List Int} (h : preV L L.length) : ∀ k, k ≤ L.length → 0 ≤ sumL (L.take k) ∧ sumL (L.take k) ≤ 16 * k := by
  intro k
  induction k with
  | zero => intro _; simp [sumL]
  | succ k ih =>
    intro hk
    have := ih (by omega)
    have h1 := h k (by omega) (by omega)
    rw [sumL_take_succ L k (by omega)]
    omega
theorem vsm_of {L : List Int} (h : preV L L.length) : vsm L = decide (sumL L ≤ 16) := by
  rw [Bool.eq_iff_iff, vsm_iff, decide_eq_true_eq]
  exact ⟨fun h => h.2, fun h2 => ⟨preV_pos h, h2⟩⟩
theorem vsm_not_at {L : List Int} {k : Nat} (hk : k < L.length) (h : ¬ (1 ≤ L[k] ∧ L[k] ≤ 16)) : vsm L = false := by
  cases hv : vsm L with
  | false => rfl
  | true =>
    have h1 := vsm_bd (vsm_take hv k)
    have h2 := vsm_bd (vsm_take hv (k + 1))
    rw [sumL_take_succ L k hk] at h2
    exact absurd ⟨(vsm_iff.1 hv).1 _ (List.getElem_mem hk), by omega⟩ h
theorem validSums_any (a : Option Addr) (c B : Nat) (L : List Int) (w : World) (h : Rd w B a (ints L)) (hl : L.length ≤ 4611686018427387904) :
    Calls Try.prog 86 #[.slice a L.length c] w fun e w' => e = .returned (.bool (vsm L)) ∧ w = w' := by
  go_enter Try.func86, Try.ntmps86
  go_wp2
  go_loop [3] (fun i => ∃ k : Nat, k ≤ L.length ∧ i = .int .i64 k ∧ preV L k) (fun i => L.length - (intOf i).toNat)
  case atStart => exact ⟨0, Nat.zero_le _, rfl, fun j _ h => by omega⟩
  case round =>
    obtain ⟨k, hk, rfl, hpre⟩ := hrel
    by_cases hlt : k < L.length
    · obtain ⟨b, o, rfl, hB, hc⟩ := h.at_ hlt
      have HS := Lib.hid (preV_succ hlt hpre)
      clear hpre
      by_cases h12 : 1 ≤ L[k] ∧ L[k] ≤ 16
      · obtain ⟨h1, h2⟩ := h12
        go_wp2_with (go_at_call 49; refine (inRange_yes _ _ _ _ h1 h2).mono ?_; rintro e w' ⟨rfl, rfl⟩)
        go_round
        case rel => exact ⟨k + 1, by omega, by go_num, HS.out h1 h2⟩
        case measure => simp [intOf] <;> omega
      · have HV := Lib.hid (vsm_not_at hlt h12)
        have H12 : Hid (L[k] < 1 ∨ 16 < L[k]) := Lib.hid (by omega)
        clear h12
        go_wp2_with (go_at_call 49; refine (inRange_no _ _ _ _ H12.out).mono ?_; rintro e w' ⟨rfl, rfl⟩)
        go_ret
        exact ⟨ret_bool HV.out.symm, rfl⟩
    · obtain rfl : k = L.length := by omega
      have hfit : sumFits L ∨ ¬ L.length ≤ 16 := by
        by_cases h16 : L.length ≤ 16
        · exact .inl fun j hj => by have := preV_sum hpre j hj; omega
        · exact .inr h16
      have HV := Lib.hid (vsm_of hpre)
      have HL : Hid (¬ L.length ≤ 16 → vsm L = false) := Lib.hid (fun hh => by
        cases hv : vsm L with
        | false => rfl
        | true => exact absurd (vsm_bd hv).2.2.2 hh)
      clear hpre
      by_cases hlen : L.length ≤ 16
      · have hf : sumFits L := hfit.elim id (fun hh => absurd hlen hh)
        clear hfit
        go_wp2_with (go_at_call 68; refine (sum_any _ _ B L _ h hf (by omega)).mono ?_; rintro e w' ⟨rfl, rfl⟩)
        go_ret
        exact ⟨ret_bool HV.out.symm, rfl⟩
      · clear hfit
        go_wp2_with fail
        go_ret
        exact ⟨ret_bool (HL.out hlen).symm, rfl⟩
theorem pow_le16' {n : Nat} (h : n ≤ 16) : 2 ^ n ≤ 65536 := Nat.pow_le_pow_right (n := 2) (by omega) h
theorem mkN_one {L : List Int} (h : L.length ≤ 1) : mkN L = 0 := by
  match L, h with
  | [], _ => rfl
  | [x], _ => simp [mkN, toB, bval_zeros]
theorem pow_le17 {k : Nat} (h : k ≤ 17) : 2 ^ k ≤ 131072 := Nat.pow_le_pow_right (n := 2) (by omega) h
set_option maxHeartbeats 400000 in
theorem maskOf_any (a : Option Addr) (c B : Nat) (L : List Int) (w : World) (h : Rd w B a (ints L)) (hv : vsm L = true) :
    Calls Try.prog 89 #[.slice a L.length c] w fun e w' => e = .returned (.int .i64 (mkN L : Int)) ∧ w = w' := by
  have hl16 := (vsm_bd hv).2.2.2
  have hpos := (vsm_iff.1 hv).1
  have HV := Lib.hid hv
  have HP := Lib.hid hpos
  clear hv hpos
  go_enter Try.func89, Try.ntmps89
  go_wp2
  go_loop [3, 4, 5, 6] (fun o t i _ => ∃ k : Nat, k ≤ L.length ∧ i = .int .i64 k ∧ (∃ om p : Nat, Hid (om = mkN (L.take (k + 1))) ∧ om ≤ 65536 ∧ Hid (p = 2 ^ sgN (L.take k)) ∧ p ≤ 131072 ∧ o = .int .i64 om ∧ t = .int .i64 p)) (fun _ _ i _ => L.length - (intOf i).toNat)
  case atStart => exact ⟨0, Nat.zero_le _, rfl, 0, 1, Lib.hid (mkN_one (by simp; omega)).symm, by omega, Lib.hid rfl, by omega, rfl, rfl⟩
  case round =>
    obtain ⟨k, hk, rfl, om, p, HO, hom, HPW, hp, rfl, rfl⟩ := hrel
    by_cases hlt : k + 1 < L.length
    · have hkl : k < L.length := by omega
      obtain ⟨b, o, rfl, -, hc⟩ := h.at_ hkl
      have hx1 := HP.out L[k] (List.getElem_mem hkl)
      obtain ⟨x, hx⟩ := Int.eq_ofNat_of_zero_le (show 0 ≤ L[k] by omega)
      have HS1 := Lib.hid (sgN_next hkl (.inl HV.out) hx)
      have hg2 := vsm_bd (vsm_take HV.out (k + 1))
      have hg : sgN (L.take (k + 1)) ≤ 16 := by unfold sgN; omega
      have hsx : sgN (L.take k) + x ≤ 16 := by rw [← HS1.out]; exact hg
      rw [hx] at hc hx1
      have HN := Lib.hid (mkN_next hlt (by omega) HP.out)
      have hx1' : 1 ≤ x := by omega
      clear hx hg2
      go_wp2_with fail
      go_loop [4, 6] (fun t j => ∃ q : Nat, 1 ≤ q ∧ q ≤ x ∧ j = .int .i64 q ∧ ∃ p : Nat, Hid (p = 2 ^ (sgN (L.take k) + q - 1)) ∧ p ≤ 65536 ∧ t = .int .i64 p) (fun _ j => x - (intOf j).toNat)
      case atStart => exact ⟨1, Nat.le_refl _, hx1', rfl, p, Lib.hid (by rw [HPW.out]; rfl), by rw [HPW.out]; exact pow_le16' (by omega), rfl⟩
      case round =>
        obtain ⟨q, hq1, hq2, rfl, p2, HP2, hp2, rfl⟩ := hrel
        by_cases hqx : q < x
        · have HP3 : Hid (2 * p2 = 2 ^ (sgN (L.take k) + (q + 1) - 1)) := Lib.hid (by rw [HP2.out, show sgN (L.take k) + (q + 1) - 1 = (sgN (L.take k) + q - 1) + 1 by omega, Nat.pow_succ]; omega)
          have hp3 : 2 * p2 ≤ 65536 := by rw [HP3.out]; exact pow_le16' (by omega)
          have hqx' : (q : Int) < (x : Int) := by omega
          go_wp2
          go_round
          case rel => exact ⟨q + 1, by omega, by omega, by go_num, 2 * p2, HP3, hp3, by go_num⟩
          case measure => simp [intOf] <;> omega
        · obtain rfl : q = x := by omega
          have HN2 : Hid (om + p2 = mkN (L.take (k + 1 + 1))) := Lib.hid (by rw [HN.out, HO.out, HP2.out, HS1.out])
          have hom2 : om + p2 ≤ 65536 := by
            rw [HN2.out]
            have h1 := mkN_lt (vsm_iff.1 (vsm_take HV.out (k + 1 + 1))).1
            have h2 := vsm_bd (vsm_take HV.out (k + 1 + 1))
            have := pow16 (n := sgN (L.take (k + 1 + 1))) (by unfold sgN; omega)
            omega
          have HPW2 : Hid (2 * p2 = 2 ^ sgN (L.take (k + 1))) := Lib.hid (by rw [HP2.out, HS1.out, show sgN (L.take k) + q = (sgN (L.take k) + q - 1) + 1 by omega, Nat.pow_succ]; simp; omega)
          go_wp2
          go_round
          case rel => exact ⟨k + 1, by omega, by go_num, om + p2, 2 * p2, HN2, hom2, HPW2, by omega, by go_num, by go_num⟩
          case measure => simp [intOf] <;> omega
    · have HE : Hid (om = mkN L) := Lib.hid (by rw [HO.out, List.take_of_length_le (by omega)])
      go_wp2
      go_ret
      exact ⟨ret_i64 (by rw [HE.out]), rfl⟩
end Go.Proofs.Ythafbdpeignccaa
namespace Go.Proofs.Ythafbdpeignccaa
open Go.RowKit NP
set_option maxRecDepth 8000
set_option linter.unusedVariables false
theorem i64_of (x : Nat) (h : x < 4611686018427387904) : (BitVec.ofInt 64 (x : Int)).toNat = x := by
  rw [BitVec.ofInt_natCast, BitVec.toNat_ofNat]; exact Nat.mod_eq_of_lt (by omega)
theorem i64_or (a b : Nat) (ha : a < 4611686018427387904) (hb : b < 4611686018427387904) : bits .or .i64 (a : Int) (b : Int) = ((a ||| b : Nat) : Int) := by
  have hx : a ||| b < 2 ^ 62 := Nat.or_lt_two_pow (by omega) (by omega)
  show IntKind.i64.wrap ((BitVec.ofInt 64 (a : Int) ||| BitVec.ofInt 64 (b : Int)).toNat : Int) = _
  rw [BitVec.toNat_or, i64_of a ha, i64_of b hb, IntKind.wrap_i64]
  omega
theorem i64_and (a b : Nat) (ha : a < 4611686018427387904) (hb : b < 4611686018427387904) : bits .and .i64 (a : Int) (b : Int) = ((a &&& b : Nat) : Int) := by
  have hx : a &&& b < 2 ^ 62 := Nat.and_lt_two_pow _ (by omega)
  show IntKind.i64.wrap ((BitVec.ofInt 64 (a : Int) &&& BitVec.ofInt 64 (b : Int)).toNat : Int) = _
  rw [BitVec.toNat_and, i64_of a ha, i64_of b hb, IntKind.wrap_i64]
  omega
theorem or_join {m n : Nat} (x : Nat) (h : m < 2 ^ n) : m ||| x * 2 ^ n = m + 2 ^ n * x := by
  have := Nat.shiftLeft_add_eq_or_of_lt h x
  rw [Nat.shiftLeft_eq] at this
  rw [Nat.or_comm, ← this, Nat.mul_comm]; omega
theorem or_join2 {m n : Nat} (x : Nat) (h0 : 0 < n) (h : m < 2 ^ (n - 1)) : (m + 2 ^ n * x) ||| 2 ^ (n - 1) = m + 2 ^ (n - 1) + 2 ^ n * x := by
  have hp : 2 ^ n = 2 ^ (n - 1) * 2 := by rw [← Nat.pow_succ]; congr 1; omega
  have e1 : (m + 2 ^ n * x) = m ||| (2 * x) * 2 ^ (n - 1) := by rw [or_join _ h, hp, Nat.mul_assoc]
  have e2 : (2 * x) * 2 ^ (n - 1) ||| 2 ^ (n - 1) = (2 * x + 1) * 2 ^ (n - 1) := by
    have h1 := Nat.shiftLeft_add_eq_or_of_lt (i := n) (b := 2 ^ (n - 1)) (by have := Nat.two_pow_pos (n - 1); omega) x
    rw [Nat.shiftLeft_eq, hp] at h1
    have h2 : 2 * x * 2 ^ (n - 1) = x * (2 ^ (n - 1) * 2) := by rw [Nat.mul_comm 2 x, Nat.mul_assoc, Nat.mul_comm 2]
    rw [h2, ← h1, Nat.add_mul, h2]; omega
  rw [e1, Nat.or_assoc, e2, or_join _ h, hp, Nat.mul_add, Nat.mul_assoc]; omega
theorem pow_le16 {n : Nat} (h : n ≤ 16) : 2 ^ n ≤ 65536 := Nat.pow_le_pow_right (n := 2) (by omega) h
theorem shl_nat {m n : Nat} (hm : m < 65536) (h : n ≤ 16) : IntKind.i64.wrap ((m : Int) * 2 ^ n) = ((m * 2 ^ n : Nat) : Int) := by
  have h1 := pow_le16 h
  have h2 : m * 2 ^ n ≤ 65536 * 65536 := Nat.mul_le_mul (by omega) h1
  have e : ((m : Int) * 2 ^ n) = ((m * 2 ^ n : Nat) : Int) := by simp
  rw [e, IntWalk.i64_in _ (by omega)]
theorem isFiner_any (n m n2 m2 : Nat) (w : World) (h1 : m < 65536) (h2 : m2 < 65536) :
    Calls Try.prog 88 #[.agg #[.int .i64 n, .int .i64 m], .agg #[.int .i64 n2, .int .i64 m2]] w fun e w' => e = .returned (.bool (decide (n = n2) && decide (m &&& m2 = m2))) ∧ Below w.heap.size w w' := by
  by_cases h : n = n2
  · have e1 : ((n : Int) == (n2 : Int)) = true := beq_iff_eq.2 (by omega)
    have HA := Lib.hid (i64_and m m2 (by omega) (by omega))
    have HN := Lib.hid h
    clear h
    go_enter Try.func88, Try.ntmps88
    go_wp2
    go_ret
    refine ⟨ret_bool ?_, ((Below.refl _ _).alloc (Nat.le_refl _) _).alloc (by simp) _⟩
    show (bits BinOp.and IntKind.i64 (m : Int) (m2 : Int) == (m2 : Int)) = _
    rw [HA.out, HN.out, decide_eq_true rfl, Bool.true_and, Bool.eq_iff_iff, beq_iff_eq, decide_eq_true_eq]
    omega
  · have e1 : ((n : Int) == (n2 : Int)) = false := beq_eq_false_iff_ne.2 (by omega)
    go_enter Try.func88, Try.ntmps88
    go_wp2
    go_ret
    exact ⟨ret_bool (by simp [h]), ((Below.refl _ _).alloc (Nat.le_refl _) _).alloc (by simp) _⟩
def lkN (n m n2 m2 : Nat) (near : Bool) : Nat := m + 2 ^ (n - 1) * (if near = true ∨ n = 0 ∨ n2 = 0 then 0 else 1) + 2 ^ n * m2
theorem link_any (n m n2 m2 : Nat) (near : Bool) (w : World) (h1 : m < 2 ^ (n - 1)) (h2 : m2 < 2 ^ (n2 - 1)) (hs : n + n2 ≤ 16) :
    Calls Try.prog 114 #[.agg #[.int .i64 n, .int .i64 m], .agg #[.int .i64 n2, .int .i64 m2], .bool near] w fun e w' =>
      e = .returned (.agg #[.int .i64 ((n + n2 : Nat) : Int), .int .i64 ((lkN n m n2 m2 near : Nat) : Int)]) ∧ Below w.heap.size w w' := by
  have p1 := pow_le16 (n := n) (by omega)
  have p2 := pow_le16 (n := n2 - 1) (by omega)
  have p3 := pow_le16 (n := n - 1) (by omega)
  have p4 : 2 ^ (n - 1) ≤ 2 ^ n := Nat.pow_le_pow_right (by omega) (by omega)
  have hj := or_join (n := n) m2 (show m < 2 ^ n by omega)
  have hj2 := fun h0 => or_join2 (n := n) m2 h0 h1
  have hx : 2 ^ n * m2 ≤ 65536 * 65536 := Nat.mul_le_mul p1 (by omega)
  obtain ⟨q, hq, e1⟩ : ∃ q : Nat, q = m2 * 2 ^ n ∧ IntKind.i64.wrap ((m2 : Int) * 2 ^ n) = (q : Int) := ⟨_, rfl, shl_nat (by omega) (by omega)⟩
  obtain ⟨s, hs1, e2⟩ : ∃ s : Nat, s = n + n2 ∧ IntKind.i64.wrap ((n : Int) + (n2 : Int)) = (s : Int) := ⟨_, rfl, by rw [IntWalk.i64_in _ (by omega)]; simp⟩
  obtain ⟨o, ho, e3⟩ : ∃ o : Nat, o = m + 2 ^ n * m2 ∧ bits .or .i64 (m : Int) (q : Int) = (o : Int) := ⟨_, rfl, by rw [hq, i64_or _ _ (by omega) (by rw [Nat.mul_comm]; omega), hj]⟩
  have hn : (n : Int) ≤ 16 := by omega
  have HO : Hid (0 < n → bits .or .i64 (o : Int) ((2 ^ (n - 1) : Nat) : Int) = ((m + 2 ^ (n - 1) + 2 ^ n * m2 : Nat) : Int)) := Lib.hid (fun h0 => by rw [i64_or _ _ (by omega) (by omega), ho, hj2 h0])
  have HS := Lib.hid hs1
  have HQ := Lib.hid ho
  have HP := Lib.hid (wrap_pow (show n - 1 ≤ 40 by omega))
  clear p1 p2 p3 p4 hq hs1 hj hj2 hx ho
  go_enter Try.func114, Try.ntmps114
  go_wp2_with fail
  go_region
  have hbl := ((((Below.refl w.heap.size w).alloc (Nat.le_refl _) (.cells #[.int .i64 n, .int .i64 m] 73)).alloc (by simp) (.cells #[.int .i64 n2, .int .i64 m2] 73)).alloc (by simp; omega) (.cells #[.int .i64 0, .int .i64 0] 73)).alloc (by simp; omega) (.cells #[.int .i64 s, .int .i64 o] 73)
  by_cases hz : near = true ∨ n = 0 ∨ n2 = 0
  · have HL : Hid (lkN n m n2 m2 near = o) := Lib.hid (by unfold lkN; rw [if_pos hz, HQ.out]; omega)
    have hz' : near = true ∨ (near = false ∧ n = 0) ∨ (near = false ∧ 0 < n ∧ n2 = 0) := by cases near <;> simp at * <;> omega
    clear hz
    rcases hz' with rfl | ⟨rfl, hz'⟩ | ⟨rfl, h0, hz'⟩
    · go_wp2
      have hbR : Blk ((((w.alloc (.cells #[.int .i64 n, .int .i64 m] 73)).alloc (.cells #[.int .i64 n2, .int .i64 m2] 73)).alloc (.cells #[.int .i64 s, .int .i64 o] 73)).alloc (.cells #[.int .i64 s, .int .i64 o] 73)) (w.heap.size + 1 + 1) 73 #[.int .i64 s, .int .i64 o] := by
        have e := (Blk.new ((w.alloc (.cells #[.int .i64 n, .int .i64 m] 73)).alloc (.cells #[.int .i64 n2, .int .i64 m2] 73)) 73 #[.int .i64 s, .int .i64 o]).alloc (.cells #[.int .i64 s, .int .i64 o] 73)
        rw [World.size_alloc, World.size_alloc] at e
        exact e
      refine bodyPost_ret (results_cell_row rfl _ _ (w.heap.size + 1 + 1) 73 #[.int .i64 s, .int .i64 o] (0, 0) _ rfl hbR.drew Try.underlying73 rfl T_sms) rfl ?_
      exact ⟨by rw [HL.out, HS.out], ((((((Below.refl w.heap.size w).alloc (Nat.le_refl _) _).alloc (by simp) _).alloc (by simp; omega) _).alloc (by simp; omega) _).trans ((Dr.refl _).drewN 1 |>.below _))⟩
    · have hzi : ¬ 0 < n := by omega
      clear hz'
      go_wp2
      have hbR : Blk ((((w.alloc (.cells #[.int .i64 n, .int .i64 m] 73)).alloc (.cells #[.int .i64 n2, .int .i64 m2] 73)).alloc (.cells #[.int .i64 s, .int .i64 o] 73)).alloc (.cells #[.int .i64 s, .int .i64 o] 73)) (w.heap.size + 1 + 1) 73 #[.int .i64 s, .int .i64 o] := by
        have e := (Blk.new ((w.alloc (.cells #[.int .i64 n, .int .i64 m] 73)).alloc (.cells #[.int .i64 n2, .int .i64 m2] 73)) 73 #[.int .i64 s, .int .i64 o]).alloc (.cells #[.int .i64 s, .int .i64 o] 73)
        rw [World.size_alloc, World.size_alloc] at e
        exact e
      refine bodyPost_ret (results_cell_row rfl _ _ (w.heap.size + 1 + 1) 73 #[.int .i64 s, .int .i64 o] (0, 0) _ rfl hbR.drew Try.underlying73 rfl T_sms) rfl ?_
      exact ⟨by rw [HL.out, HS.out], ((((((Below.refl w.heap.size w).alloc (Nat.le_refl _) _).alloc (by simp) _).alloc (by simp; omega) _).alloc (by simp; omega) _).trans ((Dr.refl _).drewN 1 |>.below _))⟩
    · have h0' : (0 : Int) < n := by omega
      have hzi : ¬ 0 < n2 := by omega
      clear hz'
      go_wp2
      have hbR : Blk ((((w.alloc (.cells #[.int .i64 n, .int .i64 m] 73)).alloc (.cells #[.int .i64 n2, .int .i64 m2] 73)).alloc (.cells #[.int .i64 s, .int .i64 o] 73)).alloc (.cells #[.int .i64 s, .int .i64 o] 73)) (w.heap.size + 1 + 1) 73 #[.int .i64 s, .int .i64 o] := by
        have e := (Blk.new ((w.alloc (.cells #[.int .i64 n, .int .i64 m] 73)).alloc (.cells #[.int .i64 n2, .int .i64 m2] 73)) 73 #[.int .i64 s, .int .i64 o]).alloc (.cells #[.int .i64 s, .int .i64 o] 73)
        rw [World.size_alloc, World.size_alloc] at e
        exact e
      refine bodyPost_ret (results_cell_row rfl _ _ (w.heap.size + 1 + 1) 73 #[.int .i64 s, .int .i64 o] (0, 0) _ rfl hbR.drew Try.underlying73 rfl T_sms) rfl ?_
      exact ⟨by rw [HL.out, HS.out], ((((((Below.refl w.heap.size w).alloc (Nat.le_refl _) _).alloc (by simp) _).alloc (by simp; omega) _).alloc (by simp; omega) _).trans ((Dr.refl _).drewN 1 |>.below _))⟩
  · have HL : Hid (lkN n m n2 m2 near = m + 2 ^ (n - 1) + 2 ^ n * m2) := Lib.hid (by unfold lkN; rw [if_neg hz]; omega)
    have hz' : near = false ∧ 0 < n ∧ 0 < n2 := by cases near <;> simp at * <;> omega
    clear hz
    obtain ⟨rfl, h0, h02⟩ := hz'
    have h0' : (0 : Int) < n := by omega
    have h02' : (0 : Int) < n2 := by omega
    go_wp2_with fail
    go_region
    go_wp2_with fail
    have hbR : Blk ((((w.alloc (.cells #[.int .i64 n, .int .i64 m] 73)).alloc (.cells #[.int .i64 n2, .int .i64 m2] 73)).alloc (.cells #[.int .i64 s, .int .i64 (bits .or .i64 (o : Int) (wrap64 (2 ^ (n - 1))))] 73)).alloc (.cells #[.int .i64 s, .int .i64 (bits .or .i64 (o : Int) (wrap64 (2 ^ (n - 1))))] 73)) (w.heap.size + 1 + 1) 73 #[.int .i64 s, .int .i64 (bits .or .i64 (o : Int) (wrap64 (2 ^ (n - 1))))] := by
      have e := (Blk.new ((w.alloc (.cells #[.int .i64 n, .int .i64 m] 73)).alloc (.cells #[.int .i64 n2, .int .i64 m2] 73)) 73 #[.int .i64 s, .int .i64 (bits .or .i64 (o : Int) (wrap64 (2 ^ (n - 1))))]).alloc (.cells #[.int .i64 s, .int .i64 (bits .or .i64 (o : Int) (wrap64 (2 ^ (n - 1))))] 73)
      rw [World.size_alloc, World.size_alloc] at e
      exact e
    refine bodyPost_ret (results_cell_row rfl _ _ (w.heap.size + 1 + 1) 73 #[.int .i64 s, .int .i64 (bits .or .i64 (o : Int) (wrap64 (2 ^ (n - 1))))] (0, 0) _ rfl hbR.drew.drew Try.underlying73 rfl T_sms) rfl ?_
    have e9 : bits .or .i64 (o : Int) (wrap64 (2 ^ (n - 1))) = ((lkN n m n2 m2 false : Nat) : Int) := by rw [HP.out, HL.out, ← HO.out h0]; simp
    exact ⟨by rw [HS.out, e9], ((((((Below.refl w.heap.size w).alloc (Nat.le_refl _) _).alloc (by simp) _).alloc (by simp; omega) _).alloc (by simp; omega) _).trans ((Dr.refl _).drewN 2 |>.below _))⟩
end Go.Proofs.Ythafbdpeignccaa
namespace Go.Proofs.Ythafbdpeignccaa
open Go.RowKit NP
set_option maxRecDepth 8000
set_option linter.unusedVariables false
set_option maxHeartbeats 1600000 in
theorem sFinerSums_any (a b : Option Addr) (ca cb Ba Bb : Nat) (L M : List Int) (w : World) (h : Rd w Ba a (ints L)) (hm : Rd w Bb b (ints M)) (hl : L.length ≤ 4611686018427387904) (hl2 : M.length ≤ 4611686018427387904) :
    Calls Try.prog 44 #[.slice a L.length ca, .slice b M.length cb] w fun e w' => e = .returned (.bool (finF L M)) ∧ w = w' := by
  cases hv1 : vsm L with
  | true =>
    have HV1 := Lib.hid hv1
    cases hv2 : vsm M with
    | true =>
      have HV2 := Lib.hid hv2
      have HF := Lib.hid (finF_yes hv1 hv2)
      have hb1 := vsm_bd hv1
      have hb2 := vsm_bd hv2
      have hs1 : sumL L = (sgN L : Int) := by unfold sgN; omega
      have hs2 : sumL M = (sgN M : Int) := by unfold sgN; omega
      have HS1 := Lib.hid (fun w h => sum_any a ca Ba L w h (vsm_sumFits hv1) hl)
      have HS2 := Lib.hid (fun w h => sum_any b cb Bb M w h (vsm_sumFits hv2) hl2)
      rw [hs1] at HS1
      rw [hs2] at HS2
      have m1 := mkN_16 hv1
      have m2 := mkN_16 hv2
      have HA := Lib.hid (i64_and (mkN L) (mkN M) (by omega) (by omega))
      clear hv1 hv2 hb1 hb2 hs1 hs2 m1 m2
      by_cases hs : sgN L = sgN M
      · have e1 : ((sgN L : Int) != (sgN M : Int)) = false := by simp; omega
        have HE := Lib.hid hs
        clear hs
        go_enter Try.func44, Try.ntmps44
        go_wp2_with (first | (go_at_call 86; (with_reducible refine (validSums_any _ _ Ba L _ h hl).mono ?_); rintro e w' ⟨rfl, rfl⟩; rw [HV1.out]) | (go_at_call 86; (with_reducible refine (validSums_any _ _ Bb M _ hm hl2).mono ?_); rintro e w' ⟨rfl, rfl⟩; rw [HV2.out]) | (go_at_call 68; (with_reducible refine (HS1.out _ h).mono ?_); rintro e w' ⟨rfl, rfl⟩) | (go_at_call 68; (with_reducible refine (HS2.out _ hm).mono ?_); rintro e w' ⟨rfl, rfl⟩) | (go_at_call 89; (with_reducible refine (maskOf_any _ _ Ba L _ h HV1.out).mono ?_); rintro e w' ⟨rfl, rfl⟩) | (go_at_call 89; (with_reducible refine (maskOf_any _ _ Bb M _ hm HV2.out).mono ?_); rintro e w' ⟨rfl, rfl⟩))
        go_ret
        refine ⟨ret_bool ?_, rfl⟩
        rw [HF.out, decide_eq_true HE.out, Bool.true_and]
        show (bits BinOp.and IntKind.i64 (mkN L : Int) (mkN M : Int) == (mkN M : Int)) = _
        rw [HA.out, Bool.eq_iff_iff, beq_iff_eq, decide_eq_true_eq]
        omega
      · have e1 : ((sgN L : Int) != (sgN M : Int)) = true := by simp; omega
        have HE := Lib.hid hs
        clear hs
        go_enter Try.func44, Try.ntmps44
        go_wp2_with (first | (go_at_call 86; (with_reducible refine (validSums_any _ _ Ba L _ h hl).mono ?_); rintro e w' ⟨rfl, rfl⟩; rw [HV1.out]) | (go_at_call 86; (with_reducible refine (validSums_any _ _ Bb M _ hm hl2).mono ?_); rintro e w' ⟨rfl, rfl⟩; rw [HV2.out]) | (go_at_call 68; (with_reducible refine (HS1.out _ h).mono ?_); rintro e w' ⟨rfl, rfl⟩) | (go_at_call 68; (with_reducible refine (HS2.out _ hm).mono ?_); rintro e w' ⟨rfl, rfl⟩))
        go_ret
        exact ⟨ret_bool (by rw [HF.out, decide_eq_false HE.out]; rfl), rfl⟩
    | false =>
      have HV2 := Lib.hid hv2
      have HF : Hid (finF L M = false) := Lib.hid (finF_no (by rw [hv1, hv2]; rfl))
      clear hv1 hv2
      go_enter Try.func44, Try.ntmps44
      go_wp2_with (first | (go_at_call 86; (with_reducible refine (validSums_any _ _ Ba L _ h hl).mono ?_); rintro e w' ⟨rfl, rfl⟩; rw [HV1.out]) | (go_at_call 86; (with_reducible refine (validSums_any _ _ Bb M _ hm hl2).mono ?_); rintro e w' ⟨rfl, rfl⟩; rw [HV2.out]))
      go_ret
      exact ⟨ret_bool HF.out.symm, rfl⟩
  | false =>
    have HV1 := Lib.hid hv1
    have HF : Hid (finF L M = false) := Lib.hid (finF_no (by rw [hv1]; rfl))
    clear hv1
    go_enter Try.func44, Try.ntmps44
    go_wp2_with (first | (go_at_call 86; (with_reducible refine (validSums_any _ _ Ba L _ h hl).mono ?_); rintro e w' ⟨rfl, rfl⟩; rw [HV1.out]))
    go_ret
    exact ⟨ret_bool HF.out.symm, rfl⟩
end Go.Proofs.Ythafbdpeignccaa
namespace Go.Proofs.Ythafbdpeignccaa
open Go.RowKit NP
set_option maxRecDepth 8000
set_option linter.unusedVariables false
set_option linter.unusedSimpArgs false
set_option maxRecDepth 100000 in
set_option maxHeartbeats 4000000 in
theorem DrawFinerSums_any (a : Option Addr) (c B : Nat) (bs : List Int) (w : World) (h : Rd w B a (bs.map (Value.int .u8))) (hB : B ≤ w.heap.size) (hb : ∀ n ∈ bs, (Lit.int .u8 n).wf = true) (hl : bs.length ≤ 1048576) (hc : bs.length ≤ c) :
    Calls Try.prog 42 #[.slice a bs.length c] w fun e w' => ∃ a1 c1 M1 a2 c2 M2, e = .returned (.tuple #[.slice a1 M1.length c1, .slice a2 M2.length c2]) ∧ Own w' w.heap.size w'.heap.size 3 (.slice a1 M1.length c1) (ints M1) ∧ Own w' w.heap.size w'.heap.size 3 (.slice a2 M2.length c2) (ints M2) ∧ Small M1 ∧ Small M2 ∧ Below w.heap.size w w' := by
  obtain ⟨i0, hi, hk0, hk1, hk2⟩ := T_int'
  have hmx : Try.prog.follows .mixedOrders = true := by kernel_rfl
  go_enter Try.func42, Try.ntmps42
  go_wp2_with fail
  refine (newReader_any _ _ B bs _ h hB hb hl hc).mono ?_
  rintro e w1 ⟨rfl, h1, hb1, -⟩
  have hz := hb1.size
  have hlt1 := h1.lt
  obtain ⟨rs, hrs⟩ : ∃ rs, rs = bs.take 2000 := ⟨_, rfl⟩
  rw [← hrs] at h1
  clear hrs h hb hl hc
  go_wp2_with fail
  refine (sumsOf_any _ 0 _ _ (by omega) h1).mono ?_
  rintro e w2 ⟨a1, c1, P, rfl, ho1, hs1, ⟨q2, hq2, h2⟩, hg⟩
  have hB2 : Below w.heap.size w w2 := hb1.grown hg hz (fun k hk => by injection hk with hk; omega)
  have hz12 := hg.size
  clear hg h1 hb1
  have HO1 := Lib.hid ho1
  have HS1 := Lib.hid hs1
  have hP40 := hs1.1
  clear ho1 hs1
  have hwz1 : w.heap.size < w1.heap.size := hlt1
  cases hv : vsm P with
  | false =>
    have HV := Lib.hid hv
    clear hv
    go_wp2_with (go_at_call 86; refine (validSums_any _ _ _ P _ HO1.out.rd (by omega)).mono ?_; rintro e wv ⟨rfl, rfl⟩; rw [HV.out])
    refine (sumsOf_any w.heap.size _ rs _ (by omega) h2).mono ?_
    rintro e w3 ⟨a2, c2, Q, rfl, ho2, hs2, -, hg3⟩
    have hsz3 := hg3.size
    have HP3 := Lib.hid (HO1.out.chg hg3 hlt1).more
    have HQ3 := Lib.hid (ho2.lower (lo' := w.heap.size) (by omega))
    have HS2 := Lib.hid hs2
    have hB3 : Below w.heap.size w w3 := hB2.grown hg3 hB2.size (fun k hk => by injection hk with hk; omega)
    clear hg3 ho2 hs2
    go_wp2_with fail
    go_ret2
    exact ⟨a1, c1, P, a2, c2, Q, rfl, HP3.out.lower (by omega), HQ3.out, HS1.out, HS2.out, hB3⟩
  | true =>
    have HV := Lib.hid hv
    have hP16 := (vsm_iff.1 hv).2
    have hPl := sum_len (vsm_iff.1 hv).1
    have hl16 : P.length ≤ 16 := by omega
    clear hv hP16 hPl
    go_wp2_with (go_at_call 86; refine (validSums_any _ _ _ P _ HO1.out.rd (by omega)).mono ?_; rintro e wv ⟨rfl, rfl⟩; rw [HV.out])
    refine (pick_any w.heap.size _ 3 rs _ (by omega) (by omega) h2).mono ?_
    rintro e w3 ⟨z, rfl, hz0, -, h3, hg3, -⟩
    have HP3 := Lib.hid (HO1.out.chg hg3 hlt1).more
    have hB3 : Below w.heap.size w w3 := hB2.grown hg3 hB2.size (fun k hk => by injection hk with hk; omega)
    have hz23 := hg3.size
    have hz13 : w1.heap.size ≤ w3.heap.size := by omega
    clear hg3 hB2 h2
    by_cases hz : 0 < z
    · have b0 : decide (0 < z) = true := decide_eq_true hz
      clear hz
      have hE := Own.empty w3 3
      have hlt3 := h3.lt
      have HSP : Hid (∀ i, 0 ≤ sumL (P.take i) ∧ sumL (P.take i) ≤ 16) := Lib.hid (fun i => by
        have e : ∀ x ∈ P, 1 ≤ x := fun x hx => (vsm_iff.1 HV.out).1 x hx
        have h1 := (le_sumL (M := P.take i) (fun y hy => e y (List.mem_of_mem_take hy))).1
        have h2 := (le_sumL (M := P.drop i) (fun y hy => e y (List.mem_of_mem_drop hy))).1
        have h3 := congrArg sumL (List.take_append_drop i P)
        rw [sumL_append] at h3
        have h4 := (vsm_iff.1 HV.out).2
        omega)
      have HR0 := Lib.hid (h3.below ((Below.refl _ _).alloc hlt3 (.cells #[] 3)))
      have HP0 := Lib.hid (HP3.out.alloc (.cells #[] 3))
      have HB0 : Hid (Below w.heap.size w (w3.alloc (.cells #[] 3))) := Lib.hid (hB3.alloc hB3.size _)
      have HE := Lib.hid hE.more
      clear hE h3
      go_wp2_with fail
      go_loopw [6, 7] (fun v ii wr => ∃ (i q' : Nat) (M : List Int), ii = .int .i64 (i : Int) ∧ i ≤ P.length ∧ q' ≤ 810000 + 2 * i ∧ Rdr wr w.heap.size rs q' ∧ Own wr w1.heap.size w3.heap.size 3 (.slice a1 P.length c1) (ints P) ∧ Own wr w3.heap.size wr.heap.size 3 v (ints M) ∧ Below w.heap.size w wr ∧ w3.heap.size ≤ wr.heap.size ∧ Hid (SmS M P i)) (fun _ ii _ => P.length - (intOf ii).toNat)
      case atStart => exact ⟨0, _, [], rfl, Nat.zero_le _, by omega, HR0.out, HP0.out, HE.out, HB0.out, by simp, Lib.hid ⟨fun y hy => (by cases hy), by simp [sumL], Nat.le_refl _⟩⟩
      case round =>
        obtain ⟨i, q', M, rfl, hi', hq', hr, hp, hs, hB, hzr, HM⟩ := hrel
        have HRwr := Lib.hid hr
        have HPwr := Lib.hid hp
        have HBwr := Lib.hid hB
        obtain ⟨a0, c0, rfl⟩ := hs.form
        have hlM : (ints M).length = M.length := by simp
        rw [hlM] at hs ⊢
        have HSwr := Lib.hid hs
        clear hr hp hs hB hlM
        by_cases hlt : i < P.length
        · have hlt' : (i : Int) < (P.length : Int) := by omega
          have hxv := (vsm_iff.1 HV.out).1 _ (List.getElem_mem hlt)
          have HTK : Hid (sumL (P.take (i + 1)) = sumL (P.take i) + P[i]) := Lib.hid (sumL_take_succ P i hlt)
          obtain ⟨gP, cP, hvv, hloP, hhiP, -, -⟩ := HPwr.out.at_ (k := i) (by simpa using hlt)
          injection hvv with hvv hvn hvc
          subst hvv
          clear hvn hvc
          have hcell0 : ∀ (wx : World), Own wx w1.heap.size w3.heap.size 3 (.slice (some ⟨gP, 0, none⟩) P.length c1) (ints P) → wx.cell? ⟨gP, i, none⟩ = some (.int .i64 P[i]) := fun wx ho => by
            obtain ⟨g', c', e1, _, _, hc, _⟩ := ho.at_ (k := i) (by simpa using hlt)
            injection e1 with e1
            injection e1 with e1
            injection e1 with e1
            subst e1
            rw [hc]; simp [ints]
          have hxs := (HSP.out (i + 1)).2
          have hxs0 := (HSP.out i).1
          have hxt := HTK.out
          obtain ⟨x, hxe⟩ : ∃ x, P[i] = x := ⟨_, rfl⟩
          rw [hxe] at hcell0 HTK hxv hxt
          have hx1 : 1 ≤ x ∧ x ≤ 16 := by omega
          have HC := Lib.hid hcell0
          have hML := HM.out.2.2
          have hcell := hcell0
          clear hxs hxs0 hxt hxe hcell0
          by_cases hm : M.length = 0
          · have d0 : decide ((0 : Int) < (M.length : Int)) = false := decide_eq_false (by omega)
            have d1 : decide (0 < M.length) = false := decide_eq_false (by omega)
            have hcx := hcell _ HPwr.out
            have HSO := Lib.hid HSwr.out
            have hzW : w3.heap.size ≤ wr.heap.size := by omega
            go_wp2_with (at_builtin; refine wpList_append_o _ rfl (.tmp 50) (.tmp 55) 22 rfl w3.heap.size wr.heap.size 3 i0 (.int .i64 0) 8 Try.underlying22 hi hk0 hk1 hk2 rfl _ (ints M) rfl (HSwr.out.alloc _) (wr.heap.size + 1) (some ⟨wr.heap.size, 0, none⟩) 1 1 [.int .i64 x] rfl (Rd.one wr _ _) rfl (by simp; rfl) (by simp; unfold maxLen; omega) (by simp; omega) (by simp; omega) ?_; intro v' wA ho6 hg6 hat6)
            have hbA : Below w3.heap.size wr wA := ((Below.refl _ _).alloc hzW _).grown hg6 (by simp; omega) (fun k hk => HSwr.out.base k hk)
            have hszA := hbA.size
            go_roundw
            case rel => exact ⟨i + 1, _, M ++ [x], by go_num, by omega, by omega, HRwr.out.below (hbA.mono (by omega)), HPwr.out.below hbA, by simpa [ints] using ho6, HBwr.out.trans (hbA.mono (by omega)), by omega, Lib.hid (HM.out.app HTK.out hx1.1)⟩
            case measure => simp [intOf] <;> omega
          · have d0 : decide ((0 : Int) < (M.length : Int)) = true := decide_eq_true (by omega)
            have d1 : decide (0 < M.length) = true := decide_eq_true (by omega)
            go_wp2_with fail
            refine (pick_any w.heap.size _ 2 rs _ (by omega) (by omega) HRwr.out).mono ?_
            rintro e w5 ⟨y, rfl, hy0, -, h5, hg5, -⟩
            have HRw5 := Lib.hid h5
            have HPw5 := Lib.hid (HPwr.out.chg hg5 hlt1)
            have HSw5 := Lib.hid (HSwr.out.chg hg5 (by omega)).more
            have hbzw5 := hg5.size
            have HBw5 : Hid (Below w.heap.size w w5) := Lib.hid (HBwr.out.grown hg5 (by omega) (fun k hk => by injection hk with hk; omega))
            clear hg5 h5
            by_cases hyz : y = 0
            · have dy : (y == 0) = true := by simp [hyz]
              clear hyz
              obtain ⟨k, hk⟩ : ∃ k, M.length - 1 = k := ⟨_, rfl⟩
              have hkl : k < M.length := by omega
              have hcx := hcell _ HPw5.out
              obtain ⟨gS, cS, hvS, hloS, hhiS, hcS, hfS⟩ := HSw5.out.at_ (k := k) (by simpa using hkl)
              injection hvS with hvS hvn hvc
              subst hvS
              clear hvn hvc
              have hle := le_sumL HM.out.1
              have hyb := hle.2 _ (List.getElem_mem hkl)
              have hyb2 := HM.out.1 _ (List.getElem_mem hkl)
              have hsum := HM.out.2.1
              have hsP := HSP.out i
              obtain ⟨y, hy⟩ : ∃ y, M[k] = y := ⟨_, rfl⟩
              have hcy : w5.cell? ⟨gS, k, none⟩ = some (.int .i64 y) := by rw [hcS]; simp [ints, hy]
              rw [hy] at hyb hyb2
              have hws : IntKind.i64.wrap (y + x) = y + x := IntWalk.i64_in _ (by omega)
              have HPUT : Hid (SmS (M.set k (y + x)) P (i + 1)) := Lib.hid (by rw [← hy]; exact HM.out.put HTK.out hx1.1 hkl)
              have hzW : w3.heap.size ≤ w5.heap.size := by omega
              have hkl' : (k : Int) < (M.length : Int) := by omega
              have hwk : IntKind.i64.wrap ((M.length : Int) - 1) = (k : Int) := (IntWalk.i64_in _ (by omega)).trans (by omega)
              clear hcS hle hy hsum hsP
              go_wp2_with fail
              refine wp_region_store [0, 1, 2, 3, 4, 5, 6, 7, 8, 9, 10, 11, 12, 13, 14, 15] [.slice (some ⟨gS, 0, none⟩) M.length c0, .slice (some ⟨gS, 0, none⟩) M.length c0, .int .i64 (M.length : Int), .int .i64 (k : Int), .slice (some ⟨gS, 0, none⟩) M.length c0, .slice (some ⟨gS, 0, none⟩) M.length c0, .int .i64 (M.length : Int), .int .i64 (k : Int), .pointer (some ⟨gS, k, none⟩), .int .i64 y, .slice (some ⟨gP, 0, none⟩) P.length c1, .int .i64 (i : Int), .pointer (some ⟨gP, i, none⟩), .int .i64 x, .int .i64 (y + x), .pointer (some ⟨gS, k, none⟩)] (fun w' => Dr w5 w') _ hmx (fun _ h => h) rfl (by kernel_rfl) (by kernel_rfl) rfl rfl (by kernel_rfl) (by kernel_rfl) _ rfl rfl rfl 3 _ _ rfl ⟨gS, k, none⟩ (.int .i64 (y + x)) ?hx ?hy ?run ?steps ?rest
              case hx => simp only [putsOfG, Act.put, List.getElem?_toArray, List.getElem?_cons_succ, List.getElem?_cons_zero, Option.bind_some, Nat.reduceAdd, List.setIfInBounds_toArray, List.set_cons_zero, List.set_cons_succ]; rfl
              case hy => simp only [putsOfG, Act.put, List.getElem?_toArray, List.getElem?_cons_succ, List.getElem?_cons_zero, Option.bind_some, Nat.reduceAdd, List.setIfInBounds_toArray, List.set_cons_zero, List.set_cons_succ]; rfl
              case run =>
                intro wp hS
                have s1 := cell_dr hS hcy
                have s3 := froz_dr hS hfS
                go_simp
              case steps =>
                simp only [putsOfG, Act.put, List.getElem?_toArray, List.getElem?_cons_succ, List.getElem?_cons_zero, Option.bind_some, Nat.reduceAdd, List.setIfInBounds_toArray, List.set_cons_zero, List.set_cons_succ]
                refine StepsG.cons rfl rfl (fun wq hS => ?_) ?_
                · go_simp
                refine StepsG.cons rfl rfl (fun wq hS => ?_) ?_
                · go_simp
                refine StepsG.cons rfl rfl (fun wq hS => ?_) ?_
                · go_simp
                refine StepsG.cons rfl rfl (fun wq hS => ?_) ?_
                · go_simp
                refine StepsG.cons rfl rfl (fun wq hS => ?_) ?_
                · go_simp
                refine StepsG.cons rfl rfl (fun wq hS => ?_) ?_
                · go_simp
                refine StepsG.cons rfl rfl (fun wq hS => ?_) ?_
                · go_simp
                refine StepsG.cons rfl rfl (fun wq hS => ?_) ?_
                · go_simp
                refine StepsG.cons rfl rfl (fun wq hS => ?_) ?_
                · go_simp
                refine StepsG.cons rfl rfl (fun wq hS => ?_) ?_
                · have s1 := cell_dr hS hcy
                  go_simp
                refine StepsG.cons rfl rfl (fun wq hS => ?_) ?_
                · go_simp
                refine StepsG.cons rfl rfl (fun wq hS => ?_) ?_
                · go_simp
                refine StepsG.cons rfl rfl (fun wq hS => ?_) ?_
                · go_simp
                refine StepsG.cons rfl rfl (fun wq hS => ?_) ?_
                · have s1 := cell_dr hS hcx
                  go_simp
                refine StepsG.cons rfl rfl (fun wq hS => ?_) ?_
                · go_simp
                refine StepsG.cons rfl rfl (fun wq hS => ?_) ?_
                · go_simp
                exact StepsG.nil
              case rest =>
                intro wp hS
                simp only [putsOfG, Act.put, List.getElem?_toArray, List.getElem?_cons_succ, List.getElem?_cons_zero, Option.bind_some, Nat.reduceAdd, List.setIfInBounds_toArray, List.set_cons_zero, List.set_cons_succ]
                have ho2 := ((HSw5.out.dr hS).set k (.int .i64 (y + x))).more
                have hln : M.length = (M.set k (y + x)).length := by rw [List.length_set]
                have HO2' : Hid (Own (wp.setCell ⟨gS, k, none⟩ (.int .i64 (y + x))) w3.heap.size (wp.setCell ⟨gS, k, none⟩ (.int .i64 (y + x))).heap.size 3 (.slice (some ⟨gS, 0, none⟩) M.length c0) (ints (M.set k (y + x)))) := Lib.hid (by
                  rw [show ints (M.set k (y + x)) = (ints M).set k (.int .i64 (y + x)) by simp [ints, List.map_set]]; exact ho2)
                have hbs : Below w3.heap.size w5 (wp.setCell ⟨gS, k, none⟩ (.int .i64 (y + x))) := (hS.below _).setCell (by exact hloS) _
                obtain ⟨w7, hw7⟩ : ∃ w7, wp.setCell ⟨gS, k, none⟩ (.int .i64 (y + x)) = w7 := ⟨_, rfl⟩
                rw [hw7] at HO2' hbs ⊢
                have hsz7 := hbs.size
                clear ho2 hw7 hcx hcy hfS hS
                go_wp2_with fail
                go_roundw
                case rel => exact ⟨i + 1, _, M.set k (y + x), by go_num, by omega, by omega, HRw5.out.below (hbs.mono (by omega)), HPw5.out.below hbs, HO2'.out, HBw5.out.trans (hbs.mono (by omega)), by omega, HPUT⟩
                case measure => simp [intOf] <;> omega
            · have dy : (y == 0) = false := by simp [hyz]
              clear hyz
              have hcx := hcell _ HPw5.out
              have HSO := Lib.hid HSw5.out
              have hzW : w3.heap.size ≤ w5.heap.size := by omega
              go_wp2_with (at_builtin; refine wpList_append_o _ rfl (.tmp 50) (.tmp 55) 22 rfl w3.heap.size w5.heap.size 3 i0 (.int .i64 0) 8 Try.underlying22 hi hk0 hk1 hk2 rfl _ (ints M) rfl (HSw5.out.alloc _) (w5.heap.size + 1) (some ⟨w5.heap.size, 0, none⟩) 1 1 [.int .i64 x] rfl (Rd.one w5 _ _) rfl (by simp; rfl) (by simp; unfold maxLen; omega) (by simp; omega) (by simp; omega) ?_; intro v' wA ho6 hg6 hat6)
              have hbA : Below w3.heap.size w5 wA := ((Below.refl _ _).alloc hzW _).grown hg6 (by simp; omega) (fun k hk => HSw5.out.base k hk)
              have hszA := hbA.size
              go_roundw
              case rel => exact ⟨i + 1, _, M ++ [x], by go_num, by omega, by omega, HRw5.out.below (hbA.mono (by omega)), HPw5.out.below hbA, by simpa [ints] using ho6, HBw5.out.trans (hbA.mono (by omega)), by omega, Lib.hid (HM.out.app HTK.out hx1.1)⟩
              case measure => simp [intOf] <;> omega
        · obtain rfl : i = P.length := by omega
          clear hlt
          have HSM : Hid (Small M) := Lib.hid (by
            have h1 := HM.out.2.1
            have h2 := (HSP.out P.length).2
            have h3 := le_sumL HM.out.1
            refine ⟨by have := HM.out.2.2; omega, fun x hx => ?_⟩
            have := HM.out.1 x hx
            have := h3.2 x hx
            omega)
          go_wp2_with fail
          go_ret2
          exact ⟨a1, c1, P, a0, c0, M, rfl, (HPwr.out.more).lower (by omega), HSwr.out.lower (by omega), HS1.out, HSM.out, HBwr.out⟩
    · have b0 : decide (0 < z) = false := decide_eq_false hz
      clear hz
      go_wp2_with fail
      refine (sumsOf_any w.heap.size _ rs _ (by omega) h3).mono ?_
      rintro e w4 ⟨a2, c2, Q, rfl, ho2, hs2, -, hg4⟩
      have hsz4 := hg4.size
      have HP4 := Lib.hid (HP3.out.chg hg4 hlt1).more
      have HQ4 := Lib.hid (ho2.lower (lo' := w.heap.size) (by omega))
      have HS2 := Lib.hid hs2
      have hB4 : Below w.heap.size w w4 := hB3.grown hg4 hB3.size (fun k hk => by injection hk with hk; omega)
      clear hg4 ho2 hs2
      go_wp2_with fail
      go_ret2
      exact ⟨a1, c1, P, a2, c2, Q, rfl, HP4.out.lower (by omega), HQ4.out, HS1.out, HS2.out, hB4⟩
end Go.Proofs.Ythafbdpeignccaa
namespace Go.Proofs.Ythafbdpeignccaa
open NP
set_option linter.unusedVariables false
def labS : List (Int × Nat) → Nat → Int
  | [], _ => 0
  | z :: r, g => (if z.2 = g then z.1 else 0) + labS r g
theorem labS_perm {Z Y : List (Int × Nat)} (h : Z.Perm Y) (g : Nat) : labS Z g = labS Y g := by
  induction h with
  | nil => rfl
  | cons x _ ih => simp only [labS, ih]
  | swap x y l => simp only [labS]; omega
  | trans _ _ h1 h2 => exact h1.trans h2
theorem labS_nn {Z : List (Int × Nat)} (h : ∀ z ∈ Z, 1 ≤ z.1) (g : Nat) : 0 ≤ labS Z g := by
  induction Z with
  | nil => exact Int.le_refl 0
  | cons z r ih =>
    have h1 := h z (by simp)
    have h2 := ih (fun y hy => h y (by simp [hy]))
    simp only [labS]
    split <;> omega
theorem perm_lift {xs ys : List Int} (h : xs.Perm ys) : ∀ Z : List (Int × Nat), Z.map Prod.fst = xs → ∃ Y : List (Int × Nat), Y.map Prod.fst = ys ∧ Z.Perm Y := by
  induction h with
  | nil => exact fun Z hZ => ⟨Z, hZ, List.Perm.refl _⟩
  | cons x _ ih =>
    intro Z hZ
    cases Z with
    | nil => simp at hZ
    | cons z r =>
      simp only [List.map_cons, List.cons.injEq] at hZ
      obtain ⟨Y, h1, h2⟩ := ih r hZ.2
      exact ⟨z :: Y, by simp [h1, hZ.1], h2.cons z⟩
  | swap x y l =>
    intro Z hZ
    match Z, hZ with
    | z1 :: z2 :: r, hZ =>
      simp only [List.map_cons, List.cons.injEq] at hZ
      exact ⟨z2 :: z1 :: r, by simp [hZ.1, hZ.2.1, hZ.2.2], List.Perm.swap z2 z1 r⟩
  | trans _ _ h1 h2 =>
    intro Z hZ
    obtain ⟨Y, e1, p1⟩ := h1 Z hZ
    obtain ⟨X, e2, p2⟩ := h2 Y e1
    exact ⟨X, e2, p1.trans p2⟩
theorem path_labels : ∀ (Z : List (Int × Nat)) (R : List Int), (∀ z ∈ Z, 1 ≤ z.1 ∧ z.2 < R.length) → (∀ y ∈ R, 0 ≤ y ∧ y ≤ 16) → (∀ g, g < R.length → R.getD g 0 = labS Z g) → pathT (Z.map Prod.fst) (tlyL R) = true
  | [], _, _, _, _ => rfl
  | z :: r, R, hZ, hR, hs => by
    obtain ⟨x, g⟩ := z
    obtain ⟨hx, hg⟩ := hZ (x, g) (by simp)
    simp only at hx hg
    have hr : ∀ z ∈ r, 1 ≤ z.1 ∧ z.2 < R.length := fun z hz => hZ z (by simp [hz])
    have hgs := hs g hg
    have hn := labS_nn (fun z hz => (hr z hz).1) g
    have hgd : R.getD g 0 = R[g] := by simp [List.getD_eq_getElem?_getD, hg]
    simp only [labS, if_pos] at hgs
    rw [hgd] at hgs
    have hb := hR _ (List.getElem_mem hg)
    have hmv := tly_mv R g hg R[g].toNat x.toNat (by omega) (by omega) (by omega) (by omega)
    rw [show ((x.toNat : Nat) : Int) = x from by omega] at hmv
    have ih := path_labels r (R.set g (R[g] - x)) (fun z hz => by rw [List.length_set]; exact hr z hz) (fun y hy => by
      rcases List.mem_or_eq_of_mem_set hy with h | h
      · exact hR y h
      · omega) (fun k hk => by
      rw [List.length_set] at hk
      have h1 := hs k hk
      simp only [labS] at h1
      rw [List.getD_eq_getElem?_getD, List.getElem?_set]
      by_cases e : g = k
      · subst e
        rw [if_pos rfl, if_pos hg]
        simp only [Option.getD_some]
        omega
      · rw [if_neg e, ← List.getD_eq_getElem?_getD]
        rw [if_neg e] at h1
        omega)
    show pathT (x :: r.map Prod.fst) (tlyL R) = true
    unfold pathT
    rw [List.any_eq_true]
    refine ⟨R[g].toNat, by simp; omega, ?_⟩
    simp only [Bool.and_eq_true, decide_eq_true_eq]
    refine ⟨⟨by omega, ?_⟩, by rw [← hmv]; exact ih⟩
    rw [tly_getD R (by omega)]
    have := eqc_pos (k := ((R[g].toNat : Nat) : Int)) (L := R) (by rw [show ((R[g].toNat : Nat) : Int) = R[g] from by omega]; exact List.getElem_mem hg)
    omega
/-- parts with labels refine the sums of their labels, in whatever order both stand -/
theorem rf_labels {P Q : List Int} (hp : valid P = true) (hq : valid Q = true) {Z : List (Int × Nat)} {R : List Int} (hZP : (Z.map Prod.fst).Perm P) (hRQ : tlyL R = tlyL Q) (hZ : ∀ z ∈ Z, 1 ≤ z.1 ∧ z.2 < R.length) (hR : ∀ y ∈ R, 0 ≤ y ∧ y ≤ 16) (hs : ∀ g, g < R.length → R.getD g 0 = labS Z g) (hsum : sumL P = sumL Q) : rfF P Q = true := by
  obtain ⟨Y, e, hpm⟩ := perm_lift hZP Z rfl
  have h1 := path_labels Y R (fun z hz => hZ z (hpm.mem_iff.2 hz)) hR (fun g hg => by rw [hs g hg, labS_perm hpm])
  rw [e, hRQ] at h1
  unfold rfF
  rw [hp, hq, decide_eq_true hsum, fits_path P Q (fun x hx => (valid_each hp x hx).1) (fun y hy => by have := valid_each hq y hy; omega) hsum.symm, h1]
  rfl
end Go.Proofs.Ythafbdpeignccaa
namespace Go.Proofs.Ythafbdpeignccaa
open NP
set_option linter.unusedVariables false
theorem and_iff (a b : Nat) : a &&& b = b ↔ ∀ i, b.testBit i = true → a.testBit i = true := by
  constructor
  · intro h i hi
    have := congrArg (fun n => n.testBit i) h
    simp only [Nat.testBit_and] at this
    rw [hi] at this
    simpa using this
  · intro h
    apply Nat.eq_of_testBit_eq
    intro i
    rw [Nat.testBit_and]
    cases hb : b.testBit i with
    | false => simp
    | true => rw [h i hb]; rfl
theorem comp_bit {m a : Nat} (ha : a < 2 ^ m) (i : Nat) : (2 ^ m - 1 - a).testBit i = (decide (i < m) && !a.testBit i) := by
  rw [show 2 ^ m - 1 - a = 2 ^ m - (a + 1) by omega, Nat.testBit_two_pow_sub_succ ha]
theorem comp_sub {m a b : Nat} (ha : a < 2 ^ m) (hb : b < 2 ^ m) : ((2 ^ m - 1 - b) &&& (2 ^ m - 1 - a) = 2 ^ m - 1 - a) ↔ (a &&& b = b) := by
  rw [and_iff, and_iff]
  constructor
  · intro h i hi
    cases hai : a.testBit i with
    | true => rfl
    | false =>
      have him : i < m := by
        rcases Nat.lt_or_ge i m with h2 | h2
        · exact h2
        · rw [Nat.testBit_lt_two_pow (Nat.lt_of_lt_of_le hb (Nat.pow_le_pow_right (by omega) h2))] at hi; cases hi
      have := h i (by rw [comp_bit ha, hai, decide_eq_true him]; rfl)
      rw [comp_bit hb, hi] at this
      simp at this
  · intro h i hi
    rw [comp_bit ha] at hi
    simp only [Bool.and_eq_true, decide_eq_true_eq, Bool.not_eq_true'] at hi
    rw [comp_bit hb, decide_eq_true hi.1]
    cases hbi : b.testBit i with
    | false => rfl
    | true => rw [h i hbi] at hi; cases hi.2
theorem le_sumLN : ∀ {M : List Int}, (∀ y ∈ M, 1 ≤ y) → 0 ≤ sumL M
  | [], _ => Int.le_refl 0
  | x :: r, h => by
    have ih := le_sumLN (M := r) (fun y hy => h y (by simp [hy]))
    have hx := h x (by simp)
    simp only [sumL]; omega
theorem mkN_opp (L : List Int) : mkN (opp L) = opN L := by unfold opp; exact mkN_smk (opN_lt L)
theorem finF_opp {c d : List Int} (hc : vsm c = true) (hd : vsm d = true) : finF (opp d) (opp c) = finF c d := by
  have h1 := (vsm_iff.1 hc).1
  have h2 := (vsm_iff.1 hd).1
  have n1 : 0 ≤ sumL c := (le_sumLN h1)
  have n2 : 0 ≤ sumL d := (le_sumLN h2)
  rw [finF_yes (opp_ok hd) (opp_ok hc), finF_yes hc hd]
  have e1 : sgN (opp c) = sgN c := by unfold sgN; rw [opp_sum c n1]
  have e2 : sgN (opp d) = sgN d := by unfold sgN; rw [opp_sum d n2]
  rw [e1, e2, mkN_opp, mkN_opp]
  by_cases hs : sgN c = sgN d
  · have b1 := mkN_lt h1
    have b2 := mkN_lt h2
    rw [← hs] at b2
    have := comp_sub b1 b2
    unfold opN
    rw [← hs]
    simp only [decide_true, Bool.true_and]
    exact decide_eq_decide.2 this
  · rw [decide_eq_false hs, decide_eq_false (fun e => hs e.symm)]; rfl
end Go.Proofs.Ythafbdpeignccaa
namespace Go.Proofs.Ythafbdpeignccaa
open NP
set_option linter.unusedVariables false
theorem bval_bit (b : List Bool) (i : Nat) : (bval b).testBit i = b.getD i false := by
  induction b generalizing i with
  | nil => simp [bval]
  | cons x r ih =>
    cases i with
    | zero => cases x <;> simp [bval, Nat.testBit_zero, Nat.add_mod]
    | succ i =>
      rw [Nat.testBit_succ, show bval (x :: r) / 2 = bval r by simp only [bval]; split <;> omega, ih]
      simp
def subB : List Bool → List Bool → Prop
  | [], [] => True
  | x :: r, y :: t => (y = true → x = true) ∧ subB r t
  | _, _ => False
theorem subB_of : ∀ (b e : List Bool), b.length = e.length → (∀ i, e.getD i false = true → b.getD i false = true) → subB b e
  | [], [], _, _ => trivial
  | x :: r, y :: t, hl, h => ⟨fun hy => by have := h 0; simpa [hy] using this, subB_of r t (by simpa using hl) (fun i hi => by have := h (i + 1); simpa using this (by simpa using hi))⟩
  | [], _ :: _, hl, _ => by simp at hl
  | _ :: _, [], hl, _ => by simp at hl
theorem labS_succ (Z : List (Int × Nat)) (g : Nat) : labS (Z.map fun z => (z.1, z.2 + 1)) (g + 1) = labS Z g := by
  induction Z with
  | nil => rfl
  | cons z r ih => simp only [List.map_cons, labS, ih, Nat.add_right_cancel_iff]
theorem labS_zero (Z : List (Int × Nat)) : labS (Z.map fun z => (z.1, z.2 + 1)) 0 = 0 := by
  induction Z with
  | nil => rfl
  | cons z r ih => simp [labS, ih]
theorem bits_labels : ∀ (b e : List Bool), subB b e → ∃ x r d t, ofB b = x :: r.map Prod.fst ∧ ofB e = d :: t ∧ (∀ z ∈ r, z.2 < (d :: t).length) ∧ (∀ g, g < (d :: t).length → (d :: t).getD g 0 = labS ((x, 0) :: r) g)
  | [], [], _ => ⟨1, [], 1, [], rfl, rfl, by simp, fun g hg => by
      have : g = 0 := by simpa using hg
      subst this; simp [labS]⟩
  | x :: b, y :: e, h => by
    obtain ⟨x1, r, d, t, e1, e2, e3, e4⟩ := bits_labels b e h.2
    cases y with
    | true =>
      rw [h.1 rfl]
      refine ⟨1, ((x1, 0) :: r).map (fun z => (z.1, z.2 + 1)), 1, d :: t, by simp [ofB, e1, Function.comp_def], by simp [ofB, e2], fun z hz => ?_, fun g hg => ?_⟩
      · obtain ⟨z', hz', rfl⟩ := List.mem_map.1 hz
        rcases List.mem_cons.1 hz' with h1 | h1
        · subst h1; simp
        · have := e3 z' h1; simp only [List.length_cons] at this ⊢; omega
      · cases g with
        | zero =>
          have := labS_zero ((x1, 0) :: r)
          simp only [labS, if_pos, List.getD_cons_zero]
          omega
        | succ g =>
          have h1 := e4 g (by simpa using hg)
          have h2 := labS_succ ((x1, 0) :: r) g
          rw [List.getD_cons_succ, h1, ← h2]
          simp [labS]
    | false =>
      cases x with
      | true =>
        refine ⟨1, (x1, 0) :: r, d + 1, t, by simp [ofB, e1], by simp [ofB, e2, bump], fun z hz => ?_, fun g hg => ?_⟩
        · rcases List.mem_cons.1 hz with h1 | h1
          · subst h1; simp
          · exact e3 z h1
        · have h1 := e4 g (by simpa using hg)
          cases g with
          | zero => simp only [List.getD_cons_zero, labS, if_pos] at h1 ⊢; omega
          | succ g => simp only [List.getD_cons_succ] at h1 ⊢; rw [h1]; simp [labS]
      | false =>
        refine ⟨x1 + 1, r, d + 1, t, by simp [ofB, e1, bump], by simp [ofB, e2, bump], e3, fun g hg => ?_⟩
        have h1 := e4 g (by simpa using hg)
        cases g with
        | zero => simp only [List.getD_cons_zero, labS, if_pos] at h1 ⊢; omega
        | succ g => simp only [List.getD_cons_succ] at h1 ⊢; rw [h1]; simp [labS]
  | [], _ :: _, h => h.elim
  | _ :: _, [], h => h.elim
end Go.Proofs.Ythafbdpeignccaa
namespace Go.Proofs.Ythafbdpeignccaa
namespace NP
set_option linter.unusedVariables false
/-- how many of the first n rows have a cell on a diagonal -/
def dc (L : List Int) (d : Int) : Nat → Int
  | 0 => 0
  | n + 1 => dc L d n + (if 0 ≤ d + n ∧ d + n < L.getD n 0 then 1 else 0)
theorem dc_bd (L : List Int) (d : Int) (n : Nat) : 0 ≤ dc L d n ∧ dc L d n ≤ n := by
  induction n with
  | zero => simp [dc]
  | succ n ih => simp only [dc]; split <;> omega
theorem dc_succ (L : List Int) (d : Int) (n : Nat) : dc L d (n + 1) = dc L d n + (if 0 ≤ d + n ∧ d + n < L.getD n 0 then 1 else 0) := rfl
theorem dc_congr {L M : List Int} (d : Int) (n : Nat) (h : ∀ i, i < n → L.getD i 0 = M.getD i 0) : dc L d n = dc M d n := by
  induction n with
  | zero => rfl
  | succ n ih => rw [dc_succ, dc_succ, ih (fun i hi => h i (by omega)), h n (by omega)]
theorem dc_more {L : List Int} (d : Int) (n m : Nat) (hm : n ≤ m) (h : ∀ i, n ≤ i → L.getD i 0 = 0) : dc L d m = dc L d n := by
  induction m with
  | zero => obtain rfl : n = 0 := by omega
            rfl
  | succ m ih =>
    rcases Nat.lt_or_ge m n with h1 | h1
    · obtain rfl : n = m + 1 := by omega
      rfl
    · rw [dc_succ, ih h1, h m h1, if_neg (by omega)]
      omega
/-- the diagonals of rows, n of them, R rows -/
def dia (L : List Int) : List Int := (List.range (L.length - 1 + (L.headD 0).toNat)).map fun (t : Nat) => dc L ((t : Int) + 1 - L.length) L.length
def diaF (L : List Int) : List Int := if valid L then dia L else []
theorem diaF_yes {L : List Int} (h : valid L = true) : diaF L = dia L := by simp [diaF, h]
theorem diaF_no {L : List Int} (h : valid L = false) : diaF L = [] := by simp [diaF, h]
theorem diaF_len (L : List Int) : (diaF L).length ≤ 32 := by
  unfold diaF
  split
  · rename_i h
    have := headD_bd h
    have := valid_bd h
    simp only [dia, List.length_map, List.length_range]
    omega
  · simp
/-- what has been counted when i rows are done, and k cells of the next -/
def dac (L : List Int) (T i k : Nat) : List Int := (List.range T).map fun (t : Nat) => dc (pad L) ((t : Int) + 1 - L.length) i + (if 0 ≤ (t : Int) + 1 - L.length + i ∧ (t : Int) + 1 - L.length + i < k then 1 else 0)
theorem dac_len (L : List Int) (T i k : Nat) : (dac L T i k).length = T := by simp [dac]
theorem dac_zero (L : List Int) (T : Nat) : dac L T 0 0 = List.replicate T 0 := by
  apply List.ext_getElem
  · simp [dac]
  · intro j h1 h2
    simp only [dac, List.getElem_map, List.getElem_range, dc, List.getElem_replicate]
    rw [if_neg (by omega)]
    rfl
theorem dac_get (L : List Int) (T i k m : Nat) (hm : m < (dac L T i k).length) (he : m + i + 1 = L.length + k) : (dac L T i k)[m] = dc (pad L) ((m : Int) + 1 - L.length) i := by
  simp only [dac, List.getElem_map, List.getElem_range]
  rw [if_neg (by omega), Int.add_zero]
theorem dac_set (L : List Int) (T i k m : Nat) (hm : m < T) (he : m + i + 1 = L.length + k) : (dac L T i k).set m (dc (pad L) ((m : Int) + 1 - L.length) i + 1) = dac L T i (k + 1) := by
  apply List.ext_getElem
  · simp [dac]
  · intro j h1 h2
    by_cases hj : m = j
    · subst hj
      rw [List.getElem_set_self]
      simp only [dac, List.getElem_map, List.getElem_range]
      rw [if_pos (by omega)]
    · rw [List.getElem_set_ne hj]
      simp only [dac, List.getElem_map, List.getElem_range]
      congr 1
      split <;> split <;> omega
theorem dac_next (L : List Int) (T i k : Nat) (hk : (k : Int) = (pad L).getD i 0) : dac L T i k = dac L T (i + 1) 0 := by
  apply List.ext_getElem
  · simp [dac]
  · intro j h1 h2
    simp only [dac, List.getElem_map, List.getElem_range, dc_succ]
    rw [← hk]
    have : ¬ (0 ≤ (j : Int) + 1 - L.length + ((i + 1 : Nat) : Int) ∧ (j : Int) + 1 - L.length + ((i + 1 : Nat) : Int) < ((0 : Nat) : Int)) := by omega
    rw [if_neg this]
    split <;> omega
theorem dac_end {L : List Int} (hl : L.length ≤ 16) : dac L (L.length - 1 + (L.headD 0).toNat) 16 0 = dia L := by
  apply List.ext_getElem
  · simp [dac, dia]
  · intro j h1 h2
    simp only [dac, dia, List.getElem_map, List.getElem_range]
    rw [if_neg (by omega), dc_more _ L.length 16 hl (fun i hi => by rw [pad_getD hl, getD_out hi])]
    rw [dc_congr _ _ (fun i _ => pad_getD hl i)]
    omega
end NP
end Go.Proofs.Ythafbdpeignccaa
namespace Go.Proofs.Ythafbdpeignccaa
namespace NP
set_option linter.unusedVariables false
/-- the first row that ends at or ahead of a diagonal -/
def mm (L : List Int) (d : Int) : Nat := ff (fun i => decide (d + (i : Int) < L.getD i 0)) L.length
theorem ff_spec2 (p : Nat → Bool) (n : Nat) : ff p n ≤ n ∧ (∀ j, j < ff p n → p j = true) ∧ (ff p n = n ∨ p (ff p n) = false) := by
  induction n with
  | zero => exact ⟨Nat.le_refl _, fun j hj => by simp [ff, ffrom] at hj, .inl rfl⟩
  | succ n ih =>
    obtain ⟨h1, h2, h3⟩ := ih
    rcases h3 with h3 | h3
    · cases hp : p n with
      | true =>
        have e : ff p (n + 1) = n + 1 := ff_eq (fun j hj => by
          rcases Nat.lt_or_ge j n with h | h
          · exact h2 j (by omega)
          · obtain rfl : j = n := by omega
            exact hp) (Nat.le_refl _) (.inl rfl)
        rw [e]
        exact ⟨Nat.le_refl _, fun j hj => by
          rcases Nat.lt_or_ge j n with h | h
          · exact h2 j (by omega)
          · obtain rfl : j = n := by omega
            exact hp, .inl rfl⟩
      | false =>
        have e : ff p (n + 1) = n := ff_eq (fun j hj => h2 j (by omega)) (by omega) (.inr hp)
        rw [e]
        exact ⟨by omega, fun j hj => h2 j (by omega), .inr hp⟩
    · have e : ff p (n + 1) = ff p n := ff_eq h2 (by omega) (.inr h3)
      rw [e]
      exact ⟨by omega, h2, .inr h3⟩
theorem getD_mono {L : List Int} (hv : valid L = true) {i j : Nat} (h : i ≤ j) : L.getD j 0 ≤ L.getD i 0 := by
  induction j with
  | zero => obtain rfl : i = 0 := by omega
            exact Int.le_refl _
  | succ j ih =>
    rcases Nat.lt_or_ge j i with h1 | h1
    · obtain rfl : i = j + 1 := by omega
      exact Int.le_refl _
    · refine Int.le_trans ?_ (ih h1)
      rcases Nat.lt_or_ge (j + 1) L.length with h2 | h2
      · rw [getD_lt h2, getD_lt (by omega)]
        have := (preS_of_valid hv (j + 1) h2 h2).2.2 (by omega)
        simpa using this
      · rw [getD_ge h2]
        rcases Nat.lt_or_ge j L.length with h3 | h3
        · have := getD_pos hv h3; omega
        · rw [getD_ge h3]; exact Int.le_refl _
theorem mm_lt {L : List Int} (hv : valid L = true) (d : Int) (i : Nat) (h : i < mm L d) : d + (i : Int) < L.getD i 0 := of_decide_eq_true ((ff_spec2 _ _).2.1 i h)
theorem mm_ge {L : List Int} (hv : valid L = true) (d : Int) (i : Nat) (h : mm L d ≤ i) (hi : i < L.length) : L.getD i 0 ≤ d + (i : Int) := by
  have hs := (ff_spec2 (fun i => decide (d + (i : Int) < L.getD i 0)) L.length).2.2
  have hm : mm L d < L.length := by omega
  rcases hs with hs | hs
  · unfold mm at hm h; omega
  · have h1 : ¬ (d + ((mm L d : Nat) : Int) < L.getD (mm L d) 0) := of_decide_eq_false hs
    have h2 := getD_mono hv h
    omega
theorem mm_le (L : List Int) (d : Int) : mm L d ≤ L.length := (ff_spec2 _ _).1
/-- a diagonal's cells -/
theorem dc_mm {L : List Int} (hv : valid L = true) (d : Int) (n : Nat) (hn : n ≤ L.length) : dc L d n = max 0 (min (n : Int) (mm L d) - max 0 (-d)) := by
  induction n with
  | zero => simp only [dc]; omega
  | succ n ih =>
    rw [dc_succ, ih (by omega)]
    rcases Nat.lt_or_ge n (mm L d) with h | h
    · have := mm_lt hv d n h
      split <;> omega
    · have := mm_ge hv d n h (by omega)
      rw [if_neg (by omega)]
      omega
theorem dc_mm' {L : List Int} (hv : valid L = true) (d : Int) : dc L d L.length = max 0 ((mm L d : Int) - max 0 (-d)) := by
  rw [dc_mm hv d _ (Nat.le_refl _)]
  have := mm_le L d
  omega
theorem dia_get (L : List Int) (t : Nat) (h : t < (dia L).length) : (dia L)[t] = dc L ((t : Int) + 1 - L.length) L.length := by simp [dia]
theorem dia_len (L : List Int) : (dia L).length = L.length - 1 + (L.headD 0).toNat := by simp [dia]
theorem dia_pos {L : List Int} (hv : valid L = true) (t : Nat) (h : t < (dia L).length) : 1 ≤ (dia L)[t] := by
  rw [dia_get, dc_mm' hv]
  rw [dia_len] at h
  have hl := mm_le L ((t : Int) + 1 - L.length)
  have h0 : 0 < L.length := by
    rcases Nat.eq_zero_or_pos L.length with h0 | h0
    · obtain rfl := List.eq_nil_of_length_eq_zero h0
      simp at h
    · exact h0
  rcases Int.lt_or_le ((t : Int) + 1 - L.length) 0 with hd | hd
  · obtain ⟨i, hi⟩ : ∃ i : Nat, (i : Int) = -((t : Int) + 1 - L.length) := ⟨(-((t : Int) + 1 - L.length)).toNat, by omega⟩
    have hiL : i < L.length := by omega
    rcases Nat.lt_or_ge i (mm L ((t : Int) + 1 - L.length)) with h1 | h1
    · omega
    · have := mm_ge hv _ i h1 hiL
      have := getD_pos hv hiL
      omega
  · rcases Nat.eq_zero_or_pos (mm L ((t : Int) + 1 - L.length)) with h1 | h1
    · have := mm_ge hv ((t : Int) + 1 - L.length) 0 (by omega) h0
      have hH : L.getD 0 0 = L.headD 0 := by cases L <;> rfl
      have := headD_bd hv
      omega
    · omega
theorem dur_of_mono {L : List Int} (hv : valid L = true) (m : Nat) (h : m = 0 ∨ ((m - 1 : Nat) : Int) < L.getD (m - 1) 0) : m ≤ durS L := by
  have hs := durS_spec L
  rcases h with h | h
  · omega
  · have hml : m - 1 < L.length := by
      rcases Nat.lt_or_ge (m - 1) L.length with h1 | h1
      · exact h1
      · rw [getD_ge h1] at h; omega
    rcases Nat.lt_or_ge (m - 1) (durS L) with h1 | h1
    · omega
    · have hf := (ff_spec2 (fun k => decide ((k : Int) < L.getD k 0)) L.length).2.2
      have e : durS L = ff (fun (k : Nat) => decide ((k : Int) < L.getD k 0)) L.length := rfl
      rw [← e] at hf
      rcases hf with hf | hf
      · omega
      · have h2 : ¬ (((durS L : Nat) : Int) < L.getD (durS L) 0) := of_decide_eq_false hf
        have h3 := getD_mono hv h1
        omega
theorem dia_dur {L : List Int} (hv : valid L = true) (t : Nat) (h : t < (dia L).length) : (dia L)[t] ≤ (durS L : Int) := by
  rw [dia_get, dc_mm' hv]
  generalize (t : Int) + 1 - L.length = d
  rcases Int.lt_or_le d 0 with hd | hd
  · obtain ⟨j, hj⟩ : ∃ j : Nat, j = ((mm L d : Int) + d).toNat := ⟨_, rfl⟩
    have hju : j ≤ durS L := dur_of_mono hv j (by
      rcases Nat.eq_zero_or_pos j with h0 | h0
      · exact .inl h0
      · right
        have h1 := mm_lt hv d (mm L d - 1) (by omega)
        have h2 := getD_mono hv (i := j - 1) (j := mm L d - 1) (by omega)
        omega)
    omega
  · have hju : mm L d ≤ durS L := dur_of_mono hv (mm L d) (by
      rcases Nat.eq_zero_or_pos (mm L d) with h0 | h0
      · exact .inl h0
      · right
        have h1 := mm_lt hv d (mm L d - 1) (by omega)
        omega)
    omega
/-- how many numbers below n stand in a window -/
def win (c x : Int) : Nat → Int
  | 0 => 0
  | n + 1 => win c x n + (if 0 ≤ (n : Int) + c ∧ (n : Int) + c < x then 1 else 0)
theorem win_eq (c x : Int) (hc : c ≤ 0) (hx : 0 ≤ x) (n : Nat) : win c x n = max 0 (min ((n : Int) + c) x) := by
  induction n with
  | zero => simp only [win]; omega
  | succ n ih => simp only [win, ih]; split <;> omega
def dsumTo (L : List Int) (n : Nat) : Nat → Int
  | 0 => 0
  | t + 1 => dsumTo L n t + dc L ((t : Int) + 1 - L.length) n
theorem dsumTo_zero (L : List Int) (t : Nat) : dsumTo L 0 t = 0 := by
  induction t with
  | zero => rfl
  | succ t ih => simp [dsumTo, ih, dc]
theorem dsumTo_succ (L : List Int) (n t : Nat) : dsumTo L (n + 1) t = dsumTo L n t + win ((1 : Int) - L.length + n) (L.getD n 0) t := by
  induction t with
  | zero => simp [dsumTo, win]
  | succ t ih =>
    simp only [dsumTo, ih, dc_succ, win]
    have e : (t : Int) + 1 - L.length + n = (t : Int) + (1 - L.length + n) := by omega
    rw [e]
    omega
theorem dsumTo_sum {L : List Int} (hv : valid L = true) (n : Nat) (hn : n ≤ L.length) : dsumTo L n (L.length - 1 + (L.headD 0).toNat) = sumL (L.take n) := by
  induction n with
  | zero => rw [dsumTo_zero]; rfl
  | succ n ih =>
    rw [dsumTo_succ, ih (by omega), sumL_take_succ L n (by omega), getD_lt (by omega)]
    have h1 := preS_of_valid hv n (by omega) (by omega)
    have h2 := head_ge hv L[n] (List.getElem_mem _)
    have h3 := headD_bd hv
    rw [win_eq _ _ (by omega) (by omega)]
    omega
theorem sum_map_range (f : Nat → Int) (n : Nat) : sumL ((List.range (n + 1)).map f) = sumL ((List.range n).map f) + f n := by
  rw [List.range_succ, List.map_append, sumL_append]; simp [sumL]
theorem dsumTo_map (L : List Int) (n t : Nat) : sumL ((List.range t).map fun (t : Nat) => dc L ((t : Int) + 1 - L.length) n) = dsumTo L n t := by
  induction t with
  | zero => rfl
  | succ t ih => rw [sum_map_range, ih]; rfl
theorem dia_sum {L : List Int} (hv : valid L = true) : sumL (dia L) = sumL L := by
  unfold dia
  rw [dsumTo_map, dsumTo_sum hv _ (Nat.le_refl _), List.take_of_length_le (Nat.le_refl _)]
/-- a cell lies in a diagram if its mirror lies in the conjugate -/
theorem cell_conj {L : List Int} (hv : valid L = true) (i k : Nat) (hi : i < L.length) : ((k : Int) < L.getD i 0) ↔ (i : Int) < (conj L).getD k 0 := by
  rw [getD_lt hi]
  rcases Nat.lt_or_ge k (conj L).length with hk | hk
  · rw [getD_lt hk, conj_get]
    have := cnt_ge_iff hv hi ((k : Int) + 1)
    omega
  · rw [getD_ge hk]
    rw [conj_len] at hk
    have h2 := head_ge hv L[i] (List.getElem_mem _)
    have := headD_bd hv
    omega
/-- the first row that ends ahead of a diagonal, of the conjugate -/
theorem mm_conj {L : List Int} (hv : valid L = true) (h0 : 0 < L.length) (d : Nat) (hd : d + mm L d ≤ (L.headD 0).toNat) : mm (conj L) (-(d : Int)) = d + mm L d := by
  have hm := mm_le L d
  show ff (fun i => decide (-(d : Int) + (i : Int) < (conj L).getD i 0)) (conj L).length = d + mm L d
  refine ff_eq (fun j hj => decide_eq_true ?_) (by rw [conj_len]; exact hd) ?_
  · rcases Nat.lt_or_ge j d with h1 | h1
    · have h2 : 1 ≤ (conj L).getD j 0 := getD_pos (valid_conj hv) (by rw [conj_len]; omega)
      omega
    · have h3 := mm_lt hv d (j - d) (by omega)
      have h4 := (cell_conj hv (j - d) j (by omega)).1 (by omega)
      omega
  · rcases Nat.lt_or_ge (d + mm L d) (L.headD 0).toNat with h1 | h1
    · right
      apply decide_eq_false
      intro h2
      rcases Nat.lt_or_ge (mm L d) L.length with h3 | h3
      · have h4 := (cell_conj hv (mm L d) (d + mm L d) h3).2 (by omega)
        have h5 := mm_ge hv d (mm L d) (Nat.le_refl _) h3
        omega
      · have e : (conj L).getD (d + mm L d) 0 = cnt (((d + mm L d : Nat) : Int) + 1) L := by rw [getD_lt (by rw [conj_len]; exact h1), conj_get]
        have h6 := cnt_bd (((d + mm L d : Nat) : Int) + 1) L
        omega
    · left; rw [conj_len]; omega
theorem mm_fits {L : List Int} (hv : valid L = true) (h0 : 0 < L.length) (d : Nat) (hd : d < (L.headD 0).toNat) : d + mm L d ≤ (L.headD 0).toNat := by
  rcases Nat.eq_zero_or_pos (mm L d) with h1 | h1
  · omega
  · have h2 := mm_lt hv d (mm L d - 1) (by omega)
    have h3 := getD_mono hv (i := 0) (j := mm L d - 1) (by omega)
    have hH : L.getD 0 0 = L.headD 0 := by cases L <;> rfl
    omega
/-- a diagonal right of the first is one below the first, of the conjugate -/
theorem dc_conj {L : List Int} (hv : valid L = true) (h0 : 0 < L.length) (d : Nat) (hd : d < (L.headD 0).toNat) : dc (conj L) (-(d : Int)) (conj L).length = dc L d L.length := by
  rw [dc_mm' (valid_conj hv), dc_mm' hv, mm_conj hv h0 d (mm_fits hv h0 d hd)]
  omega
theorem dc_conj' {L : List Int} (hv : valid L = true) (h0 : 0 < L.length) (d : Int) (h1 : -(L.length : Int) < d) (h2 : d < L.headD 0) : dc (conj L) (-d) (conj L).length = dc L d L.length := by
  have hh := headD_bd hv
  rcases Int.lt_or_le d 0 with h | h
  · obtain ⟨e, he⟩ := Int.eq_ofNat_of_zero_le (by omega : 0 ≤ -d)
    have hd : d = -(e : Int) := by omega
    have hc0 : 0 < (conj L).length := by have := conj_nil_iff hv; omega
    have := dc_conj (valid_conj hv) hc0 e (by
      have : (conj L).headD 0 = cnt 1 L := by
        rw [headD_get (conj L) hc0, conj_get]; simp
      rw [this, cnt_one hv]
      omega)
    rw [conj_conj hv] at this
    rw [he, hd]
    exact this.symm
  · obtain ⟨e, rfl⟩ := Int.eq_ofNat_of_zero_le h
    exact dc_conj hv h0 e (by omega)
theorem dia_conj {L : List Int} (hv : valid L = true) : dia (conj L) = (dia L).reverse := by
  rcases Nat.eq_zero_or_pos L.length with h0 | h0
  · obtain rfl := List.eq_nil_of_length_eq_zero h0
    rfl
  · have hh := headD_bd hv
    have hhead : (conj L).headD 0 = L.length := by
      have hc0 : 0 < (conj L).length := by
        have := conj_nil_iff hv
        omega
      rw [headD_get (conj L) hc0, conj_get]
      have := cnt_one hv
      simpa using this
    have hlen : (dia (conj L)).length = (dia L).length := by
      have hc1 : 0 < (conj L).length := by have := conj_nil_iff hv; omega
      rw [conj_len] at hc1
      rw [dia_len, dia_len, conj_len, hhead]
      omega
    apply List.ext_getElem
    · rw [List.length_reverse, hlen]
    · intro t h1 h2
      rw [List.getElem_reverse, dia_get, dia_get]
      rw [hlen] at h1
      have h3 := h1
      rw [dia_len] at h3
      rw [← dc_conj' hv h0 (((((dia L).length - 1 - t : Nat) : Int) + 1 - L.length)) (by rw [dia_len]; omega) (by rw [dia_len]; omega)]
      congr 1
      rw [dia_len, conj_len]
      omega
end NP
end Go.Proofs.Ythafbdpeignccaa
namespace Go.Proofs.Ythafbdpeignccaa
open NP
set_option linter.unusedVariables false
/-- what stands over c -/
def ov (c x : Int) : Int := if x ≤ c then 0 else x - c
def ovr (c : Int) : List Int → Int
  | [] => 0
  | x :: r => ov c x + ovr c r
theorem ov_nn (c x : Int) : 0 ≤ ov c x := by unfold ov; split <;> omega
theorem ovr_nn (c : Int) : ∀ L, 0 ≤ ovr c L
  | [] => Int.le_refl 0
  | x :: r => by have := ov_nn c x; have := ovr_nn c r; simp only [ovr]; omega
theorem ovr_append (c : Int) (A B : List Int) : ovr c (A ++ B) = ovr c A + ovr c B := by
  induction A with
  | nil => simp [ovr]
  | cons x r ih => simp only [List.cons_append, ovr, ih]; omega
theorem ovr_set (c : Int) (L : List Int) (i : Nat) (hi : i < L.length) (y : Int) : ovr c (L.set i y) + ov c L[i] = ovr c L + ov c y := by
  induction L generalizing i with
  | nil => simp at hi
  | cons x r ih =>
    cases i with
    | zero => simp only [List.set_cons_zero, ovr, List.getElem_cons_zero]; omega
    | succ i => simp only [List.set_cons_succ, ovr, List.getElem_cons_succ]; have := ih i (by simpa using hi); omega
theorem ov_add {c x y : Int} (hc : 0 ≤ c) (hx : 0 ≤ x) (hxy : x ≤ y) : ov c (y - x) + ov c x ≤ ov c y := by
  unfold ov; split <;> split <;> split <;> omega
/-- a step of the model -/
theorem fitsF_step {x : Int} {r L : List Int} (h : fitsF (x :: r) L = true) : ∃ i, ∃ hi : i < L.length, x ≤ L[i] ∧ fitsF r (L.set i (L[i] - x)) = true := by
  unfold fitsF at h
  obtain ⟨i, hi, h⟩ := List.any_eq_true.1 h
  have hi := List.mem_range.1 hi
  have e : L.getD i 0 = L[i] := by simp [List.getD_eq_getElem?_getD, hi]
  rw [e] at h
  simp only [Bool.and_eq_true, decide_eq_true_eq] at h
  exact ⟨i, hi, h.1.1, h.2⟩
theorem set_nn {L : List Int} {i : Nat} {y : Int} (hL : ∀ z ∈ L, 0 ≤ z) (hy : 0 ≤ y) : ∀ z ∈ L.set i y, 0 ≤ z := fun z hz => by
  rcases List.mem_or_eq_of_mem_set hz with h | h
  · exact hL z h
  · omega
theorem fits_ovr {c : Int} (hc : 0 ≤ c) : ∀ (P L : List Int), (∀ x ∈ P, 1 ≤ x) → (∀ y ∈ L, 0 ≤ y) → fitsF P L = true → ovr c P ≤ ovr c L
  | [], L, _, _, _ => ovr_nn c L
  | x :: r, L, hP, hL, h => by
    obtain ⟨i, hi, h1, h2⟩ := fitsF_step h
    have hx := hP x (by simp)
    have ih := fits_ovr hc r _ (fun z hz => hP z (by simp [hz])) (set_nn hL (by omega)) h2
    have h3 := ovr_set c L i hi (L[i] - x)
    have h4 := ov_add hc (by omega) h1
    simp only [ovr]
    omega
/-- how many are not 0 -/
def nzc : List Int → Nat
  | [] => 0
  | x :: r => (if x = 0 then 0 else 1) + nzc r
theorem nzc_set (L : List Int) (i : Nat) (hi : i < L.length) (y : Int) : nzc L ≤ nzc (L.set i y) + 1 := by
  induction L generalizing i with
  | nil => simp at hi
  | cons x r ih =>
    cases i with
    | zero => simp only [List.set_cons_zero, nzc]; split <;> split <;> omega
    | succ i => simp only [List.set_cons_succ, nzc]; have := ih i (by simpa using hi); omega
theorem nzc_zero : ∀ L : List Int, (∀ y ∈ L, 0 ≤ y) → sumL L = 0 → nzc L = 0 ∧ 0 ≤ sumL L
  | [], _, _ => ⟨rfl, Int.le_refl 0⟩
  | x :: r, h, hs => by
    have hx := h x (by simp)
    have h0 : 0 ≤ sumL r := by
      have : ∀ M : List Int, (∀ y ∈ M, 0 ≤ y) → 0 ≤ sumL M := by
        intro M hM
        induction M with
        | nil => exact Int.le_refl 0
        | cons a t ih => have := hM a (by simp); have := ih (fun y hy => hM y (by simp [hy])); simp only [sumL]; omega
      exact this r (fun y hy => h y (by simp [hy]))
    simp only [sumL] at hs
    have ih := nzc_zero r (fun y hy => h y (by simp [hy])) (by omega)
    refine ⟨?_, by simp only [sumL]; omega⟩
    simp only [nzc]
    rw [if_pos (by omega), ih.1]
theorem fits_nzc : ∀ (P L : List Int), (∀ x ∈ P, 1 ≤ x) → (∀ y ∈ L, 0 ≤ y) → fitsF P L = true → nzc L ≤ P.length
  | [], L, _, hL, h => by
    have : sumL L = 0 := by simpa [fitsF] using h
    rw [(nzc_zero L hL this).1]; exact Nat.zero_le _
  | x :: r, L, hP, hL, h => by
    obtain ⟨i, hi, h1, h2⟩ := fitsF_step h
    have hx := hP x (by simp)
    have ih := fits_nzc r _ (fun z hz => hP z (by simp [hz])) (set_nn hL (by omega)) h2
    have h3 := nzc_set L i hi (L[i] - x)
    rw [List.length_cons]
    omega
theorem nzc_len : ∀ {L : List Int}, (∀ x ∈ L, 1 ≤ x) → nzc L = L.length
  | [], _ => rfl
  | x :: r, h => by
    have := h x (by simp)
    simp only [nzc, List.length_cons]
    rw [if_neg (by omega), nzc_len (fun y hy => h y (by simp [hy]))]; omega
/-- the first k are at most k times c and what stands over c -/
theorem sum_ovr {c : Int} (hc : 0 ≤ c) : ∀ L : List Int, sumL L ≤ ovr c L + c * L.length
  | [] => by simp [sumL, ovr]
  | x :: r => by
    have ih := sum_ovr hc r
    have h1 : x ≤ ov c x + c := by unfold ov; split <;> omega
    simp only [sumL, ovr, List.length_cons, Int.natCast_add, Int.natCast_one, Int.mul_add, Int.mul_one]
    omega
theorem sum_ovr_eq {c : Int} : ∀ L : List Int, (∀ x ∈ L, c ≤ x) → sumL L = ovr c L + c * L.length
  | [], _ => by simp [sumL, ovr]
  | x :: r, h => by
    have ih := sum_ovr_eq r (fun y hy => h y (by simp [hy]))
    have h2 := h x (by simp)
    have h1 : x = ov c x + c := by unfold ov; split <;> omega
    simp only [sumL, ovr, List.length_cons, Int.natCast_add, Int.natCast_one, Int.mul_add, Int.mul_one]
    omega
theorem ovr_low {c : Int} : ∀ L : List Int, (∀ x ∈ L, x ≤ c) → ovr c L = 0
  | [], _ => rfl
  | x :: r, h => by
    have h2 := h x (by simp)
    simp only [ovr]
    rw [ovr_low r (fun y hy => h y (by simp [hy]))]
    unfold ov; rw [if_pos h2]; rfl
theorem rfF_iff {P Q : List Int} : rfF P Q = true ↔ valid P = true ∧ valid Q = true ∧ sumL P = sumL Q ∧ fitsF P Q = true := by
  unfold rfF; simp [and_assoc]
theorem rf_dom {P Q : List Int} (h : rfF P Q = true) : dom Q P = true := by
  obtain ⟨hp, hq, hs, hf⟩ := rfF_iff.1 h
  have hP : ∀ x ∈ P, 1 ≤ x := fun x hx => (valid_each hp x hx).1
  have hQ : ∀ y ∈ Q, 0 ≤ y := fun y hy => by have := (valid_each hq y hy).1; omega
  refine dom_iff.2 ⟨hq, hp, hs.symm, fun k hk => ?_⟩
  rw [sumTo_take, sumTo_take]
  have hc : 0 ≤ Q.getD k 0 := by
    rcases Nat.lt_or_ge k Q.length with h | h
    · rw [show Q.getD k 0 = Q[k] by simp [List.getD_eq_getElem?_getD, h]]; exact hQ _ (List.getElem_mem h)
    · rw [List.getD_eq_getElem?_getD, List.getElem?_eq_none h]; exact Int.le_refl 0
  obtain ⟨c, hce⟩ : ∃ c, Q.getD k 0 = c := ⟨_, rfl⟩
  rw [hce] at hc
  have h1 := sum_ovr hc (P.take k)
  have h2 := fits_ovr hc P Q hP hQ hf
  have h3 := ovr_append c (P.take k) (P.drop k)
  rw [List.take_append_drop] at h3
  have h4 := ovr_nn c (P.drop k)
  have h5 := ovr_append c (Q.take k) (Q.drop k)
  rw [List.take_append_drop] at h5
  have h6 := sum_ovr_eq (c := c) (Q.take k) (fun x hx => by
    obtain ⟨j, hj, rfl⟩ := List.getElem_of_mem hx
    rw [List.length_take] at hj
    rw [List.getElem_take, ← hce, show Q[j] = Q.getD j 0 by simp [List.getD_eq_getElem?_getD, show j < Q.length by omega]]
    exact getD_mono hq (by omega))
  have h7 := ovr_low (c := c) (Q.drop k) (fun x hx => by
    obtain ⟨j, hj, rfl⟩ := List.getElem_of_mem hx
    rw [List.length_drop] at hj
    rw [List.getElem_drop, ← hce, show Q[k + j] = Q.getD (k + j) 0 by simp [List.getD_eq_getElem?_getD, show k + j < Q.length by omega]]
    exact getD_mono hq (by omega))
  rcases Nat.lt_or_ge k Q.length with hkl | hkl
  · have e1 : (Q.take k).length = k := by rw [List.length_take]; omega
    rw [e1] at h6
    have e2 : c * ((P.take k).length : Int) ≤ c * (k : Int) := Int.mul_le_mul_of_nonneg_left (by rw [List.length_take]; omega) hc
    omega
  · have e0 : c = 0 := by rw [← hce, List.getD_eq_getElem?_getD, List.getElem?_eq_none hkl]; rfl
    subst e0
    omega
theorem rf_len {P Q : List Int} (h : rfF P Q = true) : Q.length ≤ P.length := by
  obtain ⟨hp, hq, hs, hf⟩ := rfF_iff.1 h
  have h1 := fits_nzc P Q (fun x hx => (valid_each hp x hx).1) (fun y hy => by have := (valid_each hq y hy).1; omega) hf
  rwa [nzc_len (fun y hy => (valid_each hq y hy).1)] at h1
theorem rf_anti {P Q : List Int} (h : rfF P Q = true) : rfF Q P = true → P = Q := fun h2 => by
  have h3 := dom_anti (rf_dom h)
  rw [rf_dom h2] at h3
  exact (of_decide_eq_true h3.symm).symm
/-- each part into its own room -/
theorem fits_zeros : ∀ (r : List Int) (n : Nat), (∀ x ∈ r, 1 ≤ x) → fitsF r (List.replicate n 0 ++ r) = true
  | [], n, _ => by
    unfold fitsF
    have : ∀ n, sumL (List.replicate n 0 ++ []) = 0 := fun n => by
      induction n with
      | zero => rfl
      | succ n ih => rw [List.replicate_succ, List.cons_append]; simp only [sumL, ih]; rfl
    rw [this]; rfl
  | x :: r, n, h => by
    have hx := h x (by simp)
    unfold fitsF
    rw [List.any_eq_true]
    have hl : n < (List.replicate n (0 : Int) ++ x :: r).length := by simp
    have hg : (List.replicate n (0 : Int) ++ x :: r).getD n 0 = x := by simp [List.getD_eq_getElem?_getD]
    refine ⟨n, List.mem_range.2 hl, ?_⟩
    rw [hg]
    have ht : (List.replicate n (0 : Int) ++ x :: r).take n = List.replicate n 0 := by rw [List.take_left' (by simp)]
    have hset : (List.replicate n (0 : Int) ++ x :: r).set n (x - x) = List.replicate (n + 1) 0 ++ r := by
      rw [List.set_append_right _ _ (by simp), List.length_replicate, Nat.sub_self, List.set_cons_zero, Int.sub_self, List.replicate_succ']
      simp
    rw [ht, hset, fits_zeros r (n + 1) (fun y hy => h y (by simp [hy]))]
    simp
    exact Or.inr (by omega)
theorem rf_self {P : List Int} (hp : valid P = true) : rfF P P = true :=
  rfF_iff.2 ⟨hp, hp, rfl, by have := fits_zeros P 0 (fun x hx => (valid_each hp x hx).1); simpa using this⟩
end Go.Proofs.Ythafbdpeignccaa
namespace Go.Proofs.Ythafbdpeignccaa
open NP
set_option linter.unusedVariables false
theorem eqc_count (k : Int) (L : List Int) : eqc k L = (L.count k : Int) := by
  induction L with
  | nil => rfl
  | cons x r ih =>
    rw [eqc_cons, List.count_cons, ih]
    by_cases h : x = k
    · simp [h]; omega
    · simp [h]
theorem mrg_perm (L : List Int) : L.Perm (mrg L) := by
  rw [List.perm_iff_count]
  intro a
  have h1 := eqc_count a L
  have h2 := eqc_count a (mrg L)
  rw [mrg_eqc] at h2
  omega
theorem tly_mrg (L : List Int) : tlyL L = tlyL (mrg L) := by
  apply List.ext_getElem
  · simp [tlyL_len]
  · intro k h1 h2
    have hk : k < 17 := by rwa [tlyL_len] at h1
    rw [tlyL_at _ hk, tlyL_at _ hk, mrg_eqc]
theorem fin_rf {c d : List Int} (h : finF c d = true) : rfF (mrg c) (mrg d) = true := by
  have hc : vsm c = true := by unfold finF at h; simp only [Bool.and_eq_true] at h; exact h.1.1
  have hd : vsm d = true := by unfold finF at h; simp only [Bool.and_eq_true] at h; exact h.1.2
  rw [finF_yes hc hd] at h
  simp only [Bool.and_eq_true, decide_eq_true_eq] at h
  obtain ⟨hs, hm⟩ := h
  have c1 := vsm_iff.1 hc
  have d1 := vsm_iff.1 hd
  have n1 := le_sumLN c1.1
  have n2 := le_sumLN d1.1
  have hsum : sumL c = sumL d := by unfold sgN at hs; omega
  have lc := sum_len c1.1
  have ld := sum_len d1.1
  by_cases e : d = []
  · subst e
    have : c.length = 0 := by simp [sumL] at hsum; omega
    have := List.eq_nil_of_length_eq_zero this
    subst this
    exact rf_self (by decide)
  · have ec : c ≠ [] := by
      rintro rfl
      have : d.length = 0 := by simp [sumL] at hsum; omega
      exact e (List.eq_nil_of_length_eq_zero this)
    have hsb : subB (toB c) (toB d) := subB_of _ _ (by rw [toB_len c c1.1, toB_len d d1.1, hsum]) (fun i hi => by
      rw [← bval_bit] at hi ⊢
      exact (and_iff _ _).1 hm i hi)
    obtain ⟨x, r, y, t, e1, e2, e3, e4⟩ := bits_labels _ _ hsb
    rw [ofB_toB c ec c1.1] at e1
    rw [ofB_toB d e d1.1] at e2
    rw [← e2] at e3 e4
    have hpos : 0 < d.length := List.length_pos_iff.2 e
    refine rf_labels (mrg_ok hc) (mrg_ok hd) (Z := (x, 0) :: r) (R := d) ?_ (tly_mrg d) (fun z hz => ⟨?_, ?_⟩) (fun y hy => ?_) e4 (by rw [mrg_sum, mrg_sum, hsum])
    · have : ((x, 0) :: r).map Prod.fst = c := by rw [e1]; rfl
      rw [this]; exact mrg_perm c
    · apply c1.1
      rw [e1]
      rcases List.mem_cons.1 hz with h | h
      · subst h; simp
      · exact List.mem_cons_of_mem _ (List.mem_map.2 ⟨z, h, rfl⟩)
    · rcases List.mem_cons.1 hz with h | h
      · subst h; exact hpos
      · exact e3 z h
    · have h1 := d1.1 y hy
      have h2 : ∀ {M : List Int}, (∀ y ∈ M, 1 ≤ y) → ∀ y ∈ M, y ≤ sumL M := by
        intro M
        induction M with
        | nil => intro _ y hy; cases hy
        | cons a s ih =>
          intro hM y hy
          have h3 := le_sumLN (M := s) (fun z hz => hM z (by simp [hz]))
          have h4 := hM a (by simp)
          simp only [sumL]
          rcases List.mem_cons.1 hy with h | h
          · omega
          · have := ih (fun z hz => hM z (by simp [hz])) y h; omega
      have := h2 d1.1 y hy
      have := d1.2
      omega
end Go.Proofs.Ythafbdpeignccaa
namespace Go.Proofs.Ythafbdpeignccaa
open Go.RowKit NP
set_option maxRecDepth 8000
set_option linter.unusedVariables false
theorem two_one (a b : Int) : ∀ v ∈ (#[Value.int .i64 a, Value.int .i64 b]).toList, v.oneCell' = true := by intro v hv; simp at hv; rcases hv with rfl | rfl <;> rfl
theorem link_one (n m x : Nat) (w : World) (h1 : m < 2 ^ (n - 1)) (hx : 1 ≤ x) (hs : n + x ≤ 16) :
    Calls Try.prog 114 #[.agg #[.int .i64 n, .int .i64 m], .agg #[.int .i64 x, .int .i64 0], .bool false] w fun e w' =>
      e = .returned (.agg #[.int .i64 ((n + x : Nat) : Int), .int .i64 ((m + (if n = 0 then 0 else 2 ^ (n - 1)) : Nat) : Int)]) ∧ Below w.heap.size w w' := by
  have := link_any n m x 0 false w h1 (Nat.two_pow_pos _) hs
  have e : lkN n m x 0 false = m + (if n = 0 then 0 else 2 ^ (n - 1)) := by
    unfold lkN
    by_cases h0 : n = 0
    · simp [h0]
    · simp [h0, show ¬ x = 0 by omega]
  rw [e, show (((0 : Nat) : Int)) = 0 from rfl] at this
  exact this
set_option maxHeartbeats 1000000 in
theorem opposite_any (n m : Nat) (w : World) (h1 : m < 2 ^ (n - 1)) (hs : n ≤ 16) :
    Calls Try.prog 91 #[.agg #[.int .i64 n, .int .i64 m]] w fun e w' =>
      e = .returned (.agg #[.int .i64 n, .int .i64 ((2 ^ (n - 1) - 1 - m : Nat) : Int)]) ∧ Below w.heap.size w w' := by
  have hp16 := pow_le16 (n := n - 1) (by omega)
  have hC := fun w => masksOf_any n w hs
  obtain ⟨p, hp⟩ : ∃ p, p = 2 ^ (n - 1) := ⟨_, rfl⟩
  rw [← hp] at h1 hp16
  simp only [← hp] at hC ⊢
  have HC := Lib.hid hC
  clear hC hp
  obtain ⟨q, hq, e1⟩ : ∃ q : Nat, q = p - 1 ∧ IntKind.i64.wrap ((p : Int) - 1) = (q : Int) := ⟨_, rfl, by rw [IntWalk.i64_in _ (by omega)]; omega⟩
  obtain ⟨r, hr, e2⟩ : ∃ r : Nat, r = p - 1 - m ∧ IntKind.i64.wrap ((q : Int) - (m : Int)) = (r : Int) := ⟨_, rfl, by rw [IntWalk.i64_in _ (by omega)]; omega⟩
  rw [← hr]
  clear hr hq h1 hp16
  go_enter Try.func91, Try.ntmps91
  go_wp2_with fail
  go_region_with (go_at_call 115; refine (HC.out _).mono ?_; rintro e w' ⟨rfl, rfl⟩)
  all_goals
    have hbR : Blk ((w.alloc (.cells #[.int .i64 n, .int .i64 m] 73)).alloc (.cells #[.int .i64 n, .int .i64 r] 73)) (w.heap.size + 1) 73 #[.int .i64 n, .int .i64 r] := by
      have e := Blk.new (w.alloc (.cells #[.int .i64 n, .int .i64 m] 73)) 73 #[.int .i64 n, .int .i64 r]
      rw [World.size_alloc] at e
      exact e
    go_wp2
    refine bodyPost_ret (results_cell_row rfl _ _ (w.heap.size + 1) 73 #[.int .i64 n, .int .i64 r] (0, 0) _ rfl hbR.drew Try.underlying73 rfl T_sms) rfl ?_
    exact ⟨rfl, (((Below.refl w.heap.size w).alloc (Nat.le_refl _) _).alloc (by simp) _).trans ((Dr.refl _).drewN 1 |>.below _)⟩
end Go.Proofs.Ythafbdpeignccaa
