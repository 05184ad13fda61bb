/-
  Walks of the model: marked parts and piles counted.
-/
import Derived.Test.YtgdkifpjcjegpaaW21
import Derived.Test.YtgdkifpjcjegpaaW84
import Derived.Test.YtgdkifpjcjegpaaM41
namespace Go.Proofs.Ytgdkifpjcjegpaa
open Go.RowKit NP
set_option linter.unusedVariables false
set_option linter.unusedSimpArgs false
theorem rngYes2 (n lo hi : Int) (w : World) (h1 : lo ≤ n) (h2 : n ≤ hi) : Calls Try.prog 22 #[.int .i64 n, .int .i64 lo, .int .i64 hi] w fun e w' => e = .returned (.bool true) ∧ w = w' := (rngYes n lo hi w h1 h2).mono fun _ _ h => ⟨h.1, h.2.symm⟩
def lenOf : Value → Nat | .slice _ n _ => n | _ => 0
theorem upto_succ (n : Nat) : upto (n + 1) = upto n ++ [(n : Int) + 1] := by unfold upto; rw [List.range_succ, List.map_append]; rfl
theorem risingS_any (N : Nat) (hN : N ≤ 40) (w : World) :
    Calls Try.prog 28 #[.int .i64 N] w fun e w' => ∃ a' c', e = .returned (.slice a' N c') ∧ Own w' w.heap.size w'.heap.size 3 (.slice a' N c') (ints (upto N)) ∧ Below w.heap.size w w' := by
  obtain ⟨i0, hi, hz0, hz1, hz2⟩ := T_int'
  go_enter Try.func28, Try.ntmps28
  go_wp2_with fail
  go_loopw [3] (fun v wr => ∃ (j : Nat) (a' : Option Addr) (c' : Nat), j ≤ N ∧ v = .slice a' j c' ∧ Below w.heap.size w wr ∧ Own wr w.heap.size wr.heap.size 3 (.slice a' j c') (ints (upto j))) (fun v _ => 50 - lenOf v)
  case atStart => exact ⟨0, _, _, Nat.zero_le _, rfl, (Below.refl _ _).alloc (Nat.le_refl _) _, (Own.empty w 3).more⟩
  case round =>
    obtain ⟨j, a', c', hj, rfl, hbel, hown⟩ := hrel
    have hvl : (ints (upto j)).length = j := by rw [List.length_map, upto_len]
    by_cases hlt : j < N
    · have hlt' : (j : Int) < (N : Int) := by omega
      have HO := Lib.hid hown
      have HS := Lib.hid (upto_succ j)
      clear hown
      obtain ⟨vs, hvs⟩ : ∃ vs, vs = ints (upto j) := ⟨_, rfl⟩
      rw [← hvs] at HO hvl
      have HVS := Lib.hid hvs
      clear hvs
      go_wp2_with (at_builtin; refine wpList_append_o _ rfl (.tmp 9) (.tmp 13) 31 rfl w.heap.size wr.heap.size 3 i0 (.int .i64 0) 8 Try.underlying31 hi hz0 hz1 hz2 rfl _ vs rfl (HO.out.alloc _) (wr.heap.size + 1) (some ⟨wr.heap.size, 0, none⟩) 1 1 [.int .i64 ((j : Int) + 1)] rfl (Rd.one _ _ _) rfl (by simp; rfl) (by unfold maxLen; omega) (by omega) (by have := hbel.size; simp; omega) ?_; intro v' w1 ho1 hg1 hat1; obtain ⟨a2, c2, rfl⟩ := ho1.form; have hl1 : (vs ++ [Value.int .i64 ((j : Int) + 1)]).length = j + 1 := by rw [List.length_append, hvl]; rfl)
      rw [hl1] at ho1
      go_roundw
      case rel =>
        refine ⟨j + 1, a2, c2, by omega, rfl, below_push hbel (Nat.le_refl _) hg1 HO.out.base, ?_⟩
        rw [HVS.out] at ho1
        rw [HS.out]
        simpa [ints] using ho1
      case measure => simp [lenOf]; omega
    · obtain rfl : j = N := by omega
      have hlt' : (j : Int) ≤ (j : Int) := Int.le_refl _
      have HO := Lib.hid hown
      clear hown
      go_wp2_with fail
      go_ret
      exact ⟨a', c', rfl, HO.out, hbel⟩
set_option maxHeartbeats 1000000 in
theorem sCountMarked_any (n : Int) (w : World) :
    Calls Try.prog 14 #[.int .i64 n] w fun e w' => e = .returned (.int .i64 (mkF n)) ∧ Below w.heap.size w w' := by
  by_cases h : 0 ≤ n ∧ n ≤ 40
  · have HF : Hid (mkF n = (mkrow n.toNat).getD n.toNat 0) := Lib.hid (by unfold mkF; rw [if_pos h])
    rw [HF.out]
    obtain ⟨hn1, hn2⟩ := h
    obtain ⟨N, rfl⟩ := Int.eq_ofNat_of_zero_le hn1
    have hN : N ≤ 40 := by omega
    rw [Int.toNat_natCast]
    clear HF
    go_enter Try.func14, Try.ntmps14
    go_wp2_with (first
      | (go_at_call 22; refine (rngYes2 _ _ _ _ hn1 hn2).mono ?_; rintro e w1 ⟨rfl, rfl⟩)
      | (go_at_call 28; refine (risingS_any N hN _).mono ?_; rintro e w1 ⟨a', c', rfl, ho, hb⟩))
    go_loopw [3, 5] (fun s i wr => ∃ k : Nat, k ≤ N + 1 ∧ i = .int .i64 k ∧ s = .int .i64 (mkS (orow N) (crow N) N k) ∧ Below w.heap.size w wr ∧ Own wr w.heap.size wr.heap.size 3 (.slice a' N c') (ints (upto N))) (fun _ i _ => 50 - (intOf i).toNat)
    case atStart => exact ⟨0, Nat.zero_le _, rfl, rfl, hb, ho⟩
    case round =>
      clear ho hb
      obtain ⟨k, hk, rfl, rfl, hbel, ho⟩ := hrel
      have hsb := mkS_bd hN hk
      by_cases hlt : k ≤ N
      · have hlt' : (k : Int) ≤ (N : Int) := by omega
        have hpb := mkT_bd hN hlt
        have HV := Lib.hid (cntF_upto hN (Nat.le_trans hlt hN))
        have HC := Lib.hid (crow_diag hN hlt)
        have HS : Hid (mkS (orow N) (crow N) N (k + 1) = mkS (orow N) (crow N) N k + (orow N).getD k 0 * (crow N).getD (N - k) 0) := Lib.hid rfl
        have HB := Lib.hid (mkS_bd hN (show k + 1 ≤ N + 1 by omega))
        rw [HS.out] at HB
        obtain ⟨x, hx⟩ : ∃ x, x = (orow N).getD k 0 := ⟨_, rfl⟩
        obtain ⟨y, hy⟩ : ∃ y, y = (crow N).getD (N - k) 0 := ⟨_, rfl⟩
        obtain ⟨s, hs⟩ : ∃ s, s = mkS (orow N) (crow N) N k := ⟨_, rfl⟩
        rw [← hx] at hpb HV HS HB
        rw [← hy] at hpb HC HS HB
        rw [← hs] at hsb HS HB ⊢
        obtain ⟨pr, hpr⟩ : ∃ pr, pr = x * y := ⟨_, rfl⟩
        rw [← hpr] at hpb HS HB
        have hw1 : wrap64 (x * y) = pr := by rw [← hpr]; exact IntWalk.wrap64_in _ (by omega)
        have hw2 : IntKind.i64.wrap (x * y) = pr := by rw [← hpr]; exact IntWalk.i64_in _ (by omega)
        have hbb := HB.out
        have HO := Lib.hid ho
        have hul := Lib.hid (upto_len N)
        clear hx hy hs hpr ho HB hsb hpb
        go_wp2_with (first
          | (go_at_call 30; refine (countTo_at _ _ _ (by omega) (by omega) (by omega) (by omega)).mono ?_; rintro e w3 ⟨rfl, rfl⟩; rw [← HC.out])
          | (go_at_call 29; have hci := countInOnce_any a' c' wr.heap.size (upto N) k wr HO.out.rd HO.out.le (upto_stB hN) (by omega); rw [hul.out] at hci; refine hci.mono ?_; clear hci; rintro e w2 ⟨rfl, hb2⟩; rw [HV.out]))
        go_roundw
        case rel => exact ⟨k + 1, by omega, by go_num, by rw [HS.out], hbel.trans (hb2.mono hbel.size), (HO.out.below hb2).more⟩
        case measure => simp [intOf]; omega
      · obtain rfl : k = N + 1 := by omega
        have hlt' : (N : Int) < (N : Int) + 1 := by omega
        have HE := Lib.hid (mkS_end hN)
        clear ho
        go_wp2_with fail
        go_ret
        exact ⟨ret_i64 HE.out, hbel⟩
  · have HF : Hid (mkF n = -1) := Lib.hid (by unfold mkF; rw [if_neg h])
    rw [HF.out]
    have H := Lib.hid (by omega : n < 0 ∨ 40 < n)
    clear h
    go_enter Try.func14, Try.ntmps14
    go_wp2_with (go_at_call 22; refine (rngNo _ _ _ _ H.out).mono ?_; rintro e w1 ⟨rfl, rfl⟩)
    go_ret
    exact ⟨rfl, Below.refl _ _⟩
theorem divisorsSq_any (n : Int) (h1 : 1 ≤ n) (h2 : n ≤ 40) (w : World) :
    Calls Try.prog 31 #[.int .i64 n, .bool true] w fun e w' => e = .returned (.int .i64 (dsq n n.toNat)) ∧ w' = w := by
  · go_enter Try.func31, Try.ntmps31
    go_wp2_with fail
    go_loop [5, 6] (fun s i => ∃ k : Nat, (k : Int) ≤ n ∧ i = .int .i64 ((k : Int) + 1) ∧ s = .int .i64 (dsq n k)) (fun _ i => 50 - (intOf i).toNat)
    case atStart => exact ⟨0, by omega, rfl, rfl⟩
    case round =>
      obtain ⟨k, hk, rfl, rfl⟩ := hrel
      have hb := dsq_bd n k (by omega)
      by_cases hlt : (k : Int) < n
      · have hlt' : (k : Int) + 1 ≤ n := by omega
        have hmod : n.tmod ((k : Int) + 1) = n % ((k : Int) + 1) := Int.tmod_eq_emod_of_nonneg (by omega)
        obtain ⟨q, hq0, e1, e2, HQ⟩ : ∃ q : Int, (0 ≤ q ∧ q ≤ 1600) ∧ wrap64 (((k : Int) + 1) * ((k : Int) + 1)) = q ∧ IntKind.i64.wrap (((k : Int) + 1) * ((k : Int) + 1)) = q ∧ Hid (((k : Int) + 1) * ((k : Int) + 1) = q) := by
          have := sq_small (k + 1) (by omega)
          rw [show ((k + 1 : Nat) : Int) = (k : Int) + 1 by omega] at this
          exact ⟨_, this, IntWalk.wrap64_in _ (by omega), IntWalk.i64_in _ (by omega), Lib.hid rfl⟩
        by_cases hd : n % ((k : Int) + 1) = 0
        · have hdb : (n % ((k : Int) + 1) == 0) = true := beq_iff_eq.2 hd
          have HS : Hid (dsq n (k + 1) = dsq n k + q) := Lib.hid (by simp only [dsq]; rw [if_pos hd, HQ.out])
          clear hd
          go_wp2_with fail
          go_round
          case rel => exact ⟨k + 1, by omega, by go_num, by rw [HS.out]⟩
          case measure => simp [intOf]; omega
        · have hdb : (n % ((k : Int) + 1) == 0) = false := beq_eq_false_iff_ne.2 hd
          have HS : Hid (dsq n (k + 1) = dsq n k) := Lib.hid (by simp only [dsq]; rw [if_neg hd, Int.add_zero])
          clear hd
          go_wp2_with fail
          go_round
          case rel => exact ⟨k + 1, by omega, by go_num, by rw [HS.out]⟩
          case measure => simp [intOf]; omega
      · have HN : Hid (n.toNat = k) := Lib.hid (by omega)
        have hlt' : n < (k : Int) + 1 := by omega
        clear hlt
        go_wp2_with fail
        go_ret
        exact ⟨ret_i64 (by rw [HN.out]), rfl⟩
set_option maxHeartbeats 1600000 in
theorem sCountPiles_any (n : Int) (w : World) :
    Calls Try.prog 17 #[.int .i64 n] w fun e w' => e = .returned (.int .i64 (plF n)) ∧ Below w.heap.size w w' := by
  by_cases h : 0 ≤ n ∧ n ≤ 16
  · have HF : Hid (plF n = (pltab n.toNat).getD n.toNat 0) := Lib.hid (by unfold plF; rw [if_pos h, pt_eq (by omega)])
    rw [HF.out]
    obtain ⟨hn1, hn2⟩ := h
    obtain ⟨N, rfl⟩ := Int.eq_ofNat_of_zero_le hn1
    have hN : N ≤ 16 := by omega
    rw [Int.toNat_natCast]
    clear HF
    obtain ⟨i0, hi, hz0, hz1, hzb⟩ := T_int'
    go_enter Try.func17, Try.ntmps17
    go_wp2_with (go_at_call 22; refine (rngYes2 _ _ _ _ hn1 hn2).mono ?_; rintro e w1 ⟨rfl, rfl⟩)
    go_loopw [3, 4] (fun v i wr => ∃ (m : Nat) (a' : Option Addr) (c' : Nat), m ≤ N ∧ i = .int .i64 ((m : Int) + 1) ∧ v = .slice a' (m + 1) c' ∧ Below w.heap.size w wr ∧ Own wr w.heap.size wr.heap.size 3 (.slice a' (m + 1) c') (ints (pltab m))) (fun _ i _ => 50 - (intOf i).toNat)
    case atStart =>
      refine ⟨0, _, _, Nat.zero_le _, rfl, rfl, (Below.refl _ _).alloc (Nat.le_refl _) _, ?_⟩
      exact (Blk.new w 3 #[Value.int .i64 1]).own (vs := [Value.int .i64 1]) (Nat.le_refl _) (by unfold maxLen; simp)
    case round =>
      obtain ⟨m, a', c', hm, rfl, rfl, hbel, ho⟩ := hrel
      have hvl : (ints (pltab m)).length = m + 1 := by rw [List.length_map, pltab_len]
      by_cases hlt : m < N
      · have hlt' : (m : Int) + 1 ≤ (N : Int) := by omega
        obtain ⟨hi1, hhi⟩ : ∃ h, h = wr.heap.size := ⟨_, rfl⟩
        rw [← hhi] at ho
        have HO := Lib.hid ho
        clear ho hhi
        go_wp2_with fail
        go_loopw [5, 6] (fun s i wi => ∃ k : Nat, k ≤ m + 1 ∧ i = .int .i64 ((k : Int) + 1) ∧ s = .int .i64 (pts (pltab m) (m + 1) k) ∧ Dr wr wi) (fun _ i _ => 50 - (intOf i).toNat)
        case atStart => exact ⟨0, Nat.zero_le _, rfl, rfl, Dr.refl _⟩
        case round =>
          obtain ⟨k, hk, rfl, rfl, hdr⟩ := hrel
          have hpb := pt_bd (m := m) (by omega) hk
          have hO2 := HO.out.dr hdr
          by_cases hlk : k < m + 1
          · have hlk' : (k : Int) + 1 ≤ (m : Int) + 1 := by omega
            have hx : m + 1 - (k + 1) < (pltab m).length := by rw [pltab_len]; omega
            obtain ⟨b, o, rfl, hb1, hc⟩ := hO2.rd.at_ hx
            rw [← getD_lt hx] at hc
            have HS : Hid (pts (pltab m) (m + 1) (k + 1) = pts (pltab m) (m + 1) k + dsq ((k : Int) + 1) (k + 1) * (pltab m).getD (m + 1 - (k + 1)) 0) := Lib.hid rfl
            have HB := Lib.hid (pt_bd (m := m) (by omega) (show k + 1 ≤ m + 1 by omega)).1
            rw [HS.out] at HB
            obtain ⟨q, hq⟩ : ∃ q : Nat, q = m + 1 - (k + 1) := ⟨_, rfl⟩
            rw [← hq] at hc hpb HS HB hx
            have hqi : IntKind.i64.wrap (((m : Int) + 1) - ((k : Int) + 1)) = (q : Int) := by rw [IntWalk.i64_in _ (by omega)]; omega
            have hqm : q < m + 1 := by omega
            have hqm' : (q : Int) < ((m + 1 : Nat) : Int) := by omega
            have HD := Lib.hid (fun w => (divisorsSq_any ((k : Int) + 1) (by omega) (by omega) w))
            have hkk : ((k : Int) + 1).toNat = k + 1 := by omega
            rw [hkk] at HD
            obtain ⟨x, hxx⟩ : ∃ x, x = dsq ((k : Int) + 1) (k + 1) := ⟨_, rfl⟩
            obtain ⟨y, hyy⟩ : ∃ y, y = (pltab m).getD q 0 := ⟨_, rfl⟩
            obtain ⟨s, hss⟩ : ∃ s, s = pts (pltab m) (m + 1) k := ⟨_, rfl⟩
            rw [← hxx] at hpb HS HB HD
            rw [← hyy] at hpb HS HB hc
            rw [← hss] at hpb HS HB ⊢
            obtain ⟨pr, hpr⟩ : ∃ pr, pr = x * y := ⟨_, rfl⟩
            rw [← hpr] at hpb HS HB
            have hw1 : wrap64 (x * y) = pr := by rw [← hpr]; exact IntWalk.wrap64_in _ (by omega)
            have hw2 : IntKind.i64.wrap (x * y) = pr := by rw [← hpr]; exact IntWalk.i64_in _ (by omega)
            have hbb := HB.out
            clear hxx hyy hss hpr HB hq hkk hx hO2
            go_wp2_with fail
            go_quiet ((go_at_call 31; exact Calls.quiet_of_same (HD.out _)))
            go_wp2
            go_roundw
            case rel => exact ⟨k + 1, by omega, by go_num, by rw [HS.out], hdr.drewN _⟩
            case measure => simp [intOf]; omega
          · obtain rfl : k = m + 1 := by omega
            have hlk' : (m : Int) + 1 < ((m + 1 : Nat) : Int) + 1 := by omega
            have HT : Hid (pltab (m + 1) = pltab m ++ [pts (pltab m) (m + 1) (m + 1) / ((m : Int) + 1)]) := Lib.hid rfl
            obtain ⟨s, hss⟩ : ∃ s, s = pts (pltab m) (m + 1) (m + 1) := ⟨_, rfl⟩
            have hsb := hpb.1
            rw [← hss] at HT hsb ⊢
            have hdv : s.tdiv ((m : Int) + 1) = s / ((m : Int) + 1) := Int.tdiv_eq_ediv_of_nonneg hsb.1
            obtain ⟨vs, hvs⟩ : ∃ vs, vs = ints (pltab m) := ⟨_, rfl⟩
            rw [← hvs] at hO2 hvl
            have HVS := Lib.hid hvs
            have HO2 := Lib.hid hO2
            have hlo2 : w.heap.size ≤ wr.heap.size := by rw [hdr.size]; exact hbel.size
            have hq0 : 0 ≤ s / ((m : Int) + 1) := Int.ediv_nonneg hsb.1 (by omega)
            have hq1 : s / ((m : Int) + 1) ≤ 1099511627776 := Int.le_trans (Int.ediv_le_self _ hsb.1) hsb.2
            clear hss hvs hpb hO2
            go_wp2_with (at_builtin; refine wpList_append_o _ rfl (.tmp 32) (.tmp 36) 31 rfl w.heap.size hi1 3 i0 (.int .i64 0) 8 Try.underlying31 hi hz0 hz1 hzb rfl _ vs rfl (HO2.out.alloc _) (wr.heap.size + 1) (some ⟨wr.heap.size, 0, none⟩) 1 1 [.int .i64 (s / ((m : Int) + 1))] rfl (Rd.one _ _ _) rfl (by simp; rfl) (by unfold maxLen; omega) (by omega) (by simp; omega) ?_; intro v' w1 ho1 hg1 hat1; obtain ⟨a2, c2, rfl⟩ := ho1.form; have hl1 : (vs ++ [Value.int .i64 (s / ((m : Int) + 1))]).length = m + 1 + 1 := by rw [List.length_append, hvl]; rfl)
            rw [hl1] at ho1
            go_roundw
            case rel =>
              refine ⟨m + 1, a2, c2, by omega, by go_num, rfl, ?_, ?_⟩
              · exact below_push (hbel.trans (hdr.below _)) (Nat.le_refl _) hg1 HO2.out.base
              · rw [HVS.out] at ho1
                rw [HT.out]
                simpa [ints] using ho1
            case measure => simp [intOf]; omega
      · obtain rfl : m = N := by omega
        have hlt' : (m : Int) < (m : Int) + 1 := by omega
        have hx : m < (pltab m).length := by rw [pltab_len]; omega
        obtain ⟨b, o, rfl, hb1, hc⟩ := ho.rd.at_ hx
        rw [← getD_lt hx] at hc
        have hm1 : (m : Int) < ((m + 1 : Nat) : Int) := by omega
        clear ho hvl hx
        go_wp2_with fail
        go_ret
        exact ⟨rfl, hbel⟩
  · have HF : Hid (plF n = -1) := Lib.hid (by unfold plF; rw [if_neg h])
    rw [HF.out]
    have H := Lib.hid (by omega : n < 0 ∨ 16 < n)
    clear h
    go_enter Try.func17, Try.ntmps17
    go_wp2_with (go_at_call 22; refine (rngNo _ _ _ _ H.out).mono ?_; rintro e w1 ⟨rfl, rfl⟩)
    go_ret
    exact ⟨rfl, Below.refl _ _⟩
end Go.Proofs.Ytgdkifpjcjegpaa
