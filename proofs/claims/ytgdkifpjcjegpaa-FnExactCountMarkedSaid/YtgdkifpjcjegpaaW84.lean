/-
  Walks of the program: what is counted, behind an interface: marked parts and piles.
-/
import Derived.Test.YtgdkifpjcjegpaaC4
import Derived.Test.YtgdkifpjcjegpaaM40
import Derived.Deep.RegionWith
namespace Go.Proofs.Ytgdkifpjcjegpaa
open Go.RowKit NP
set_option linter.unusedVariables false
set_option linter.unusedSimpArgs false

theorem withMarked_any (j : Nat) (hj : j < 40) (w : World) :
    Calls Try.prog 34 #[.agg (arr (mkrow j)), .int .i64 ((j : Int) + 1)] w fun e w' => e = .returned (.agg (arr (mkrow (j + 1)))) ∧ Below w.heap.size w w' := by
  have hi1 : (Try.prog.info? 56).map (·.size) = some (arr (mkrow j)).size := by rw [arr_size, mkrow_len]; exact T_info41
  have hi2 : (Try.prog.info? 56).map (·.size) = some (arr (mkrow (j + 1))).size := by rw [arr_size, mkrow_len]; exact T_info41
  have hsz : (arr (mkrow (j + 1))).size = (arr (List.replicate 41 0)).size := by rw [arr_size, arr_size, mkrow_len]; rfl
  have hb0 := (Blk.new w 56 (arr (mkrow j))).alloc (.cells (arr (List.replicate 41 0)) 56)
  have hb1 := Blk.new (w.alloc (.cells (arr (mkrow j)) 56)) 56 (arr (List.replicate 41 0))
  rw [World.size_alloc] at hb1
  have hbel : Below w.heap.size w ((w.alloc (.cells (arr (mkrow j)) 56)).alloc (.cells (arr (List.replicate 41 0)) 56)) := ((Below.refl _ _).alloc (Nat.le_refl _) _).alloc (by simp) _
  have H1 := Lib.hid (fun w => withMany_any (mkrow j) (mkrow_len j) (j + 1) (by omega) (by omega) (mkrow_bd (by omega)) w)
  have H2 := Lib.hid (fun w => withOnce_any (wrow (mkrow j) (j + 1)) (wrow_len _ _) (j + 1) (by omega) (by omega) 1 (.inl rfl) (wmk_bd (by omega)) w)
  go_enter Try.func34, Try.ntmps34
  go_wp2_with (first
    | (refine wpList_store_row rfl 56 (.tmp 4) (.tmp 9) rfl (w.heap.size + 1) rfl (arr (mkrow (j + 1))) rfl 56 _ hb3 hi2 hsz (arr_one _) ?_)
    | (go_at_call 42; refine (H2.out _).mono ?_; rintro e w2 ⟨rfl, hbx⟩; have hb3 := hb2.below hbx hb2.lt; have hbel3 := hbel2.trans (hbx.mono hbel2.size))
    | (go_at_call 41; refine (H1.out _).mono ?_; rintro e w1 ⟨rfl, hbw⟩; have hb2 := hb1.below hbw hb1.lt; have hbel2 := hbel.trans (hbw.mono hbel.size))
    | (refine wpList_load_row rfl 56 (.tmp 2) rfl w.heap.size rfl 56 (arr (mkrow j)) (0, 0) _ hb0 Try.underlying56 rfl hi1 ?_))
  refine bodyPost_ret (results_cell_row rfl _ _ (w.heap.size + 1) 56 (arr (mkrow (j + 1))) (0, 0) _ rfl hb3.row Try.underlying56 rfl hi2) rfl ?_
  exact ⟨rfl, below_setRow' hbel3 (by omega) _⟩

theorem withColors_any (j : Nat) (hj : j < 16) (w : World) :
    Calls Try.prog 35 #[.agg (arr (plrow j)), .int .i64 ((j : Int) + 1)] w fun e w' => e = .returned (.agg (arr (plrow (j + 1)))) ∧ Below w.heap.size w w' := by
  have hlen : ∀ i, (wpow (plrow j) (j + 1) i).length = 41 := fun i => wpow_len (plrow_len j) _ _
  have hi : ∀ i, (Try.prog.info? 56).map (·.size) = some (arr (wpow (plrow j) (j + 1) i)).size := fun i => by rw [arr_size, hlen]; exact T_info41
  have hsz : ∀ i k, (arr (wpow (plrow j) (j + 1) i)).size = (arr (wpow (plrow j) (j + 1) k)).size := fun i k => by rw [arr_size, arr_size, hlen, hlen]
  have hsz0 : (arr (wpow (plrow j) (j + 1) (j + 1))).size = (arr (List.replicate 41 0)).size := by rw [arr_size, arr_size, hlen]; rfl
  have hb0 : Blk ((w.alloc (.cells (arr (plrow j)) 56)).alloc (.cells (arr (List.replicate 41 0)) 56)) w.heap.size 56 (arr (wpow (plrow j) (j + 1) 0)) := (Blk.new w 56 (arr (plrow j))).alloc (.cells (arr (List.replicate 41 0)) 56)
  have hb1 := Blk.new (w.alloc (.cells (arr (plrow j)) 56)) 56 (arr (List.replicate 41 0))
  rw [World.size_alloc] at hb1
  have hbel : Below w.heap.size w ((w.alloc (.cells (arr (plrow j)) 56)).alloc (.cells (arr (List.replicate 41 0)) 56)) := ((Below.refl _ _).alloc (Nat.le_refl _) _).alloc (by simp) _
  have HL := Lib.hid hlen
  have HI := Lib.hid hi
  have HZ := Lib.hid hsz
  clear hlen hi hsz
  go_enter Try.func35, Try.ntmps35
  go_wp2_with fail
  go_loopw [6] (fun i wr => ∃ k : Nat, k ≤ j + 1 ∧ i = .int .i64 k ∧ Below w.heap.size w wr ∧ Blk wr (w.heap.size + 1) 56 (arr (List.replicate 41 0)) ∧ Blk wr w.heap.size 56 (arr (wpow (plrow j) (j + 1) k))) (fun i _ => 50 - (intOf i).toNat)
  case atStart => exact ⟨0, Nat.zero_le _, rfl, hbel, hb1, hb0⟩
  case round =>
    clear hb0 hb1 hbel
    obtain ⟨k, hk, rfl, hbel, hb1, hb0⟩ := hrel
    have hik := HI.out k
    by_cases hlt : k < j + 1
    · have hlt' : (k : Int) < (j : Int) + 1 := by omega
      have hik1 := HI.out (k + 1)
      have hsz := HZ.out (k + 1) k
      have H1 := Lib.hid (fun w => withMany_any (wpow (plrow j) (j + 1) k) (HL.out k) (j + 1) (by omega) (by omega) (wpow_bd hj hlt) w)
      have HW : Hid (wrow (wpow (plrow j) (j + 1) k) (j + 1) = wpow (plrow j) (j + 1) (k + 1)) := Lib.hid rfl
      rw [HW.out] at H1
      go_wp2_with (first
        | (refine wpList_load_row rfl 56 (.tmp 2) rfl w.heap.size rfl 56 (arr (wpow (plrow j) (j + 1) k)) (0, 0) _ hb0 Try.underlying56 rfl hik ?_)
        | (go_at_call 41; refine (H1.out _).mono ?_; rintro e w1 ⟨rfl, hbw⟩; have hb0' := hb0.below hbw hb0.lt; have hb1' := hb1.below hbw hb1.lt; have hbel' := hbel.trans (hbw.mono hbel.size))
        | (refine wpList_store_row rfl 56 (.tmp 2) (.tmp 10) rfl w.heap.size rfl (arr (wpow (plrow j) (j + 1) (k + 1))) rfl 56 _ hb0' hik1 hsz (arr_one _) ?_))
      go_roundw
      case rel => exact ⟨k + 1, by omega, by go_num, below_setRow' hbel' (Nat.le_refl _) _, hb1'.rowOff (by omega), hb0'.row⟩
      case measure => simp [intOf]; omega
    · obtain rfl : k = j + 1 := by omega
      have hlt' : (j : Int) + 1 ≤ (j : Int) + 1 := by omega
      go_wp2_with (first
        | (refine wpList_load_row rfl 56 (.tmp 2) rfl w.heap.size rfl 56 (arr (wpow (plrow j) (j + 1) (j + 1))) (0, 0) _ hb0 Try.underlying56 rfl hik ?_)
        | (refine wpList_store_row rfl 56 (.tmp 4) (.tmp 12) rfl (w.heap.size + 1) rfl (arr (wpow (plrow j) (j + 1) (j + 1))) rfl 56 _ hb1 hik hsz0 (arr_one _) ?_))
      refine bodyPost_ret (results_cell_row rfl _ _ (w.heap.size + 1) 56 (arr (wpow (plrow j) (j + 1) (j + 1))) (0, 0) _ rfl hb1.row Try.underlying56 rfl hik) rfl ?_
      exact ⟨rfl, below_setRow' hbel (by omega) _⟩

theorem mkIn_any (n : Int) (w : World) : Calls Try.prog 67 #[.int .i64 n] w fun e w' => e = .returned (.bool (decide (0 ≤ n ∧ n ≤ 40))) ∧ w = w' := by
  by_cases h1 : 0 ≤ n
  · by_cases h2 : n ≤ 40
    · have HF := Lib.hid (decide_eq_true (And.intro h1 h2))
      rw [HF.out]
      have d1 : decide (0 ≤ n) = true := decide_eq_true h1
      have d2 : decide (n ≤ 40) = true := decide_eq_true h2
      go_enter Try.func67, Try.ntmps67
      go_wp2
      go_ret
      exact ⟨rfl, rfl⟩
    · have HF : Hid (decide (0 ≤ n ∧ n ≤ 40) = false) := Lib.hid (decide_eq_false (by omega))
      rw [HF.out]
      have d1 : decide (0 ≤ n) = true := decide_eq_true h1
      have d2 : decide (n ≤ 40) = false := decide_eq_false h2
      go_enter Try.func67, Try.ntmps67
      go_wp2
      go_ret
      exact ⟨rfl, rfl⟩
  · have HF : Hid (decide (0 ≤ n ∧ n ≤ 40) = false) := Lib.hid (decide_eq_false (by omega))
    rw [HF.out]
    have d1 : decide (0 ≤ n) = false := decide_eq_false h1
    go_enter Try.func67, Try.ntmps67
    go_wp2
    go_ret
    exact ⟨rfl, rfl⟩
theorem plIn_any (n : Int) (w : World) : Calls Try.prog 68 #[.int .i64 n] w fun e w' => e = .returned (.bool (decide (0 ≤ n ∧ n ≤ 16))) ∧ w = w' := by
  by_cases h1 : 0 ≤ n
  · by_cases h2 : n ≤ 16
    · have HF := Lib.hid (decide_eq_true (And.intro h1 h2))
      rw [HF.out]
      have d1 : decide (0 ≤ n) = true := decide_eq_true h1
      have d2 : decide (n ≤ 16) = true := decide_eq_true h2
      go_enter Try.func68, Try.ntmps68
      go_wp2
      go_ret
      exact ⟨rfl, rfl⟩
    · have HF : Hid (decide (0 ≤ n ∧ n ≤ 16) = false) := Lib.hid (decide_eq_false (by omega))
      rw [HF.out]
      have d1 : decide (0 ≤ n) = true := decide_eq_true h1
      have d2 : decide (n ≤ 16) = false := decide_eq_false h2
      go_enter Try.func68, Try.ntmps68
      go_wp2
      go_ret
      exact ⟨rfl, rfl⟩
  · have HF : Hid (decide (0 ≤ n ∧ n ≤ 16) = false) := Lib.hid (decide_eq_false (by omega))
    rw [HF.out]
    have d1 : decide (0 ≤ n) = false := decide_eq_false h1
    go_enter Try.func68, Try.ntmps68
    go_wp2
    go_ret
    exact ⟨rfl, rfl⟩

theorem ta_marked (v : Value) (w : World) : (Instr.typeAssert (.iface 52 v) 59 52 true).run Try.prog w = .ok (.tuple #[v, .bool true]) w := by kernel_rfl
theorem countOfMarked_any (n : Int) (w : World) : Calls Try.prog 24 #[.iface 52 (.int .i64 n)] w fun e w' => e = .returned (.int .i64 (mkF n)) ∧ Below w.heap.size w w' := by
  by_cases h : 0 ≤ n ∧ n ≤ 40
  · have HF : Hid (mkF n = (mkrow n.toNat).getD n.toNat 0) := Lib.hid (by unfold mkF; rw [if_pos h])
    rw [HF.out]
    have hd : decide (0 ≤ n ∧ n ≤ 40) = true := decide_eq_true h
    obtain ⟨k, rfl⟩ := Int.eq_ofNat_of_zero_le h.1
    have hk : k ≤ 40 := by omega
    rw [Int.toNat_natCast]
    have HIN := Lib.hid (fun w => mkIn_any (k : Int) w)
    rw [hd] at HIN
    clear h hd
    have H := Lib.hid (countsBy_any 34 (enters_of Try.func34 (by kernel_rfl) rfl) mkrow rfl mkrow_len k hk (fun j hj w1 => withMarked_any j (by omega) w1))
    have hix := fun w => T_index41 (mkrow k) k (by rw [mkrow_len]; omega) (by omega) w
    have hta := ta_marked
    go_enter Try.func24, Try.ntmps24
    go_wp2_with (first
      | (go_at_call 33; refine (H.out _).mono ?_; rintro e w1 ⟨rfl, hb⟩)
      | (go_at_call 67; refine (HIN.out _).mono ?_; rintro e w1 ⟨rfl, rfl⟩))
    go_ret
    exact ⟨ret_i64 (getD_lt (by rw [mkrow_len]; omega)).symm, hb⟩
  · have HF : Hid (mkF n = -1) := Lib.hid (by unfold mkF; rw [if_neg h])
    rw [HF.out]
    have hd : decide (0 ≤ n ∧ n ≤ 40) = false := decide_eq_false h
    have HIN := Lib.hid (fun w => mkIn_any n w)
    rw [hd] at HIN
    clear h hd
    go_enter Try.func24, Try.ntmps24
    go_wp2_with (go_at_call 67; refine (HIN.out _).mono ?_; rintro e w1 ⟨rfl, rfl⟩)
    go_ret
    exact ⟨rfl, Below.refl _ _⟩
theorem iCountMarked_any (n : Int) (w : World) : Calls Try.prog 15 #[.int .i64 n] w fun e w' => e = .returned (.int .i64 (mkF n)) ∧ Below w.heap.size w w' := by
  go_enter Try.func15, Try.ntmps15
  go_wp2_with (go_at_call 24; refine (countOfMarked_any n _).mono ?_; rintro e w1 ⟨rfl, hb⟩)
  go_ret
  exact ⟨rfl, hb⟩
theorem ta_pile (v : Value) (w : World) : (Instr.typeAssert (.iface 54 v) 59 54 true).run Try.prog w = .ok (.tuple #[v, .bool true]) w := by kernel_rfl
theorem ta_pile_no (v : Value) (w : World) : (Instr.typeAssert (.iface 54 v) 59 52 true).run Try.prog w = .ok (.tuple #[.int .i64 0, .bool false]) w := by kernel_rfl
theorem countOfPiles_any (n : Int) (w : World) : Calls Try.prog 24 #[.iface 54 (.int .i64 n)] w fun e w' => e = .returned (.int .i64 (plF n)) ∧ Below w.heap.size w w' := by
  by_cases h : 0 ≤ n ∧ n ≤ 16
  · have HF : Hid (plF n = (plrow n.toNat).getD n.toNat 0) := Lib.hid (by unfold plF; rw [if_pos h])
    rw [HF.out]
    have hd : decide (0 ≤ n ∧ n ≤ 16) = true := decide_eq_true h
    obtain ⟨k, rfl⟩ := Int.eq_ofNat_of_zero_le h.1
    have hk : k ≤ 16 := by omega
    rw [Int.toNat_natCast]
    have HIN := Lib.hid (fun w => plIn_any (k : Int) w)
    rw [hd] at HIN
    clear h hd
    have H := Lib.hid (countsBy_any 35 (enters_of Try.func35 (by kernel_rfl) rfl) plrow rfl plrow_len k (by omega) (fun j hj w1 => withColors_any j (by omega) w1))
    have hix := fun w => T_index41 (plrow k) k (by rw [plrow_len]; omega) (by omega) w
    have hta := ta_pile
    have htb := ta_pile_no
    go_enter Try.func24, Try.ntmps24
    go_wp2_with (first
      | (go_at_call 33; refine (H.out _).mono ?_; rintro e w1 ⟨rfl, hb⟩)
      | (go_at_call 68; refine (HIN.out _).mono ?_; rintro e w1 ⟨rfl, rfl⟩))
    go_ret
    exact ⟨ret_i64 (getD_lt (by rw [plrow_len]; omega)).symm, hb⟩
  · have HF : Hid (plF n = -1) := Lib.hid (by unfold plF; rw [if_neg h])
    rw [HF.out]
    have hd : decide (0 ≤ n ∧ n ≤ 16) = false := decide_eq_false h
    have HIN := Lib.hid (fun w => plIn_any n w)
    rw [hd] at HIN
    clear h hd
    go_enter Try.func24, Try.ntmps24
    go_wp2_with (go_at_call 68; refine (HIN.out _).mono ?_; rintro e w1 ⟨rfl, rfl⟩)
    go_ret
    exact ⟨rfl, Below.refl _ _⟩
theorem iCountPiles_any (n : Int) (w : World) : Calls Try.prog 18 #[.int .i64 n] w fun e w' => e = .returned (.int .i64 (plF n)) ∧ Below w.heap.size w w' := by
  go_enter Try.func18, Try.ntmps18
  go_wp2_with (go_at_call 24; refine (countOfPiles_any n _).mono ?_; rintro e w1 ⟨rfl, hb⟩)
  go_ret
  exact ⟨rfl, hb⟩
end Go.Proofs.Ytgdkifpjcjegpaa
