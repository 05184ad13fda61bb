/-
  Walks: withOnce of the program, SignedDistinct of the model and of the program.
-/
import Derived.Test.YtmdalnkjpbjcdaaC3
import Derived.Test.YtmdalnkjpbjcdaaM10
namespace Go.Proofs.Ytmdalnkjpbjcdaa
open Go.RowKit NP
set_option linter.unusedVariables false

theorem withOnce_any (D : List Int) (hD : D.length = 41) (p : Nat) (hp : 1 ≤ p) (hp40 : p ≤ 40) (sg : Int) (hsg : sg = 1 ∨ sg = -1) (hb : ∀ s, -1099511627776 ≤ D.getD s 0 ∧ D.getD s 0 ≤ 1099511627776) (w : World) :
    Calls Try.prog 44 #[.agg (arr D), .int .i64 p, .int .i64 sg] w fun e w' => e = .returned (.agg (arr (worow D p sg))) ∧ Below w.heap.size w w' := by
  have HD := Lib.hid hD
  have hi41 : (Try.prog.info? 33).map (·.size) = some (arr D).size := by rw [arr_size, hD]; exact T_info41
  have hsz0 : (arr D).size = (arr (List.replicate 41 0)).size := by rw [arr_size, arr_size, hD]; rfl
  have HB := Lib.hid hb
  have HSG := Lib.hid hsg
  clear hD hb hsg
  have hrange : (41 : Int) - (p : Int) = ((41 - p : Nat) : Int) := by omega
  have hba := (Blk.new w 33 (arr D)).alloc (.cells (arr (List.replicate 41 0)) 33)
  have hbr : Blk ((w.alloc (.cells (arr D) 33)).alloc (.cells (arr (List.replicate 41 0)) 33)) (w.heap.size + 1) 33 (arr (List.replicate 41 0)) := by
    have e := Blk.new (w.alloc (.cells (arr D) 33)) 33 (arr (List.replicate 41 0))
    rw [World.size_alloc] at e
    exact e
  have hbm : Blk (((w.alloc (.cells (arr D) 33)).alloc (.cells (arr (List.replicate 41 0)) 33)).alloc (.cells (arr (List.replicate 41 0)) 33)) (w.heap.size + 2) 33 (arr (List.replicate 41 0)) := by
    have e := Blk.new ((w.alloc (.cells (arr D) 33)).alloc (.cells (arr (List.replicate 41 0)) 33)) 33 (arr (List.replicate 41 0))
    rw [World.size_alloc, World.size_alloc] at e
    exact e
  go_enter Try.func44, Try.ntmps44
  go_wp2_with (first
    | (refine wpList_load_row rfl 33 (.tmp 3) rfl w.heap.size rfl 33 (arr D) (0, 0) _ hba Try.underlying33 rfl hi41 ?_)
    | (refine wpList_store_row rfl 33 (.tmp 7) (.tmp 9) rfl (w.heap.size + 2) rfl (arr D) rfl 33 _ hbm hi41 hsz0 (arr_one _) ?_))
  go_loopw [12] (fun i wr => ∃ l : Nat, l ≤ 41 - p ∧ i = .int .i64 l ∧ Below w.heap.size w wr ∧ Blk wr w.heap.size 33 (arr D) ∧ Blk wr (w.heap.size + 1) 33 (arr (List.replicate 41 0)) ∧ Blk wr (w.heap.size + 2) 33 (arr (womid D p sg l))) (fun i _ => 41 - (intOf i).toNat)
  case atStart =>
    refine ⟨0, Nat.zero_le _, rfl, below_setRow' ((((Below.refl _ _).alloc (Nat.le_refl _) _).alloc (by simp) _).alloc (by simp; omega) _) (by omega) _, ?_, ?_, ?_⟩
    · exact (hba.alloc _).rowOff (by omega)
    · exact (hbr.alloc _).rowOff (by omega)
    · rw [womid_zero HD.out]; exact hbm.row
  case round =>
    obtain ⟨l, hl, rfl, hbel, hb1, hb2, hb3⟩ := hrel
    by_cases hlt : l < 41 - p
    · have hlp : l + p < 41 := by omega
      have hl41 : l < 41 := by omega
      have b1 := HB.out (l + p)
      have b2 := HB.out l
      have HSET := Lib.hid (womid_set D p sg l hp hlp)
      have hc1 : wr.cell? ⟨w.heap.size, l, none⟩ = some (.int .i64 (D.getD l 0)) := by rw [hb1.cell l, arr_get _ l (by rw [HD.out]; exact hl41), getD_lt (by rw [HD.out]; exact hl41)]
      have hc2 : wr.cell? ⟨w.heap.size + 2, l + p, none⟩ = some (.int .i64 (D.getD (l + p) 0)) := by rw [hb3.cell (l + p), arr_get _ (l + p) (by rw [womid_len]; exact hlp), womid_hi D p sg l hlp]
      have hf2 : wr.frozen? ⟨w.heap.size + 2, l + p, none⟩ = false := hb3.free (l + p)
      have hl41' : (l : Int) < 41 := by omega
      obtain ⟨q, hq⟩ : ∃ q : Nat, q = l + p := ⟨_, rfl⟩
      rw [← hq] at hf2 b1
      have hc2' : wr.cell? ⟨w.heap.size + 2, q, none⟩ = some (.int .i64 (D.getD q 0)) := by rw [hq]; exact hc2
      have HSET' : Hid ((womid D p sg l).set q (D.getD q 0 + sg * D.getD l 0) = womid D p sg (l + 1)) := Lib.hid (by rw [hq]; exact HSET.out)
      clear hc2 HSET
      have hw : IntKind.i64.wrap ((l : Int) + (p : Int)) = (q : Int) := by rw [IntWalk.i64_in _ (by omega)]; omega
      have hq41 : (q : Int) < 41 := by omega
      have hq41' : q < 41 := by omega
      clear hq
      generalize D.getD q 0 = x at *
      generalize D.getD l 0 = y at *
      obtain ⟨pr, hpr0, HPR⟩ : ∃ pr : Int, (-1099511627776 ≤ pr ∧ pr ≤ 1099511627776) ∧ Hid (sg * y = pr) := by
        rcases HSG.out with h | h
        · exact ⟨y, b2, Lib.hid (by rw [h, Int.one_mul])⟩
        · exact ⟨-y, by omega, Lib.hid (by rw [h]; omega)⟩
      have hw2 : IntKind.i64.wrap (sg * y) = pr := by rw [HPR.out]; exact IntWalk.i64_in _ (by omega)
      have hw3 : IntKind.i64.wrap (x + pr) = x + pr := IntWalk.i64_in _ (by omega)
      rw [HPR.out] at HSET'
      go_wp2
      go_still_tail 12, (by kernel_rfl)
      change wpList _ _ _ _ _ wr.drew
      have hbel' : Below w.heap.size w wr.drew := hbel.trans ((Dr.n wr 1).below _)
      have hb1' : Blk wr.drew w.heap.size 33 (arr D) := hb1
      have hb2' : Blk wr.drew (w.heap.size + 1) 33 (arr (List.replicate 41 0)) := hb2
      have hb3' : Blk wr.drew (w.heap.size + 2) 33 (arr (womid D p sg l)) := hb3
      have hf3 : wr.drew.frozen? ⟨w.heap.size + 2, q, none⟩ = false := hf2
      have hc3 : wr.drew.cell? ⟨w.heap.size + 2, q, none⟩ = some (.int .i64 x) := hc2'
      generalize wr.drew = w2 at *
      clear hbel hb1 hb2 hb3
      go_wp2
      go_roundw
      case rel =>
        refine ⟨l + 1, by omega, by go_num, hbel'.setCell (by show w.heap.size ≤ w.heap.size + 2; omega) _, hb1'.off (by show w.heap.size ≠ w.heap.size + 2; omega) _, hb2'.off (by show w.heap.size + 1 ≠ w.heap.size + 2; omega) _, ?_⟩
        have e := hb3'.set q (.int .i64 (x + pr))
        rw [arr_set, HSET'.out] at e
        exact e
      case measure => simp [intOf]; omega
    · obtain rfl : l = 41 - p := by omega
      have HE := Lib.hid (womid_end D p sg (41 - p) (by omega))
      have hi2 : (Try.prog.info? 33).map (·.size) = some (arr (womid D p sg (41 - p))).size := by rw [arr_size, womid_len]; exact T_info41
      have hsz : (arr (womid D p sg (41 - p))).size = (arr (List.replicate 41 0)).size := by rw [arr_size, arr_size, womid_len]; rfl
      go_wp2_with (first | (refine wpList_load_row rfl 33 (.tmp 7) rfl (w.heap.size + 2) rfl 33 (arr (womid D p sg (41 - p))) (0, 0) _ hb3 Try.underlying33 rfl hi2 ?_) | (refine wpList_store_row rfl 33 (.tmp 6) (.tmp 28) rfl (w.heap.size + 1) rfl (arr (womid D p sg (41 - p))) rfl 33 _ hb2 hi2 hsz (arr_one _) ?_))
      refine bodyPost_ret (results_cell_row rfl _ _ (w.heap.size + 1) 33 (arr (womid D p sg (41 - p))) (0, 0) _ rfl hb2.row Try.underlying33 rfl hi2) rfl ?_
      exact ⟨by rw [HE.out], below_setRow' hbel (by omega) _⟩

theorem signFn_any (D : List Int) (hD : D.length = 41) (p : Nat) (hp : 1 ≤ p) (hp40 : p ≤ 40) (hb : ∀ s, -1099511627776 ≤ D.getD s 0 ∧ D.getD s 0 ≤ 1099511627776) (w : World) :
    Calls Try.prog 43 #[.agg (arr D), .int .i64 p] w fun e w' => e = .returned (.agg (arr (worow D p (-1)))) ∧ Below w.heap.size w w' := by
  have HD := Lib.hid hD
  have HB := Lib.hid hb
  have hi1 : (Try.prog.info? 33).map (·.size) = some (arr D).size := by rw [arr_size, hD]; exact T_info41
  have hi2 : (Try.prog.info? 33).map (·.size) = some (arr (worow D p (-1))).size := by rw [arr_size, worow_len]; exact T_info41
  have hsz : (arr (worow D p (-1))).size = (arr (List.replicate 41 0)).size := by rw [arr_size, arr_size, worow_len]; rfl
  have hb0 := (Blk.new w 33 (arr D)).alloc (.cells (arr (List.replicate 41 0)) 33)
  have hb1 := Blk.new (w.alloc (.cells (arr D) 33)) 33 (arr (List.replicate 41 0))
  rw [World.size_alloc] at hb1
  have hbel : Below w.heap.size w ((w.alloc (.cells (arr D) 33)).alloc (.cells (arr (List.replicate 41 0)) 33)) := ((Below.refl _ _).alloc (Nat.le_refl _) _).alloc (by simp) _
  clear hD hb
  go_enter Try.func43, Try.ntmps43
  go_wp2_with (first
    | (refine wpList_store_row rfl 33 (.tmp 4) (.tmp 7) rfl (w.heap.size + 1) rfl (arr (worow D p (-1))) rfl 33 _ hb3 hi2 hsz (arr_one _) ?_)
    | (go_at_call 44; refine (withOnce_any D HD.out p hp hp40 (-1) (.inr rfl) HB.out _).mono ?_; rintro e w1 ⟨rfl, hbw⟩; have hb3 := hb1.below hbw hb1.lt; have hbel2 := hbel.trans (hbw.mono hbel.size))
    | (refine wpList_load_row rfl 33 (.tmp 2) rfl w.heap.size rfl 33 (arr D) (0, 0) _ hb0 Try.underlying33 rfl hi1 ?_))
  refine bodyPost_ret (results_cell_row rfl _ _ (w.heap.size + 1) 33 (arr (worow D p (-1))) (0, 0) _ rfl hb3.row Try.underlying33 rfl hi2) rfl ?_
  exact ⟨rfl, below_setRow' hbel2 (by omega) _⟩

theorem iSignedDistinct_any (n : Int) (w : World) :
    Calls Try.prog 18 #[.int .i64 n] w fun e w' => e = .returned (.int .i64 (sdF n)) ∧ Below w.heap.size w w' := by
  by_cases h : 0 ≤ n ∧ n ≤ 40
  · have HF : Hid (sdF n = (srow n.toNat).getD n.toNat 0) := Lib.hid (by unfold sdF; rw [if_pos h])
    rw [HF.out]
    obtain ⟨k, rfl⟩ := Int.eq_ofNat_of_zero_le h.1
    have hk : k ≤ 40 := by omega
    have g1 : decide ((k : Int) < 0) = false := decide_eq_false (by omega)
    have g2 : decide (40 < (k : Int)) = false := decide_eq_false (by omega)
    rw [Int.toNat_natCast]
    clear h
    have H := Lib.hid (countsBy_any 43 (enters_of Try.func43 (by kernel_rfl) rfl) srow rfl srow_len k hk (fun j hj w1 => signFn_any (srow j) (srow_len j) (j + 1) (by omega) (by omega) (srow_bd40 j (by omega)) w1))
    have hix := fun w => T_index41 (srow k) k (by rw [srow_len]; omega) (by omega) w
    go_enter Try.func18, Try.ntmps18
    go_wp2_with (go_at_call 42; refine (H.out _).mono ?_; rintro e w1 ⟨rfl, hb⟩)
    go_ret
    exact ⟨ret_i64 (getD_lt (by rw [srow_len]; omega)).symm, hb⟩
  · have HF : Hid (sdF n = 0) := Lib.hid (by unfold sdF; rw [if_neg h])
    rw [HF.out]
    by_cases h1 : n < 0
    · have g1 : decide (n < 0) = true := decide_eq_true h1
      clear h h1
      go_enter Try.func18, Try.ntmps18
      go_wp2
      go_ret
      exact ⟨rfl, Below.refl _ _⟩
    · have g1 : decide (n < 0) = false := decide_eq_false h1
      have g2 : decide (40 < n) = true := decide_eq_true (by omega)
      clear h h1
      go_enter Try.func18, Try.ntmps18
      go_wp2
      go_ret
      exact ⟨rfl, Below.refl _ _⟩

theorem sSignedDistinct_any (n : Int) (w : World) :
    Calls Try.prog 25 #[.int .i64 n] w fun e w' => e = .returned (.int .i64 (sdF n)) ∧ Below w.heap.size w w' := by
  by_cases h : 0 ≤ n ∧ n ≤ 40
  · have HF : Hid (sdF n = (srow n.toNat).getD n.toNat 0) := Lib.hid (by unfold sdF; rw [if_pos h])
    rw [HF.out]
    obtain ⟨k, rfl⟩ := Int.eq_ofNat_of_zero_le h.1
    have hk : k ≤ 40 := by omega
    have E1 : Hid (inR (k : Int) 0 40 = true) := Lib.hid (by unfold inR; rw [decide_eq_true h.1, decide_eq_true h.2]; rfl)
    obtain ⟨h1, h2⟩ := h
    rw [Int.toNat_natCast]
    obtain ⟨i0, hi, hz0, hz1, hz2⟩ := (by exact ⟨_, rfl, rfl, rfl, rfl⟩ : ∃ i, Try.prog.info? 3 = some i ∧ i.zero = some (.int .i64 0) ∧ i.size = 1 ∧ i.bytes = 8)
    obtain ⟨N, hN⟩ : ∃ N : Nat, N = k + 1 := ⟨_, rfl⟩
    have hmk := run_make_ints 38 3 i0 Try.underlying38 hi hz0 hz1 hz2 N (by omega)
    have hk1 : (k : Int) + 1 = (N : Int) := by omega
    have hN0 : (0 : Int) < (N : Int) := by omega
    have hb0 := Blk.new w 3 (arr (List.replicate N 0))
    have hc0 : (w.alloc (.cells (arr (List.replicate N 0)) 3)).cell? ⟨w.heap.size, 0, none⟩ = some (.int .i64 0) := by rw [hb0.cell 0, arr_get _ 0 (by simp; omega)]; simp
    have hf0 : (w.alloc (.cells (arr (List.replicate N 0)) 3)).frozen? ⟨w.heap.size, 0, none⟩ = false := hb0.free 0
    have hb1 : Blk (w.alloc (.cells ((arr (List.replicate N 0)).setIfInBounds 0 (.int .i64 1)) 3)) w.heap.size 3 (arr (smid (srow 0) k 1 (k + 1))) := by
      have e := Blk.new w 3 ((arr (List.replicate N 0)).setIfInBounds 0 (.int .i64 1))
      rw [← smid_start k hk, ← arr_set, ← hN]
      exact e
    have HN := Lib.hid hN
    clear hN
    go_enter Try.func25, Try.ntmps25
    go_wp2_with (go_at_call 37; refine (inRange_any _ _ _ _).mono ?_; rintro e w1 ⟨rfl, rfl⟩; rw [E1.out])
    go_loopw [4] (fun i wr => ∃ d : Nat, d ≤ k ∧ i = .int .i64 ((d : Int) + 1) ∧ Below w.heap.size w wr ∧ Blk wr w.heap.size 3 (arr (smid (srow d) k (d + 1) (k + 1)))) (fun i _ => 50 - (intOf i).toNat)
    case atStart => exact ⟨0, Nat.zero_le _, rfl, (Below.refl _ _).alloc (Nat.le_refl _) _, hb1⟩
    case round =>
      obtain ⟨d, hd, rfl, hbel, hblk⟩ := hrel
      have hNk := HN.out
      by_cases hlt : d < k
      · have hlt' : (d : Int) + 1 ≤ (k : Int) := by omega
        clear hk1 hNk
        go_wp2
        go_loopw [5] (fun v wr => ∃ x : Nat, d ≤ x ∧ x ≤ k ∧ v = .int .i64 x ∧ Below w.heap.size w wr ∧ Blk wr w.heap.size 3 (arr (smid (srow d) k (d + 1) (x + 1)))) (fun v _ => (intOf v).toNat)
        case atStart => exact ⟨k, by omega, Nat.le_refl _, rfl, hbel, hblk⟩
        case round =>
          obtain ⟨x, hx1, hx2, rfl, hbel', hblk'⟩ := hrel
          have hNk := HN.out
          by_cases hgt : d < x
          · have hgt' : (d : Int) + 1 ≤ (x : Int) := by omega
            have hxN : x < (smid (srow d) k (d + 1) (x + 1)).length := by rw [smid_len]; omega
            obtain ⟨q, hq⟩ : ∃ q : Nat, q = x - (d + 1) := ⟨_, rfl⟩
            have hqN : q < (smid (srow d) k (d + 1) (x + 1)).length := by rw [smid_len]; omega
            have hc1 : wr.cell? ⟨w.heap.size, x, none⟩ = some (.int .i64 ((srow d).getD x 0)) := by rw [hblk'.cell x, arr_get _ x hxN, smid_get, if_neg (by omega)]
            have hc2 : wr.cell? ⟨w.heap.size, q, none⟩ = some (.int .i64 ((srow d).getD q 0)) := by rw [hblk'.cell q, arr_get _ q hqN, smid_get, if_neg (by omega)]
            have hf1 : wr.frozen? ⟨w.heap.size, x, none⟩ = false := hblk'.free x
            have HSET : Hid ((smid (srow d) k (d + 1) (x + 1)).set x ((srow d).getD x 0 - (srow d).getD q 0) = smid (srow d) k (d + 1) x) := Lib.hid (by rw [hq]; exact smid_set (srow d) k (d + 1) x (by omega) (by omega) hx2)
            have b1 := srow_bd40 d (by omega) x
            have b2 := srow_bd40 d (by omega) q
            have hw : IntKind.i64.wrap ((x : Int) - ((d : Int) + 1)) = (q : Int) := by rw [IntWalk.i64_in _ (by omega)]; omega
            have hxN' : (x : Int) < (N : Int) := by omega
            have hqN' : (q : Int) < (N : Int) := by omega
            clear hq hxN hqN hNk
            generalize (srow d).getD x 0 = y at *
            generalize (srow d).getD q 0 = z at *
            have hw2 : IntKind.i64.wrap (y - z) = y - z := IntWalk.i64_in _ (by omega)
            go_wp2
            go_still_tail 14, (by kernel_rfl)
            change wpList _ _ _ _ _ wr.drew
            have hbel2 : Below w.heap.size w wr.drew := hbel'.trans ((Dr.n wr 1).below _)
            have hb2 : Blk wr.drew w.heap.size 3 (arr (smid (srow d) k (d + 1) (x + 1))) := hblk'
            have hf3 : wr.drew.frozen? ⟨w.heap.size, x, none⟩ = false := hf1
            have hc3 : wr.drew.cell? ⟨w.heap.size, x, none⟩ = some (.int .i64 y) := hc1
            generalize wr.drew = w2 at *
            clear hbel' hblk'
            go_wp2
            go_roundw
            case rel =>
              have e := hb2.set x (.int .i64 (y - z))
              rw [arr_set, HSET.out] at e
              refine ⟨x - 1, by omega, by omega, by go_num, hbel2.setCell (by show w.heap.size ≤ w.heap.size; omega) _, ?_⟩
              rw [Nat.sub_add_cancel (by omega)]
              exact e
            case measure => simp [intOf]; omega
          · obtain rfl : x = d := by omega
            have hgt' : (x : Int) < (x : Int) + 1 := by omega
            have HNX := Lib.hid (smid_next (srow x) (srow_len x) k (x + 1) hk)
            clear hNk
            go_wp2
            go_roundw
            case rel => exact ⟨x + 1, by omega, by go_num, hbel', by rw [HNX.out] at hblk'; exact hblk'⟩
            case measure => simp [intOf]; omega
      · obtain rfl : d = k := by omega
        have hlt' : (d : Int) < (d : Int) + 1 := by omega
        have hdN : (d : Int) < (N : Int) := by omega
        have hc : wr.cell? ⟨w.heap.size, d, none⟩ = some (.int .i64 ((srow d).getD d 0)) := by rw [hblk.cell d, arr_get _ d (by rw [smid_len]; omega), smid_get, if_neg (by omega)]
        clear hk1 hNk
        go_wp2
        go_ret
        exact ⟨rfl, hbel⟩
  · have HF : Hid (sdF n = 0) := Lib.hid (by unfold sdF; rw [if_neg h])
    rw [HF.out]
    have H := Lib.hid (by omega : n < 0 ∨ 40 < n)
    clear h
    go_enter Try.func25, Try.ntmps25
    go_wp2_with (go_at_call 37; refine (rngNo _ _ _ _ H.out).mono ?_; rintro e w1 ⟨rfl, rfl⟩)
    go_ret
    exact ⟨rfl, Below.refl _ _⟩
end Go.Proofs.Ytmdalnkjpbjcdaa
