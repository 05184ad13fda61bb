/-
  Walks: withOnce of the program, SignedDistinct of the model and of the program. Walks: parts of a set, of the program and of the model. Walks: parts of a set, of the model. Walks of the program: what is counted, behind an interface: marked parts and piles. Plain mathematics: the model's table of piles; piles in boxes. Walks of the model: marked parts and piles counted.
-/
import Derived.Test.YtgkghebjaedjmaaZA1
import Derived.Test.YtgkghebjaedjmaaZA2
import Derived.Test.YtgkghebjaedjmaaZA3
import Derived.Test.YtgkghebjaedjmaaZA4
import Derived.Test.YtgkghebjaedjmaaZA5
import Derived.Test.YtgkghebjaedjmaaZA6
import Derived.Test.YtgkghebjaedjmaaZA7
import Derived.Test.YtgkghebjaedjmaaZA8
import Derived.Test.YtgkghebjaedjmaaZA9
import Derived.Test.YtgkghebjaedjmaaZA10
import Derived.Test.YtgkghebjaedjmaaZB1
import Derived.Deep.RegionWith
namespace Go.Proofs.Ytgkghebjaedjmaa
open Go.RowKit NP
set_option maxRecDepth 8000
set_option linter.unusedVariables false

theorem withOnce_any (D : List Int) (hD : D.length = 41) (p : Nat) (hp : 1 ≤ p) (hp40 : p ≤ 40) (sg : Int) (hsg : sg = 1 ∨ sg = -1) (hb : ∀ s, -1099511627776 ≤ D.getD s 0 ∧ D.getD s 0 ≤ 1099511627776) (w : World) :
    Calls Try.prog 97 #[.agg (arr D), .int .i64 p, .int .i64 sg] w fun e w' => e = .returned (.agg (arr (worow D p sg))) ∧ Below w.heap.size w w' := by
  have HD := Lib.hid hD
  have hi41 : (Try.prog.info? 102).map (·.size) = some (arr D).size := by rw [arr_size, hD]; exact T_info41
  have hsz0 : (arr D).size = (arr (List.replicate 41 0)).size := by rw [arr_size, arr_size, hD]; rfl
  have HB := Lib.hid hb
  have HSG := Lib.hid hsg
  clear hD hb hsg
  have hrange : (41 : Int) - (p : Int) = ((41 - p : Nat) : Int) := by omega
  have hba := (Blk.new w 102 (arr D)).alloc (.cells (arr (List.replicate 41 0)) 102)
  have hbr : Blk ((w.alloc (.cells (arr D) 102)).alloc (.cells (arr (List.replicate 41 0)) 102)) (w.heap.size + 1) 102 (arr (List.replicate 41 0)) := by
    have e := Blk.new (w.alloc (.cells (arr D) 102)) 102 (arr (List.replicate 41 0))
    rw [World.size_alloc] at e
    exact e
  have hbm : Blk (((w.alloc (.cells (arr D) 102)).alloc (.cells (arr (List.replicate 41 0)) 102)).alloc (.cells (arr (List.replicate 41 0)) 102)) (w.heap.size + 2) 102 (arr (List.replicate 41 0)) := by
    have e := Blk.new ((w.alloc (.cells (arr D) 102)).alloc (.cells (arr (List.replicate 41 0)) 102)) 102 (arr (List.replicate 41 0))
    rw [World.size_alloc, World.size_alloc] at e
    exact e
  go_enter Try.func97, Try.ntmps97
  go_wp2_with (first
    | (refine wpList_load_row rfl 102 (.tmp 3) rfl w.heap.size rfl 102 (arr D) (0, 0) _ hba Try.underlying102 rfl hi41 ?_)
    | (refine wpList_store_row rfl 102 (.tmp 7) (.tmp 9) rfl (w.heap.size + 2) rfl (arr D) rfl 102 _ hbm hi41 hsz0 (arr_one _) ?_))
  go_loopw [12] (fun i wr => ∃ l : Nat, l ≤ 41 - p ∧ i = .int .i64 l ∧ Below w.heap.size w wr ∧ Blk wr w.heap.size 102 (arr D) ∧ Blk wr (w.heap.size + 1) 102 (arr (List.replicate 41 0)) ∧ Blk wr (w.heap.size + 2) 102 (arr (womid D p sg l))) (fun i _ => 41 - (intOf i).toNat)
  case atStart =>
    refine ⟨0, Nat.zero_le _, rfl, below_setRow' ((((Below.refl _ _).alloc (Nat.le_refl _) _).alloc (by simp) _).alloc (by simp; omega) _) (by omega) _, ?_, ?_, ?_⟩
    · exact (hba.alloc _).rowOff (by omega)
    · exact (hbr.alloc _).rowOff (by omega)
    · rw [womid_zero HD.out]; exact hbm.row
  case round =>
    obtain ⟨l, hl, rfl, hbel, hb1, hb2, hb3⟩ := hrel
    by_cases hlt : l < 41 - p
    · have hlp : l + p < 41 := by omega
      have hl41 : l < 41 := by omega
      have b1 := HB.out (l + p)
      have b2 := HB.out l
      have HSET := Lib.hid (womid_set D p sg l hp hlp)
      have hc1 : wr.cell? ⟨w.heap.size, l, none⟩ = some (.int .i64 (D.getD l 0)) := by rw [hb1.cell l, arr_get _ l (by rw [HD.out]; exact hl41), getD_lt (by rw [HD.out]; exact hl41)]
      have hc2 : wr.cell? ⟨w.heap.size + 2, l + p, none⟩ = some (.int .i64 (D.getD (l + p) 0)) := by rw [hb3.cell (l + p), arr_get _ (l + p) (by rw [womid_len]; exact hlp), womid_hi D p sg l hlp]
      have hf2 : wr.frozen? ⟨w.heap.size + 2, l + p, none⟩ = false := hb3.free (l + p)
      have hl41' : (l : Int) < 41 := by omega
      obtain ⟨q, hq⟩ : ∃ q : Nat, q = l + p := ⟨_, rfl⟩
      rw [← hq] at hf2 b1
      have hc2' : wr.cell? ⟨w.heap.size + 2, q, none⟩ = some (.int .i64 (D.getD q 0)) := by rw [hq]; exact hc2
      have HSET' : Hid ((womid D p sg l).set q (D.getD q 0 + sg * D.getD l 0) = womid D p sg (l + 1)) := Lib.hid (by rw [hq]; exact HSET.out)
      clear hc2 HSET
      have hw : IntKind.i64.wrap ((l : Int) + (p : Int)) = (q : Int) := by rw [IntWalk.i64_in _ (by omega)]; omega
      have hq41 : (q : Int) < 41 := by omega
      have hq41' : q < 41 := by omega
      clear hq
      generalize D.getD q 0 = x at *
      generalize D.getD l 0 = y at *
      obtain ⟨pr, hpr0, HPR⟩ : ∃ pr : Int, (-1099511627776 ≤ pr ∧ pr ≤ 1099511627776) ∧ Hid (sg * y = pr) := by
        rcases HSG.out with h | h
        · exact ⟨y, b2, Lib.hid (by rw [h, Int.one_mul])⟩
        · exact ⟨-y, by omega, Lib.hid (by rw [h]; omega)⟩
      have hw2 : IntKind.i64.wrap (sg * y) = pr := by rw [HPR.out]; exact IntWalk.i64_in _ (by omega)
      have hw3 : IntKind.i64.wrap (x + pr) = x + pr := IntWalk.i64_in _ (by omega)
      rw [HPR.out] at HSET'
      go_wp2
      go_still_tail 12, (by kernel_rfl)
      change wpList _ _ _ _ _ wr.drew
      have hbel' : Below w.heap.size w wr.drew := hbel.trans ((Dr.n wr 1).below _)
      have hb1' : Blk wr.drew w.heap.size 102 (arr D) := hb1
      have hb2' : Blk wr.drew (w.heap.size + 1) 102 (arr (List.replicate 41 0)) := hb2
      have hb3' : Blk wr.drew (w.heap.size + 2) 102 (arr (womid D p sg l)) := hb3
      have hf3 : wr.drew.frozen? ⟨w.heap.size + 2, q, none⟩ = false := hf2
      have hc3 : wr.drew.cell? ⟨w.heap.size + 2, q, none⟩ = some (.int .i64 x) := hc2'
      generalize wr.drew = w2 at *
      clear hbel hb1 hb2 hb3
      go_wp2
      go_roundw
      case rel =>
        refine ⟨l + 1, by omega, by go_num, hbel'.setCell (by show w.heap.size ≤ w.heap.size + 2; omega) _, hb1'.off (by show w.heap.size ≠ w.heap.size + 2; omega) _, hb2'.off (by show w.heap.size + 1 ≠ w.heap.size + 2; omega) _, ?_⟩
        have e := hb3'.set q (.int .i64 (x + pr))
        rw [arr_set, HSET'.out] at e
        exact e
      case measure => simp [intOf]; omega
    · obtain rfl : l = 41 - p := by omega
      have HE := Lib.hid (womid_end D p sg (41 - p) (by omega))
      have hi2 : (Try.prog.info? 102).map (·.size) = some (arr (womid D p sg (41 - p))).size := by rw [arr_size, womid_len]; exact T_info41
      have hsz : (arr (womid D p sg (41 - p))).size = (arr (List.replicate 41 0)).size := by rw [arr_size, arr_size, womid_len]; rfl
      go_wp2_with (first | (refine wpList_load_row rfl 102 (.tmp 7) rfl (w.heap.size + 2) rfl 102 (arr (womid D p sg (41 - p))) (0, 0) _ hb3 Try.underlying102 rfl hi2 ?_) | (refine wpList_store_row rfl 102 (.tmp 6) (.tmp 28) rfl (w.heap.size + 1) rfl (arr (womid D p sg (41 - p))) rfl 102 _ hb2 hi2 hsz (arr_one _) ?_))
      refine bodyPost_ret (results_cell_row rfl _ _ (w.heap.size + 1) 102 (arr (womid D p sg (41 - p))) (0, 0) _ rfl hb2.row Try.underlying102 rfl hi2) rfl ?_
      exact ⟨by rw [HE.out], below_setRow' hbel (by omega) _⟩



end Go.Proofs.Ytgkghebjaedjmaa
namespace Go.Proofs.Ytgkghebjaedjmaa
open Go.RowKit NP
set_option maxRecDepth 8000
set_option linter.unusedVariables false

theorem stB_mk {S : List Int} {k : Nat} (hk : k < S.length) (HP : ∀ j, j < k → (1 ≤ S.getD j 0 ∧ S.getD j 0 ≤ 40 ∧ (0 < j → S.getD (j - 1) 0 < S.getD j 0))) (h1 : 1 ≤ S[k]) (h2 : S[k] ≤ 40) (h3 : 0 < k → S.getD (k - 1) 0 < S[k]) :
    ∀ j, j < k + 1 → (1 ≤ S.getD j 0 ∧ S.getD j 0 ≤ 40 ∧ (0 < j → S.getD (j - 1) 0 < S.getD j 0)) := fun j hj => by
  rcases Nat.lt_or_ge j k with h | h
  · exact HP j h
  · obtain rfl : j = k := by omega
    rw [getD_lt hk]
    exact ⟨h1, h2, h3⟩






end Go.Proofs.Ytgkghebjaedjmaa
namespace Go.Proofs.Ytgkghebjaedjmaa
open Go.RowKit NP
set_option maxRecDepth 8000
set_option linter.unusedVariables false




end Go.Proofs.Ytgkghebjaedjmaa
namespace Go.Proofs.Ytgkghebjaedjmaa
open Go.RowKit NP
set_option maxRecDepth 8000
set_option linter.unusedVariables false
set_option linter.unusedSimpArgs false

theorem withMarked_any (j : Nat) (hj : j < 40) (w : World) :
    Calls Try.prog 80 #[.agg (arr (mkrow j)), .int .i64 ((j : Int) + 1)] w fun e w' => e = .returned (.agg (arr (mkrow (j + 1)))) ∧ Below w.heap.size w w' := by
  have hi1 : (Try.prog.info? 102).map (·.size) = some (arr (mkrow j)).size := by rw [arr_size, mkrow_len]; exact T_info41
  have hi2 : (Try.prog.info? 102).map (·.size) = some (arr (mkrow (j + 1))).size := by rw [arr_size, mkrow_len]; exact T_info41
  have hsz : (arr (mkrow (j + 1))).size = (arr (List.replicate 41 0)).size := by rw [arr_size, arr_size, mkrow_len]; rfl
  have hb0 := (Blk.new w 102 (arr (mkrow j))).alloc (.cells (arr (List.replicate 41 0)) 102)
  have hb1 := Blk.new (w.alloc (.cells (arr (mkrow j)) 102)) 102 (arr (List.replicate 41 0))
  rw [World.size_alloc] at hb1
  have hbel : Below w.heap.size w ((w.alloc (.cells (arr (mkrow j)) 102)).alloc (.cells (arr (List.replicate 41 0)) 102)) := ((Below.refl _ _).alloc (Nat.le_refl _) _).alloc (by simp) _
  have H1 := Lib.hid (fun w => withMany_any (mkrow j) (mkrow_len j) (j + 1) (by omega) (by omega) (mkrow_bd (by omega)) w)
  have H2 := Lib.hid (fun w => withOnce_any (wrow (mkrow j) (j + 1)) (wrow_len _ _) (j + 1) (by omega) (by omega) 1 (.inl rfl) (wmk_bd (by omega)) w)
  go_enter Try.func80, Try.ntmps80
  go_wp2_with (first
    | (refine wpList_store_row rfl 102 (.tmp 4) (.tmp 9) rfl (w.heap.size + 1) rfl (arr (mkrow (j + 1))) rfl 102 _ hb3 hi2 hsz (arr_one _) ?_)
    | (go_at_call 97; refine (H2.out _).mono ?_; rintro e w2 ⟨rfl, hbx⟩; have hb3 := hb2.below hbx hb2.lt; have hbel3 := hbel2.trans (hbx.mono hbel2.size))
    | (go_at_call 96; refine (H1.out _).mono ?_; rintro e w1 ⟨rfl, hbw⟩; have hb2 := hb1.below hbw hb1.lt; have hbel2 := hbel.trans (hbw.mono hbel.size))
    | (refine wpList_load_row rfl 102 (.tmp 2) rfl w.heap.size rfl 102 (arr (mkrow j)) (0, 0) _ hb0 Try.underlying102 rfl hi1 ?_))
  refine bodyPost_ret (results_cell_row rfl _ _ (w.heap.size + 1) 102 (arr (mkrow (j + 1))) (0, 0) _ rfl hb3.row Try.underlying102 rfl hi2) rfl ?_
  exact ⟨rfl, below_setRow' hbel3 (by omega) _⟩

theorem withColors_any (j : Nat) (hj : j < 16) (w : World) :
    Calls Try.prog 81 #[.agg (arr (plrow j)), .int .i64 ((j : Int) + 1)] w fun e w' => e = .returned (.agg (arr (plrow (j + 1)))) ∧ Below w.heap.size w w' := by
  have hlen : ∀ i, (wpow (plrow j) (j + 1) i).length = 41 := fun i => wpow_len (plrow_len j) _ _
  have hi : ∀ i, (Try.prog.info? 102).map (·.size) = some (arr (wpow (plrow j) (j + 1) i)).size := fun i => by rw [arr_size, hlen]; exact T_info41
  have hsz : ∀ i k, (arr (wpow (plrow j) (j + 1) i)).size = (arr (wpow (plrow j) (j + 1) k)).size := fun i k => by rw [arr_size, arr_size, hlen, hlen]
  have hsz0 : (arr (wpow (plrow j) (j + 1) (j + 1))).size = (arr (List.replicate 41 0)).size := by rw [arr_size, arr_size, hlen]; rfl
  have hb0 : Blk ((w.alloc (.cells (arr (plrow j)) 102)).alloc (.cells (arr (List.replicate 41 0)) 102)) w.heap.size 102 (arr (wpow (plrow j) (j + 1) 0)) := (Blk.new w 102 (arr (plrow j))).alloc (.cells (arr (List.replicate 41 0)) 102)
  have hb1 := Blk.new (w.alloc (.cells (arr (plrow j)) 102)) 102 (arr (List.replicate 41 0))
  rw [World.size_alloc] at hb1
  have hbel : Below w.heap.size w ((w.alloc (.cells (arr (plrow j)) 102)).alloc (.cells (arr (List.replicate 41 0)) 102)) := ((Below.refl _ _).alloc (Nat.le_refl _) _).alloc (by simp) _
  have HL := Lib.hid hlen
  have HI := Lib.hid hi
  have HZ := Lib.hid hsz
  clear hlen hi hsz
  go_enter Try.func81, Try.ntmps81
  go_wp2_with fail
  go_loopw [6] (fun i wr => ∃ k : Nat, k ≤ j + 1 ∧ i = .int .i64 k ∧ Below w.heap.size w wr ∧ Blk wr (w.heap.size + 1) 102 (arr (List.replicate 41 0)) ∧ Blk wr w.heap.size 102 (arr (wpow (plrow j) (j + 1) k))) (fun i _ => 50 - (intOf i).toNat)
  case atStart => exact ⟨0, Nat.zero_le _, rfl, hbel, hb1, hb0⟩
  case round =>
    clear hb0 hb1 hbel
    obtain ⟨k, hk, rfl, hbel, hb1, hb0⟩ := hrel
    have hik := HI.out k
    by_cases hlt : k < j + 1
    · have hlt' : (k : Int) < (j : Int) + 1 := by omega
      have hik1 := HI.out (k + 1)
      have hsz := HZ.out (k + 1) k
      have H1 := Lib.hid (fun w => withMany_any (wpow (plrow j) (j + 1) k) (HL.out k) (j + 1) (by omega) (by omega) (wpow_bd hj hlt) w)
      have HW : Hid (wrow (wpow (plrow j) (j + 1) k) (j + 1) = wpow (plrow j) (j + 1) (k + 1)) := Lib.hid rfl
      rw [HW.out] at H1
      go_wp2_with (first
        | (refine wpList_load_row rfl 102 (.tmp 2) rfl w.heap.size rfl 102 (arr (wpow (plrow j) (j + 1) k)) (0, 0) _ hb0 Try.underlying102 rfl hik ?_)
        | (go_at_call 96; refine (H1.out _).mono ?_; rintro e w1 ⟨rfl, hbw⟩; have hb0' := hb0.below hbw hb0.lt; have hb1' := hb1.below hbw hb1.lt; have hbel' := hbel.trans (hbw.mono hbel.size))
        | (refine wpList_store_row rfl 102 (.tmp 2) (.tmp 10) rfl w.heap.size rfl (arr (wpow (plrow j) (j + 1) (k + 1))) rfl 102 _ hb0' hik1 hsz (arr_one _) ?_))
      go_roundw
      case rel => exact ⟨k + 1, by omega, by go_num, below_setRow' hbel' (Nat.le_refl _) _, hb1'.rowOff (by omega), hb0'.row⟩
      case measure => simp [intOf]; omega
    · obtain rfl : k = j + 1 := by omega
      have hlt' : (j : Int) + 1 ≤ (j : Int) + 1 := by omega
      go_wp2_with (first
        | (refine wpList_load_row rfl 102 (.tmp 2) rfl w.heap.size rfl 102 (arr (wpow (plrow j) (j + 1) (j + 1))) (0, 0) _ hb0 Try.underlying102 rfl hik ?_)
        | (refine wpList_store_row rfl 102 (.tmp 4) (.tmp 12) rfl (w.heap.size + 1) rfl (arr (wpow (plrow j) (j + 1) (j + 1))) rfl 102 _ hb1 hik hsz0 (arr_one _) ?_))
      refine bodyPost_ret (results_cell_row rfl _ _ (w.heap.size + 1) 102 (arr (wpow (plrow j) (j + 1) (j + 1))) (0, 0) _ rfl hb1.row Try.underlying102 rfl hik) rfl ?_
      exact ⟨rfl, below_setRow' hbel (by omega) _⟩

theorem mkIn_any (n : Int) (w : World) : Calls Try.prog 125 #[.int .i64 n] w fun e w' => e = .returned (.bool (decide (0 ≤ n ∧ n ≤ 40))) ∧ w = w' := by
  by_cases h1 : 0 ≤ n
  · by_cases h2 : n ≤ 40
    · have HF := Lib.hid (decide_eq_true (And.intro h1 h2))
      rw [HF.out]
      have d1 : decide (0 ≤ n) = true := decide_eq_true h1
      have d2 : decide (n ≤ 40) = true := decide_eq_true h2
      go_enter Try.func125, Try.ntmps125
      go_wp2
      go_ret
      exact ⟨rfl, rfl⟩
    · have HF : Hid (decide (0 ≤ n ∧ n ≤ 40) = false) := Lib.hid (decide_eq_false (by omega))
      rw [HF.out]
      have d1 : decide (0 ≤ n) = true := decide_eq_true h1
      have d2 : decide (n ≤ 40) = false := decide_eq_false h2
      go_enter Try.func125, Try.ntmps125
      go_wp2
      go_ret
      exact ⟨rfl, rfl⟩
  · have HF : Hid (decide (0 ≤ n ∧ n ≤ 40) = false) := Lib.hid (decide_eq_false (by omega))
    rw [HF.out]
    have d1 : decide (0 ≤ n) = false := decide_eq_false h1
    go_enter Try.func125, Try.ntmps125
    go_wp2
    go_ret
    exact ⟨rfl, rfl⟩
theorem plIn_any (n : Int) (w : World) : Calls Try.prog 126 #[.int .i64 n] w fun e w' => e = .returned (.bool (decide (0 ≤ n ∧ n ≤ 16))) ∧ w = w' := by
  by_cases h1 : 0 ≤ n
  · by_cases h2 : n ≤ 16
    · have HF := Lib.hid (decide_eq_true (And.intro h1 h2))
      rw [HF.out]
      have d1 : decide (0 ≤ n) = true := decide_eq_true h1
      have d2 : decide (n ≤ 16) = true := decide_eq_true h2
      go_enter Try.func126, Try.ntmps126
      go_wp2
      go_ret
      exact ⟨rfl, rfl⟩
    · have HF : Hid (decide (0 ≤ n ∧ n ≤ 16) = false) := Lib.hid (decide_eq_false (by omega))
      rw [HF.out]
      have d1 : decide (0 ≤ n) = true := decide_eq_true h1
      have d2 : decide (n ≤ 16) = false := decide_eq_false h2
      go_enter Try.func126, Try.ntmps126
      go_wp2
      go_ret
      exact ⟨rfl, rfl⟩
  · have HF : Hid (decide (0 ≤ n ∧ n ≤ 16) = false) := Lib.hid (decide_eq_false (by omega))
    rw [HF.out]
    have d1 : decide (0 ≤ n) = false := decide_eq_false h1
    go_enter Try.func126, Try.ntmps126
    go_wp2
    go_ret
    exact ⟨rfl, rfl⟩

theorem ta_marked (v : Value) (w : World) : (Instr.typeAssert (.iface 72 v) 99 72 true).run Try.prog w = .ok (.tuple #[v, .bool true]) w := by kernel_rfl
theorem countOfMarked_any (n : Int) (w : World) : Calls Try.prog 53 #[.iface 72 (.int .i64 n)] w fun e w' => e = .returned (.int .i64 (mkF n)) ∧ Below w.heap.size w w' := by
  by_cases h : 0 ≤ n ∧ n ≤ 40
  · have HF : Hid (mkF n = (mkrow n.toNat).getD n.toNat 0) := Lib.hid (by unfold mkF; rw [if_pos h])
    rw [HF.out]
    have hd : decide (0 ≤ n ∧ n ≤ 40) = true := decide_eq_true h
    obtain ⟨k, rfl⟩ := Int.eq_ofNat_of_zero_le h.1
    have hk : k ≤ 40 := by omega
    rw [Int.toNat_natCast]
    have HIN := Lib.hid (fun w => mkIn_any (k : Int) w)
    rw [hd] at HIN
    clear h hd
    have H := Lib.hid (countsBy_any 80 (enters_of Try.func80 (by kernel_rfl) rfl) mkrow rfl mkrow_len k hk (fun j hj w1 => withMarked_any j (by omega) w1))
    have hix := fun w => T_index41 (mkrow k) k (by rw [mkrow_len]; omega) (by omega) w
    have hta := ta_marked
    go_enter Try.func53, Try.ntmps53
    go_wp2_with (first
      | (go_at_call 79; refine (H.out _).mono ?_; rintro e w1 ⟨rfl, hb⟩)
      | (go_at_call 125; refine (HIN.out _).mono ?_; rintro e w1 ⟨rfl, rfl⟩))
    go_ret
    exact ⟨ret_i64 (getD_lt (by rw [mkrow_len]; omega)).symm, hb⟩
  · have HF : Hid (mkF n = -1) := Lib.hid (by unfold mkF; rw [if_neg h])
    rw [HF.out]
    have hd : decide (0 ≤ n ∧ n ≤ 40) = false := decide_eq_false h
    have HIN := Lib.hid (fun w => mkIn_any n w)
    rw [hd] at HIN
    clear h hd
    go_enter Try.func53, Try.ntmps53
    go_wp2_with (go_at_call 125; refine (HIN.out _).mono ?_; rintro e w1 ⟨rfl, rfl⟩)
    go_ret
    exact ⟨rfl, Below.refl _ _⟩
theorem iCountMarked_any (n : Int) (w : World) : Calls Try.prog 19 #[.int .i64 n] w fun e w' => e = .returned (.int .i64 (mkF n)) ∧ Below w.heap.size w w' := by
  go_enter Try.func19, Try.ntmps19
  go_wp2_with (go_at_call 53; refine (countOfMarked_any n _).mono ?_; rintro e w1 ⟨rfl, hb⟩)
  go_ret
  exact ⟨rfl, hb⟩
theorem ta_pile (v : Value) (w : World) : (Instr.typeAssert (.iface 83 v) 99 83 true).run Try.prog w = .ok (.tuple #[v, .bool true]) w := by kernel_rfl
theorem ta_pile_no (v : Value) (w : World) : (Instr.typeAssert (.iface 83 v) 99 72 true).run Try.prog w = .ok (.tuple #[.int .i64 0, .bool false]) w := by kernel_rfl
theorem countOfPiles_any (n : Int) (w : World) : Calls Try.prog 53 #[.iface 83 (.int .i64 n)] w fun e w' => e = .returned (.int .i64 (plF n)) ∧ Below w.heap.size w w' := by
  by_cases h : 0 ≤ n ∧ n ≤ 16
  · have HF : Hid (plF n = (plrow n.toNat).getD n.toNat 0) := Lib.hid (by unfold plF; rw [if_pos h])
    rw [HF.out]
    have hd : decide (0 ≤ n ∧ n ≤ 16) = true := decide_eq_true h
    obtain ⟨k, rfl⟩ := Int.eq_ofNat_of_zero_le h.1
    have hk : k ≤ 16 := by omega
    rw [Int.toNat_natCast]
    have HIN := Lib.hid (fun w => plIn_any (k : Int) w)
    rw [hd] at HIN
    clear h hd
    have H := Lib.hid (countsBy_any 81 (enters_of Try.func81 (by kernel_rfl) rfl) plrow rfl plrow_len k (by omega) (fun j hj w1 => withColors_any j (by omega) w1))
    have hix := fun w => T_index41 (plrow k) k (by rw [plrow_len]; omega) (by omega) w
    have hta := ta_pile
    have htb := ta_pile_no
    go_enter Try.func53, Try.ntmps53
    go_wp2_with (first
      | (go_at_call 79; refine (H.out _).mono ?_; rintro e w1 ⟨rfl, hb⟩)
      | (go_at_call 126; refine (HIN.out _).mono ?_; rintro e w1 ⟨rfl, rfl⟩))
    go_ret
    exact ⟨ret_i64 (getD_lt (by rw [plrow_len]; omega)).symm, hb⟩
  · have HF : Hid (plF n = -1) := Lib.hid (by unfold plF; rw [if_neg h])
    rw [HF.out]
    have hd : decide (0 ≤ n ∧ n ≤ 16) = false := decide_eq_false h
    have HIN := Lib.hid (fun w => plIn_any n w)
    rw [hd] at HIN
    clear h hd
    go_enter Try.func53, Try.ntmps53
    go_wp2_with (go_at_call 126; refine (HIN.out _).mono ?_; rintro e w1 ⟨rfl, rfl⟩)
    go_ret
    exact ⟨rfl, Below.refl _ _⟩
theorem iCountPiles_any (n : Int) (w : World) : Calls Try.prog 29 #[.int .i64 n] w fun e w' => e = .returned (.int .i64 (plF n)) ∧ Below w.heap.size w w' := by
  go_enter Try.func29, Try.ntmps29
  go_wp2_with (go_at_call 53; refine (countOfPiles_any n _).mono ?_; rintro e w1 ⟨rfl, hb⟩)
  go_ret
  exact ⟨rfl, hb⟩
end Go.Proofs.Ytgkghebjaedjmaa
namespace Go.Proofs.Ytgkghebjaedjmaa
namespace NP
set_option linter.unusedVariables false
/-- the squares of the divisors up to k -/
def dsq (n : Int) : Nat → Int
  | 0 => 0
  | k + 1 => dsq n k + (if n % ((k : Int) + 1) = 0 then ((k : Int) + 1) * ((k : Int) + 1) else 0)
def pts (T : List Int) (m : Nat) : Nat → Int
  | 0 => 0
  | k + 1 => pts T m k + dsq ((k : Int) + 1) (k + 1) * T.getD (m - (k + 1)) 0
def pltab : Nat → List Int
  | 0 => [1]
  | m + 1 => pltab m ++ [pts (pltab m) (m + 1) (m + 1) / ((m : Int) + 1)]
theorem pltab_len (m : Nat) : (pltab m).length = m + 1 := by
  induction m with
  | zero => rfl
  | succ m ih => show (pltab m ++ [_]).length = _; rw [List.length_append, ih]; rfl
def ptOk (T : List Int) (m : Nat) : Bool := (List.range (m + 2)).all fun k => decide (0 ≤ pts T (m + 1) k) && decide (pts T (m + 1) k ≤ 1099511627776) && decide (0 ≤ dsq ((k : Int) + 1) (k + 1) * T.getD (m + 1 - (k + 1)) 0) && decide (dsq ((k : Int) + 1) (k + 1) * T.getD (m + 1 - (k + 1)) 0 ≤ 1099511627776) && decide (0 ≤ T.getD (m + 1 - (k + 1)) 0) && decide (T.getD (m + 1 - (k + 1)) 0 ≤ 1099511627776)
def ptChk : Nat → Nat → List Int → List Int → Bool
  | 0, _, _, _ => true
  | f + 1, j, T, P => decide (T.getD j 0 = P.getD j 0) && ptOk T j && ptChk f (j + 1) (T ++ [pts T (j + 1) (j + 1) / ((j : Int) + 1)]) (wpEnd (j + 1) (j + 1) P)
theorem ptChk_at : ∀ (f j : Nat), ptChk f j (pltab j) (plrow j) = true → ∀ i, i < f → (pltab (j + i)).getD (j + i) 0 = (plrow (j + i)).getD (j + i) 0 ∧ ptOk (pltab (j + i)) (j + i) = true := by
  intro f
  induction f with
  | zero => intro j _ i hi; omega
  | succ f ih =>
    intro j h i hi
    unfold ptChk at h
    simp only [Bool.and_eq_true, decide_eq_true_eq] at h
    obtain ⟨⟨h1, h2⟩, h3⟩ := h
    have e0 : wpEnd (j + 1) (j + 1) (plrow j) = plrow (j + 1) := by
      have := wpEnd_eq (p := j + 1) (by omega) (j + 1) 0 (plrow j)
      rw [Nat.zero_add] at this
      exact this
    rw [e0] at h3
    cases i with
    | zero => exact ⟨h1, h2⟩
    | succ i =>
      have := ih (j + 1) h3 i (by omega)
      have e : j + (i + 1) = j + 1 + i := by omega
      rw [e]
      exact this
set_option maxRecDepth 100000 in
theorem ptChk_all : ptChk 17 0 (pltab 0) (plrow 0) = true := by decide +kernel
theorem pt_eq {n : Nat} (h : n ≤ 16) : (pltab n).getD n 0 = (plrow n).getD n 0 := by
  have := (ptChk_at 17 0 ptChk_all n (by omega)).1
  simpa using this
theorem pt_bd {m k : Nat} (h : m < 16) (hk : k ≤ m + 1) : (0 ≤ pts (pltab m) (m + 1) k ∧ pts (pltab m) (m + 1) k ≤ 1099511627776) ∧ (0 ≤ dsq ((k : Int) + 1) (k + 1) * (pltab m).getD (m + 1 - (k + 1)) 0 ∧ dsq ((k : Int) + 1) (k + 1) * (pltab m).getD (m + 1 - (k + 1)) 0 ≤ 1099511627776) ∧ 0 ≤ (pltab m).getD (m + 1 - (k + 1)) 0 ∧ (pltab m).getD (m + 1 - (k + 1)) 0 ≤ 1099511627776 := by
  have h1 := (ptChk_at 17 0 ptChk_all m (by omega)).2
  rw [Nat.zero_add] at h1
  unfold ptOk at h1
  have h2 := List.all_eq_true.1 h1 k (by simp; omega)
  simp only [Bool.and_eq_true, decide_eq_true_eq] at h2
  obtain ⟨⟨⟨⟨⟨a, b⟩, c⟩, d⟩, e⟩, f⟩ := h2
  exact ⟨⟨a, b⟩, ⟨c, d⟩, e, f⟩
theorem pltab_at {m i : Nat} (h : i ≤ m) : (pltab m).getD i 0 = (pltab i).getD i 0 := by
  induction m with
  | zero => obtain rfl : i = 0 := by omega
            rfl
  | succ m ih =>
    rcases Nat.lt_or_ge i (m + 1) with h1 | h1
    · rw [← ih (by omega)]
      show (pltab m ++ [_]).getD i 0 = _
      rw [getD_lt (by rw [List.length_append, pltab_len]; simp; omega), getD_lt (by rw [pltab_len]; omega), List.getElem_append_left (by rw [pltab_len]; omega)]
    · obtain rfl : i = m + 1 := by omega
      rfl
theorem dsq_bd (n : Int) (k : Nat) (hk : k ≤ 40) : 0 ≤ dsq n k ∧ dsq n k ≤ 1600 * k := by
  induction k with
  | zero => exact ⟨Int.le_refl _, by simp [dsq]⟩
  | succ k ih =>
    have := ih (by omega)
    simp only [dsq]
    have h1 : ∀ j : Nat, j < 40 → 0 ≤ ((j : Int) + 1) * ((j : Int) + 1) ∧ ((j : Int) + 1) * ((j : Int) + 1) ≤ 1600 := by decide
    have h2 := h1 k (by omega)
    split <;> omega
/-- a number below 17 that divides: its square -/
theorem sq_small (k : Nat) (hk : k ≤ 40) : 0 ≤ (k : Int) * (k : Int) ∧ (k : Int) * (k : Int) ≤ 1600 := by
  have h1 : ∀ j : Nat, j < 41 → 0 ≤ (j : Int) * (j : Int) ∧ (j : Int) * (j : Int) ≤ 1600 := by decide
  exact h1 k (by omega)
/-- the product of the program, a row and all rows -/
def bpR (c i : Nat) (s : Int × Int) : Nat → Int × Int
  | 0 => s
  | k + 1 => ((bpR c i s k).1 * ((i : Int) + k + 1 + c), (bpR c i s k).2 * ((i : Int) + k + 1))
def bpA (b c : Nat) : Nat → Int × Int
  | 0 => (1, 1)
  | i + 1 => bpR c i (bpA b c i) b
def bpF (a b c : Int) : Int := if (0 ≤ a ∧ a ≤ 4) ∧ (0 ≤ b ∧ b ≤ 4) ∧ 0 ≤ c ∧ c ≤ 4 then (bpA b.toNat c.toNat a.toNat).1 / (bpA b.toNat c.toNat a.toNat).2 else -1
theorem bp_all : ∀ b, b < 5 → ∀ c, c < 5 → ∀ i, i < 4 → ∀ k, k < 5 → (1 ≤ (bpR c i (bpA b c i) k).1 ∧ (bpR c i (bpA b c i) k).1 ≤ 1152921504606846976) ∧ 1 ≤ (bpR c i (bpA b c i) k).2 ∧ (bpR c i (bpA b c i) k).2 ≤ 1152921504606846976 := by decide +kernel
/-- the product of the model: divided by what both have at each step -/
def smS (c i k : Nat) (s : Int × Int) : Int × Int :=
  let u := s.1 * (((i : Int) + 1) + ((k : Int) + 1) + c - 1)
  let d := s.2 * (((i : Int) + 1) + ((k : Int) + 1) - 1)
  let g := (Nat.gcd u.toNat d.toNat : Int)
  (u / g, d / g)
def smR (c i : Nat) (s : Int × Int) : Nat → Int × Int
  | 0 => s
  | k + 1 => smS c i k (smR c i s k)
def smA (b c : Nat) : Nat → Int × Int
  | 0 => (1, 1)
  | i + 1 => smR c i (smA b c i) b
theorem sm_all : ∀ b, b < 5 → ∀ c, c < 5 → ∀ i, i < 5 → ∀ k, k < 5 → (1 ≤ (smR c i (smA b c i) k).1 ∧ (smR c i (smA b c i) k).1 ≤ 1152921504606846) ∧ 1 ≤ (smR c i (smA b c i) k).2 ∧ (smR c i (smA b c i) k).2 ≤ 1152921504606846 := by decide +kernel
theorem sm_bp : ∀ b, b < 5 → ∀ c, c < 5 → ∀ a, a < 5 → (smA b c a).1 / (smA b c a).2 = (bpA b c a).1 / (bpA b c a).2 := by decide +kernel
theorem sm_step {b c i k : Nat} (hb : b < 5) (hc : c < 5) (hi : i < 5) (hk : k < 5) : let s := smR c i (smA b c i) k; (1 ≤ s.1 * (((i : Int) + 1) + ((k : Int) + 1) + c - 1) ∧ s.1 * (((i : Int) + 1) + ((k : Int) + 1) + c - 1) ≤ 1152921504606846976) ∧ 1 ≤ s.2 * (((i : Int) + 1) + ((k : Int) + 1) - 1) ∧ s.2 * (((i : Int) + 1) + ((k : Int) + 1) - 1) ≤ 1152921504606846976 := by
  have h := sm_all b hb c hc i hi k hk
  obtain ⟨⟨h1, h2⟩, h3, h4⟩ := h
  have a1 : (1 : Int) ≤ ((i : Int) + 1) + ((k : Int) + 1) + c - 1 := by omega
  have a2 : ((i : Int) + 1) + ((k : Int) + 1) + c - 1 ≤ 16 := by omega
  have a3 : (1 : Int) ≤ ((i : Int) + 1) + ((k : Int) + 1) - 1 := by omega
  have a4 : ((i : Int) + 1) + ((k : Int) + 1) - 1 ≤ 16 := by omega
  refine ⟨⟨?_, ?_⟩, ?_, ?_⟩
  · have := Int.mul_le_mul h1 a1 (by omega) (by omega); omega
  · have := Int.mul_le_mul h2 a2 (by omega) (by omega); omega
  · have := Int.mul_le_mul h3 a3 (by omega) (by omega); omega
  · have := Int.mul_le_mul h4 a4 (by omega) (by omega); omega
end NP
end Go.Proofs.Ytgkghebjaedjmaa
namespace Go.Proofs.Ytgkghebjaedjmaa
open Go.RowKit NP
set_option maxRecDepth 8000
set_option linter.unusedVariables false
set_option linter.unusedSimpArgs false
theorem rngYes2 (n lo hi : Int) (w : World) (h1 : lo ≤ n) (h2 : n ≤ hi) : Calls Try.prog 38 #[.int .i64 n, .int .i64 lo, .int .i64 hi] w fun e w' => e = .returned (.bool true) ∧ w = w' := (rngYes n lo hi w h1 h2).mono fun _ _ h => ⟨h.1, h.2.symm⟩
def lenOf : Value → Nat | .slice _ n _ => n | _ => 0
theorem upto_succ (n : Nat) : upto (n + 1) = upto n ++ [(n : Int) + 1] := by unfold upto; rw [List.range_succ, List.map_append]; rfl
end Go.Proofs.Ytgkghebjaedjmaa
