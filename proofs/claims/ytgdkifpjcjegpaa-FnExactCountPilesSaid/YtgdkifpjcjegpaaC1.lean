/-
  Walks: inRange, countTo of the model; withMany, countsUpTo of the program.
-/
import Derived.Test.YtgdkifpjcjegpaaProg
import Derived.Test.YtgdkifpjcjegpaaM8
import Derived.Test.YtgdkifpjcjegpaaBase
import Derived.Test.YtgdkifpjcjegpaaArr
import Derived.Deep.QuietTactic
import Derived.BigQuiet
import Derived.StillTailTactics
import Derived.IntWalk
import Derived.Lib.Hide
import Derived.Shelf.Abstract
namespace Go.Proofs.Ytgdkifpjcjegpaa
open Go.RowKit NP
set_option linter.unusedVariables false

theorem rngYes (n lo hi : Int) (w : World) (h1 : lo ≤ n) (h2 : n ≤ hi) : Calls Try.prog 22 #[.int .i64 n, .int .i64 lo, .int .i64 hi] w fun e w' => e = .returned (.bool true) ∧ w' = w := by
  go_enter Try.func22, Try.ntmps22
  go_wp2
  go_ret
  exact ⟨rfl, rfl⟩
theorem rngNo (n lo hi : Int) (w : World) (h : n < lo ∨ hi < n) : Calls Try.prog 22 #[.int .i64 n, .int .i64 lo, .int .i64 hi] w fun e w' => e = .returned (.bool false) ∧ w' = w := by
  by_cases h1 : lo ≤ n
  · have h2 : hi < n := by omega
    clear h
    go_enter Try.func22, Try.ntmps22
    go_wp2
    go_ret
    exact ⟨ret_bool (by simp; omega), rfl⟩
  · clear h
    go_enter Try.func22, Try.ntmps22
    go_wp2
    go_ret
    exact ⟨rfl, rfl⟩
def inR (n lo hi : Int) : Bool := decide (lo ≤ n) && decide (n ≤ hi)
theorem inRange_any (n lo hi : Int) (w : World) : Calls Try.prog 22 #[.int .i64 n, .int .i64 lo, .int .i64 hi] w fun e w' => e = .returned (.bool (inR n lo hi)) ∧ w = w' := by
  by_cases h : lo ≤ n ∧ n ≤ hi
  · refine (rngYes n lo hi w h.1 h.2).mono ?_
    rintro e w' ⟨rfl, rfl⟩
    exact ⟨ret_bool (by unfold inR; rw [decide_eq_true h.1, decide_eq_true h.2]; rfl), rfl⟩
  · refine (rngNo n lo hi w (by omega)).mono ?_
    rintro e w' ⟨rfl, rfl⟩
    refine ⟨ret_bool ?_, rfl⟩
    unfold inR
    rcases Int.lt_or_le n lo with h1 | h1
    · rw [decide_eq_false (by omega : ¬ lo ≤ n)]; rfl
    · rw [decide_eq_false (by omega : ¬ n ≤ hi)]; simp

theorem countTo_any (m : Nat) : ∀ (n k : Int) (w : World), n.toNat + k.toNat = m → -1000 ≤ n → n ≤ 40 → 0 ≤ k → k ≤ 40 →
    Calls Try.prog 30 #[.int .i64 n, .int .i64 k] w fun e w' => e = .returned (.int .i64 (ctZ n k)) ∧ w = w' := by
  induction m using Nat.strongRecOn with
  | _ m ih =>
    intro n k w hm hn0 hn hk0 hk
    by_cases h0 : n = 0
    · subst h0
      have HZ := Lib.hid (ctZ_zero k)
      clear ih
      go_enter Try.func30, Try.ntmps30
      go_wp2
      go_ret
      exact ⟨ret_i64 HZ.out.symm, rfl⟩
    · have e0 : (n == 0) = false := beq_eq_false_iff_ne.2 h0
      by_cases h1 : n < 0
      · have HZ := Lib.hid (ctZ_neg n k h1)
        clear ih h0
        go_enter Try.func30, Try.ntmps30
        go_wp2
        go_ret
        exact ⟨ret_i64 HZ.out.symm, rfl⟩
      · by_cases h2 : k = 0
        · subst h2
          have HZ := Lib.hid (ctZ_none n (by omega))
          have h1' : 0 ≤ n := by omega
          clear ih h0 h1
          go_enter Try.func30, Try.ntmps30
          go_wp2
          go_ret
          exact ⟨ret_i64 HZ.out.symm, rfl⟩
        · have e2 : (k == 0) = false := beq_eq_false_iff_ne.2 h2
          have h1' : 0 ≤ n := by omega
          have h3 := ctZ_rec n k (by omega) (by omega)
          have b1 := ctZ_bd n (k - 1) hn
          have b2 := ctZ_bd (n - k) k (by omega)
          have HZ := Lib.hid h3
          have i1 := fun w => ih (n.toNat + (k - 1).toNat) (by omega) n (k - 1) w rfl (by omega) hn (by omega) (by omega)
          have i2 := fun w => ih ((n - k).toNat + k.toNat) (by omega) (n - k) k w rfl (by omega) (by omega) hk0 hk
          have hk1 : 1 ≤ k := by omega
          have hn1 : 1 ≤ n := by omega
          clear ih h0 h1 h2 h3 hm
          have I1 := Lib.hid i1
          have I2 := Lib.hid i2
          clear i1 i2
          generalize ctZ n (k - 1) = x at *
          generalize ctZ (n - k) k = y at *
          go_enter Try.func30, Try.ntmps30
          go_wp2_with fail
          refine (I1.out _).mono ?_
          rintro e w1 ⟨rfl, rfl⟩
          go_wp2_with fail
          refine (I2.out _).mono ?_
          rintro e w1 ⟨rfl, rfl⟩
          go_wp2_with fail
          go_ret
          exact ⟨ret_i64 HZ.out.symm, rfl⟩
theorem countTo_at (n k : Int) (w : World) (hn0 : -1000 ≤ n) (hn : n ≤ 40) (hk0 : 0 ≤ k) (hk : k ≤ 40) :
    Calls Try.prog 30 #[.int .i64 n, .int .i64 k] w fun e w' => e = .returned (.int .i64 (ctZ n k)) ∧ w = w' := countTo_any _ n k w rfl hn0 hn hk0 hk

theorem T_info41 : (Try.prog.info? 56).map (·.size) = some 41 := by kernel_rfl
theorem T_index41 (D : List Int) (k : Nat) (hk : k < D.length) (h16 : k < 41) (w : World) : (Instr.index 56 (.agg (arr D)) (.int .i64 k)).run Try.prog w = .ok (.int .i64 D[k]) w :=
  run_index_row 56 3 _ 41 Try.underlying56 Try.underlying3 rfl (by kernel_rfl) (arr D) k _ h16 (arr_get D k hk) .i64 w

theorem withMany_any (D : List Int) (hD : D.length = 41) (p : Nat) (hp : 1 ≤ p) (hp40 : p ≤ 40) (hb : ∀ s, s < 41 → (0 ≤ D.getD s 0 ∧ D.getD s 0 ≤ 1099511627776) ∧ 0 ≤ wv D p s ∧ wv D p s ≤ 1099511627776) (w : World) :
    Calls Try.prog 41 #[.agg (arr D), .int .i64 p] w fun e w' => e = .returned (.agg (arr (wrow D p))) ∧ Below w.heap.size w w' := by
  have HD := Lib.hid hD
  have hi41 : (Try.prog.info? 56).map (·.size) = some (arr D).size := by rw [arr_size, hD]; exact T_info41
  have HB := Lib.hid hb
  clear hD hb
  have hrange : (41 : Int) - (p : Int) = ((41 - p : Nat) : Int) := by omega
  have hb0 := (Blk.new w 56 (arr D)).alloc (.cells (arr (List.replicate 41 0)) 56)
  go_enter Try.func41, Try.ntmps41
  go_wp2
  go_loopw [8] (fun i wr => ∃ l : Nat, l ≤ 41 - p ∧ i = .int .i64 l ∧ Below w.heap.size w wr ∧ Blk wr (w.heap.size + 1) 56 (arr (List.replicate 41 0)) ∧ Blk wr w.heap.size 56 (arr (wmid D p l))) (fun i _ => 41 - (intOf i).toNat)
  case atStart =>
    refine ⟨0, Nat.zero_le _, rfl, ((Below.refl _ _).alloc (Nat.le_refl _) _).alloc (by simp) _, ?_, by rw [wmid_zero HD.out]; exact hb0⟩
    have e := Blk.new (w.alloc (.cells (arr D) 56)) 56 (arr (List.replicate 41 0))
    rw [World.size_alloc] at e
    exact e
  case round =>
    obtain ⟨l, hl, rfl, hbel, hb2, hb3⟩ := hrel
    by_cases hlt : l < 41 - p
    · have hlp : l + p < 41 := by omega
      have hl41 : l < 41 := by omega
      have b1 := (HB.out (l + p) hlp).1
      have b2 := (HB.out l hl41).2
      have hs : D.getD (l + p) 0 + wv D p l = wv D p (l + p) := by rw [wv_high D p (l + p) hp (by omega), Nat.add_sub_cancel]
      have b3 := (HB.out (l + p) hlp).2
      rw [← hs] at b3
      have HSET := Lib.hid (wmid_set D p l hp hlp)
      have hc1 : wr.cell? ⟨w.heap.size, l, none⟩ = some (.int .i64 (wv D p l)) := by rw [hb3.cell l, arr_get _ l (by rw [wmid_len]; exact hl41), wmid_lo D p l hp hl41]
      have hc2 : wr.cell? ⟨w.heap.size, l + p, none⟩ = some (.int .i64 (D.getD (l + p) 0)) := by rw [hb3.cell (l + p), arr_get _ (l + p) (by rw [wmid_len]; exact hlp), wmid_hi D p l hlp]
      have hf2 : wr.frozen? ⟨w.heap.size, l + p, none⟩ = false := hb3.free (l + p)
      have hl41' : (l : Int) < 41 := by omega
      clear hs
      obtain ⟨q, hq⟩ : ∃ q : Nat, q = l + p := ⟨_, rfl⟩
      rw [← hq] at hf2 b1 b3
      have hc2' : wr.cell? ⟨w.heap.size, q, none⟩ = some (.int .i64 (D.getD q 0)) := by rw [hq]; exact hc2
      have HSET' : Hid ((wmid D p l).set q (D.getD q 0 + wv D p l) = wmid D p (l + 1)) := Lib.hid (by rw [hq]; exact HSET.out)
      clear hc2 HSET
      have hw : IntKind.i64.wrap ((l : Int) + (p : Int)) = (q : Int) := by rw [IntWalk.i64_in _ (by omega)]; omega
      have hq41 : (q : Int) < 41 := by omega
      have hq41' : q < 41 := by omega
      clear hq
      generalize D.getD q 0 = x at *
      generalize wv D p l = y at *
      have hw2 : IntKind.i64.wrap (x + y) = x + y := IntWalk.i64_in _ (by omega)
      go_wp2
      go_still_tail 10, (by kernel_rfl)
      change wpList _ _ _ _ _ wr.drew
      have hbel' : Below w.heap.size w wr.drew := hbel.trans ((Dr.n wr 1).below _)
      have hb2' : Blk wr.drew (w.heap.size + 1) 56 (arr (List.replicate 41 0)) := hb2
      have hb3' : Blk wr.drew w.heap.size 56 (arr (wmid D p l)) := hb3
      have hf3 : wr.drew.frozen? ⟨w.heap.size, q, none⟩ = false := hf2
      have hc3 : wr.drew.cell? ⟨w.heap.size, q, none⟩ = some (.int .i64 x) := hc2'
      generalize wr.drew = w2 at *
      clear hbel hb2 hb3
      go_wp2
      go_roundw
      case rel =>
        refine ⟨l + 1, by omega, by go_num, hbel'.setCell (by show w.heap.size ≤ w.heap.size; omega) _, hb2'.off (by show w.heap.size + 1 ≠ w.heap.size; omega) _, ?_⟩
        have e := hb3'.set q (.int .i64 (x + y))
        rw [arr_set, HSET'.out] at e
        exact e
      case measure => simp [intOf]; omega
    · obtain rfl : l = 41 - p := by omega
      have HE := Lib.hid (wmid_end D p (41 - p) (by omega))
      have hi2 : (Try.prog.info? 56).map (·.size) = some (arr (wmid D p (41 - p))).size := by rw [arr_size, wmid_len]; exact T_info41
      have hsz : (arr (wmid D p (41 - p))).size = (arr (List.replicate 41 0)).size := by rw [arr_size, arr_size, wmid_len]; rfl
      go_wp2_with (first | (refine wpList_load_row rfl 56 (.tmp 2) rfl w.heap.size rfl 56 (arr (wmid D p (41 - p))) (0, 0) _ hb3 Try.underlying56 rfl hi2 ?_) | (refine wpList_store_row rfl 56 (.tmp 4) (.tmp 22) rfl (w.heap.size + 1) rfl (arr (wmid D p (41 - p))) rfl 56 _ hb2 hi2 hsz (arr_one _) ?_))
      refine bodyPost_ret (results_cell_row rfl _ _ (w.heap.size + 1) 56 (arr (wmid D p (41 - p))) (0, 0) _ rfl hb2.row Try.underlying56 rfl hi2) rfl ?_
      exact ⟨by rw [HE.out], below_setRow' hbel (by omega) _⟩

theorem crow_bd (k : Nat) : ∀ s, s < 41 → (0 ≤ (crow k).getD s 0 ∧ (crow k).getD s 0 ≤ 1099511627776) ∧ 0 ≤ wv (crow k) (k + 1) s ∧ wv (crow k) (k + 1) s ≤ 1099511627776 := fun s hs => by
  rw [crow_getD k s hs, wv_crow k s hs]
  have := ct_le s k (by omega)
  have := ct_le s (k + 1) (by omega)
  omega

theorem countsBy_any (ff : Nat) (he : ∀ (args : Array Value) (w : World), (callFunc ff args).run Try.prog w = .ok (.enter ff args) w) (R : Nat → List Int) (h0 : R 0 = 1 :: List.replicate 40 0) (hl : ∀ j, (R j).length = 41)
    (k : Nat) (hk : k ≤ 40) (hc : ∀ j : Nat, j < k → ∀ w1 : World, Calls Try.prog ff #[.agg (arr (R j)), .int .i64 ((j : Int) + 1)] w1 fun e w2 => e = .returned (.agg (arr (R (j + 1)))) ∧ Below w1.heap.size w1 w2) (w : World) :
    Calls Try.prog 33 #[.int .i64 k, .func (.func ff) #[] #[]] w fun e w' => e = .returned (.agg (arr (R k))) ∧ Below w.heap.size w w' := by
  have hi0 : (Try.prog.info? 56).map (·.size) = some (arr (1 :: List.replicate 40 0)).size := T_info41
  have hsz0 : (arr (1 :: List.replicate 40 0)).size = (arr (List.replicate 41 0)).size := rfl
  have hb1 : Blk ((w.alloc (.cells (arr (List.replicate 41 0)) 56)).alloc (.cells (arr (List.replicate 41 0)) 56)) (w.heap.size + 1) 56 (arr (List.replicate 41 0)) := by
    have e := Blk.new (w.alloc (.cells (arr (List.replicate 41 0)) 56)) 56 (arr (List.replicate 41 0))
    rw [World.size_alloc] at e
    exact e
  have HC := Lib.hid hc
  have HL := Lib.hid hl
  clear hc hl
  go_enter Try.func33, Try.ntmps33
  go_wp2_with (refine wpList_store_row rfl 56 (.tmp 5) (.tmp 7) rfl (w.heap.size + 1) rfl (arr (1 :: List.replicate 40 0)) rfl 56 _ hb1 hi0 hsz0 (arr_one _) ?_)
  go_loopw [6] (fun i wr => ∃ j : Nat, j ≤ k ∧ i = .int .i64 ((j : Int) + 1) ∧ Below w.heap.size w wr ∧ Blk wr w.heap.size 56 (arr (List.replicate 41 0)) ∧ Blk wr (w.heap.size + 1) 56 (arr (R j))) (fun i _ => 50 - (intOf i).toNat)
  case atStart =>
    refine ⟨0, Nat.zero_le _, rfl, below_setRow' (((Below.refl _ _).alloc (Nat.le_refl _) _).alloc (by simp) _) (by omega) _, ?_, ?_⟩
    · exact ((Blk.new w 56 (arr (List.replicate 41 0))).alloc _).rowOff (by omega)
    · rw [h0]; exact hb1.row
  case round =>
    obtain ⟨j, hj, rfl, hbel, hb2, hb3⟩ := hrel
    have hi2 : (Try.prog.info? 56).map (·.size) = some (arr (R j)).size := by rw [arr_size, HL.out]; exact T_info41
    by_cases hlt : j < k
    · have hlt' : (j : Int) + 1 ≤ (k : Int) := by omega
      have hi3 : (Try.prog.info? 56).map (·.size) = some (arr (R (j + 1))).size := by rw [arr_size, HL.out]; exact T_info41
      have hsz : (arr (R (j + 1))).size = (arr (R j)).size := by rw [arr_size, arr_size, HL.out, HL.out]
      have HCj := Lib.hid (HC.out j hlt)
      go_wp2_with (first
        | (refine wpList_load_row rfl 56 (.tmp 5) rfl (w.heap.size + 1) rfl 56 (arr (R j)) (0, 0) _ hb3 Try.underlying56 rfl hi2 ?_)
        | (with_reducible refine (HCj.out _).mono ?_; rintro e w1 ⟨rfl, hbw⟩; have hb3' : Blk w1 (w.heap.size + 1) 56 (arr (R j)) := hb3.below hbw hb3.lt; have hb2' : Blk w1 w.heap.size 56 (arr (List.replicate 41 0)) := hb2.below hbw hb2.lt; have hbel' : Below w.heap.size w w1 := hbel.trans (hbw.mono hbel.size))
        | (refine wpList_store_row rfl 56 (.tmp 5) (.tmp 16) rfl (w.heap.size + 1) rfl (arr (R (j + 1))) rfl 56 _ hb3' hi3 hsz (arr_one _) ?_))
      go_roundw
      case rel => exact ⟨j + 1, by omega, by go_num, below_setRow' hbel' (by omega) _, hb2'.rowOff (by omega), hb3'.row (vs := arr (R (j + 1)))⟩
      case measure => simp [intOf]; omega
    · obtain rfl : j = k := by omega
      have hlt' : (j : Int) < (j : Int) + 1 := by omega
      have hsz : (arr (R j)).size = (arr (List.replicate 41 0)).size := by rw [arr_size, arr_size, HL.out]; rfl
      go_wp2_with (first
        | (refine wpList_load_row rfl 56 (.tmp 5) rfl (w.heap.size + 1) rfl 56 (arr (R j)) (0, 0) _ hb3 Try.underlying56 rfl hi2 ?_)
        | (refine wpList_store_row rfl 56 (.tmp 4) (.tmp 17) rfl w.heap.size rfl (arr (R j)) rfl 56 _ hb2 hi2 hsz (arr_one _) ?_))
      refine bodyPost_ret (results_cell_row rfl _ _ w.heap.size 56 (arr (R j)) (0, 0) _ rfl hb2.row Try.underlying56 rfl hi2) rfl ?_
      exact ⟨rfl, below_setRow' hbel (Nat.le_refl _) _⟩

theorem countsUpTo_any (k : Nat) (hk : k ≤ 40) (w : World) :
    Calls Try.prog 32 #[.int .i64 k] w fun e w' => e = .returned (.agg (arr (crow k))) ∧ Below w.heap.size w w' := by
  have H := Lib.hid (countsBy_any 41 (enters_of Try.func41 (by kernel_rfl) rfl) crow crow_zero crow_len k hk (fun j hj w1 => by
    have h := withMany_any (crow j) (crow_len j) (j + 1) (by omega) (by omega) (crow_bd j) w1
    rw [wrow_crow] at h
    exact h))
  have hic : (Try.prog.info? 56).map (·.size) = some (arr (crow k)).size := by rw [arr_size, crow_len]; exact T_info41
  have hsz : (arr (crow k)).size = (arr (List.replicate 41 0)).size := by rw [arr_size, arr_size, crow_len]; rfl
  have hb0 := Blk.new w 56 (arr (List.replicate 41 0))
  have hbel0 : Below w.heap.size w (w.alloc (.cells (arr (List.replicate 41 0)) 56)) := (Below.refl _ _).alloc (Nat.le_refl _) _
  go_enter Try.func32, Try.ntmps32
  go_wp2_with (first
    | (go_at_call 33; refine (H.out _).mono ?_; rintro e w1 ⟨rfl, hb⟩; have hb0' := hb0.below hb hb0.lt; have hbel1 := hbel0.trans (hb.mono hbel0.size))
    | (refine wpList_store_row rfl 56 (.tmp 2) (.tmp 4) rfl w.heap.size rfl (arr (crow k)) rfl 56 _ hb0' hic hsz (arr_one _) ?_))
  refine bodyPost_ret (results_cell_row rfl _ _ w.heap.size 56 (arr (crow k)) (0, 0) _ rfl hb0'.row Try.underlying56 rfl hic) rfl ?_
  exact ⟨rfl, below_setRow' hbel1 (Nat.le_refl _) _⟩
end Go.Proofs.Ytgdkifpjcjegpaa
