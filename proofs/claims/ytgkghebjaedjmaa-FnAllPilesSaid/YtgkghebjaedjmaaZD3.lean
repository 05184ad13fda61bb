/-
  Walks of the program: ValidPile, PileSum, TurnPile, LayersOf, IsEvenPile. Walks: inRange, countTo of the model; withMany, countsUpTo of the program. Walks: CountParts, AtMostParts, JustParts of the model and of the program. Walks: SquareSum, SelfCount, DivisorSum, Pentagonal of the model and of the program. Walks: withOnce of the program, SignedDistinct of the model and of the program. Walks of the program: what is counted, behind an interface: marked parts and piles.
-/
import Derived.Test.YtgkghebjaedjmaaZC1
import Derived.Test.YtgkghebjaedjmaaZC2
import Derived.Test.YtgkghebjaedjmaaZC3
import Derived.Test.YtgkghebjaedjmaaZC4
import Derived.Test.YtgkghebjaedjmaaZC5
import Derived.Test.YtgkghebjaedjmaaZC6
import Derived.Test.YtgkghebjaedjmaaZC7
import Derived.Test.YtgkghebjaedjmaaZC8
import Derived.Test.YtgkghebjaedjmaaZC9
import Derived.Test.YtgkghebjaedjmaaZD1
import Derived.Test.YtgkghebjaedjmaaZD2
import Derived.RegionTactic
import Derived.Deep.RegionHeld3
import Derived.Deep.MidRow
import Derived.Test.YtgkghebjaedjmaaProg
import Derived.Deep.QuietTactic
import Derived.BigQuiet
import Derived.StillTailTactics
import Derived.IntWalk
import Derived.Lib.Hide
import Derived.Shelf.Abstract
import Derived.Deep.RegionWith
namespace Go.Proofs.Ytgkghebjaedjmaa
open Go.RowKit NP
set_option maxRecDepth 100000
set_option linter.unusedVariables false
set_option linter.unusedSimpArgs false
theorem gridV_yes {LL : List (List Int)} (h : vpl LL = true) : gridV LL = gridR LL := by unfold gridV; rw [h]; rfl
set_option maxHeartbeats 1000000 in
theorem iPileSum_any (a : Option Addr) (c B : Nat) (LL : List (List Int)) (w : World) (h : RdLL w B a LL) (hB : B ≤ w.heap.size) (hn : LL.length ≤ 4611686018427387904) (hil : ∀ L ∈ LL, L.length ≤ 4611686018427387904) :
    Calls Try.prog 27 #[.slice a LL.length c] w fun e w' => e = .returned (.int .i64 (psF LL)) ∧ Below w.heap.size w w' := by
  have HIL := Lib.hid hil
  clear hil
  have hi2 : (Try.prog.info? 76).map (·.size) = some (arr (gridV LL).flatten).size := by rw [arr_size, sq_len ⟨gridV_len LL, gridV_rows LL⟩]; exact T_info256
  have hszv : (arr (gridV LL).flatten).size = (arr zsq.flatten).size := by rw [arr_size, arr_size, sq_len ⟨gridV_len LL, gridV_rows LL⟩]; rfl
  have HPO := Lib.hid (fun w h hB => pileOf_any a c B LL w h hB hn HIL.out)
  obtain ⟨v, hv⟩ : ∃ v, v = vpl LL := ⟨_, rfl⟩
  rw [← hv] at HPO
  obtain ⟨G, hG⟩ : ∃ G, G = arr (gridV LL).flatten := ⟨_, rfl⟩
  have hone : ∀ v ∈ G.toList, v.oneCell' = true := by rw [hG]; exact arr_one _
  rw [← hG] at hi2 hszv HPO
  have HG := Lib.hid hG
  clear hG
  cases v with
  | false =>
    have HN := Lib.hid (psF_no hv.symm)
    clear hv
    go_enter Try.func27, Try.ntmps27
    go_wp2_with (first
      | (go_at_call 61; refine (HPO.out _ h hB).mono ?_; rintro e w1 ⟨rfl, hb1⟩; have hbz := Blk.new w1 76 (arr zsq.flatten))
      | (refine wpList_store_row rfl 76 (.tmp 3) (.tmp 8) rfl w1.heap.size rfl G rfl 76 _ hbz hi2 hszv hone ?_))
    have hbb : Below w1.heap.size w1 ((w1.alloc (.cells (arr zsq.flatten) 76)).setRow w1.heap.size G) := below_setRow' ((Below.refl _ _).alloc (Nat.le_refl _) _) (Nat.le_refl _) _
    go_ret
    rw [HN.out]
    exact ⟨rfl, hb1.trans (hbb.mono hb1.size)⟩
  | true =>
    have hvl := hv.symm
    have HY := Lib.hid (psF_yes hvl)
    have HGR : Hid (G = arr (gridR LL).flatten) := Lib.hid (by rw [HG.out, gridV_yes hvl])
    have HV := Lib.hid hvl
    clear hv hvl
    go_enter Try.func27, Try.ntmps27
    go_wp2_with (first
      | (go_at_call 61; refine (HPO.out _ h hB).mono ?_; rintro e w1 ⟨rfl, hb1⟩; have hbz := Blk.new w1 76 (arr zsq.flatten); have hbz2 := hbz.row (vs := G))
      | (refine wpList_store_row rfl 76 (.tmp 3) (.tmp 8) rfl w1.heap.size rfl G rfl 76 _ hbz hi2 hszv hone ?_)
      | (refine wpList_load_row rfl 76 (.tmp 3) rfl w1.heap.size rfl 76 G (0, 0) _ hbz2 Try.underlying76 rfl hi2 ?_)
      | (go_at_call 62; rw [HGR.out]; refine (psum_any LL HV.out _).mono ?_; rintro e w2 ⟨rfl, hb2⟩))
    have hbb : Below w1.heap.size w1 ((w1.alloc (.cells (arr zsq.flatten) 76)).setRow w1.heap.size G) := below_setRow' ((Below.refl _ _).alloc (Nat.le_refl _) _) (Nat.le_refl _) _
    have hbt := hb1.trans (hbb.mono hb1.size)
    go_ret
    rw [HY.out]
    exact ⟨rfl, by rw [← HGR.out] at hb2; exact hbt.trans (hb2.mono hbt.size)⟩
end Go.Proofs.Ytgkghebjaedjmaa
namespace Go.Proofs.Ytgkghebjaedjmaa
open Go.RowKit NP
set_option maxRecDepth 8000
set_option linter.unusedVariables false

theorem rngYes (n lo hi : Int) (w : World) (h1 : lo ≤ n) (h2 : n ≤ hi) : Calls Try.prog 38 #[.int .i64 n, .int .i64 lo, .int .i64 hi] w fun e w' => e = .returned (.bool true) ∧ w' = w := by
  go_enter Try.func38, Try.ntmps38
  go_wp2
  go_ret
  exact ⟨rfl, rfl⟩
theorem rngNo (n lo hi : Int) (w : World) (h : n < lo ∨ hi < n) : Calls Try.prog 38 #[.int .i64 n, .int .i64 lo, .int .i64 hi] w fun e w' => e = .returned (.bool false) ∧ w' = w := by
  by_cases h1 : lo ≤ n
  · have h2 : hi < n := by omega
    clear h
    go_enter Try.func38, Try.ntmps38
    go_wp2
    go_ret
    exact ⟨ret_bool (by simp; omega), rfl⟩
  · clear h
    go_enter Try.func38, Try.ntmps38
    go_wp2
    go_ret
    exact ⟨rfl, rfl⟩
def inR (n lo hi : Int) : Bool := decide (lo ≤ n) && decide (n ≤ hi)
theorem inRange_any (n lo hi : Int) (w : World) : Calls Try.prog 38 #[.int .i64 n, .int .i64 lo, .int .i64 hi] w fun e w' => e = .returned (.bool (inR n lo hi)) ∧ w = w' := by
  by_cases h : lo ≤ n ∧ n ≤ hi
  · refine (rngYes n lo hi w h.1 h.2).mono ?_
    rintro e w' ⟨rfl, rfl⟩
    exact ⟨ret_bool (by unfold inR; rw [decide_eq_true h.1, decide_eq_true h.2]; rfl), rfl⟩
  · refine (rngNo n lo hi w (by omega)).mono ?_
    rintro e w' ⟨rfl, rfl⟩
    refine ⟨ret_bool ?_, rfl⟩
    unfold inR
    rcases Int.lt_or_le n lo with h1 | h1
    · rw [decide_eq_false (by omega : ¬ lo ≤ n)]; rfl
    · rw [decide_eq_false (by omega : ¬ n ≤ hi)]; simp


theorem T_info41 : (Try.prog.info? 102).map (·.size) = some 41 := by kernel_rfl
theorem T_index41 (D : List Int) (k : Nat) (hk : k < D.length) (h16 : k < 41) (w : World) : (Instr.index 102 (.agg (arr D)) (.int .i64 k)).run Try.prog w = .ok (.int .i64 D[k]) w :=
  run_index_row 102 3 _ 41 Try.underlying102 Try.underlying3 rfl (by kernel_rfl) (arr D) k _ h16 (arr_get D k hk) .i64 w

theorem withMany_any (D : List Int) (hD : D.length = 41) (p : Nat) (hp : 1 ≤ p) (hp40 : p ≤ 40) (hb : ∀ s, s < 41 → (0 ≤ D.getD s 0 ∧ D.getD s 0 ≤ 1099511627776) ∧ 0 ≤ wv D p s ∧ wv D p s ≤ 1099511627776) (w : World) :
    Calls Try.prog 96 #[.agg (arr D), .int .i64 p] w fun e w' => e = .returned (.agg (arr (wrow D p))) ∧ Below w.heap.size w w' := by
  have HD := Lib.hid hD
  have hi41 : (Try.prog.info? 102).map (·.size) = some (arr D).size := by rw [arr_size, hD]; exact T_info41
  have HB := Lib.hid hb
  clear hD hb
  have hrange : (41 : Int) - (p : Int) = ((41 - p : Nat) : Int) := by omega
  have hb0 := (Blk.new w 102 (arr D)).alloc (.cells (arr (List.replicate 41 0)) 102)
  go_enter Try.func96, Try.ntmps96
  go_wp2
  go_loopw [8] (fun i wr => ∃ l : Nat, l ≤ 41 - p ∧ i = .int .i64 l ∧ Below w.heap.size w wr ∧ Blk wr (w.heap.size + 1) 102 (arr (List.replicate 41 0)) ∧ Blk wr w.heap.size 102 (arr (wmid D p l))) (fun i _ => 41 - (intOf i).toNat)
  case atStart =>
    refine ⟨0, Nat.zero_le _, rfl, ((Below.refl _ _).alloc (Nat.le_refl _) _).alloc (by simp) _, ?_, by rw [wmid_zero HD.out]; exact hb0⟩
    have e := Blk.new (w.alloc (.cells (arr D) 102)) 102 (arr (List.replicate 41 0))
    rw [World.size_alloc] at e
    exact e
  case round =>
    obtain ⟨l, hl, rfl, hbel, hb2, hb3⟩ := hrel
    by_cases hlt : l < 41 - p
    · have hlp : l + p < 41 := by omega
      have hl41 : l < 41 := by omega
      have b1 := (HB.out (l + p) hlp).1
      have b2 := (HB.out l hl41).2
      have hs : D.getD (l + p) 0 + wv D p l = wv D p (l + p) := by rw [wv_high D p (l + p) hp (by omega), Nat.add_sub_cancel]
      have b3 := (HB.out (l + p) hlp).2
      rw [← hs] at b3
      have HSET := Lib.hid (wmid_set D p l hp hlp)
      have hc1 : wr.cell? ⟨w.heap.size, l, none⟩ = some (.int .i64 (wv D p l)) := by rw [hb3.cell l, arr_get _ l (by rw [wmid_len]; exact hl41), wmid_lo D p l hp hl41]
      have hc2 : wr.cell? ⟨w.heap.size, l + p, none⟩ = some (.int .i64 (D.getD (l + p) 0)) := by rw [hb3.cell (l + p), arr_get _ (l + p) (by rw [wmid_len]; exact hlp), wmid_hi D p l hlp]
      have hf2 : wr.frozen? ⟨w.heap.size, l + p, none⟩ = false := hb3.free (l + p)
      have hl41' : (l : Int) < 41 := by omega
      clear hs
      obtain ⟨q, hq⟩ : ∃ q : Nat, q = l + p := ⟨_, rfl⟩
      rw [← hq] at hf2 b1 b3
      have hc2' : wr.cell? ⟨w.heap.size, q, none⟩ = some (.int .i64 (D.getD q 0)) := by rw [hq]; exact hc2
      have HSET' : Hid ((wmid D p l).set q (D.getD q 0 + wv D p l) = wmid D p (l + 1)) := Lib.hid (by rw [hq]; exact HSET.out)
      clear hc2 HSET
      have hw : IntKind.i64.wrap ((l : Int) + (p : Int)) = (q : Int) := by rw [IntWalk.i64_in _ (by omega)]; omega
      have hq41 : (q : Int) < 41 := by omega
      have hq41' : q < 41 := by omega
      clear hq
      generalize D.getD q 0 = x at *
      generalize wv D p l = y at *
      have hw2 : IntKind.i64.wrap (x + y) = x + y := IntWalk.i64_in _ (by omega)
      go_wp2
      go_still_tail 10, (by kernel_rfl)
      change wpList _ _ _ _ _ wr.drew
      have hbel' : Below w.heap.size w wr.drew := hbel.trans ((Dr.n wr 1).below _)
      have hb2' : Blk wr.drew (w.heap.size + 1) 102 (arr (List.replicate 41 0)) := hb2
      have hb3' : Blk wr.drew w.heap.size 102 (arr (wmid D p l)) := hb3
      have hf3 : wr.drew.frozen? ⟨w.heap.size, q, none⟩ = false := hf2
      have hc3 : wr.drew.cell? ⟨w.heap.size, q, none⟩ = some (.int .i64 x) := hc2'
      generalize wr.drew = w2 at *
      clear hbel hb2 hb3
      go_wp2
      go_roundw
      case rel =>
        refine ⟨l + 1, by omega, by go_num, hbel'.setCell (by show w.heap.size ≤ w.heap.size; omega) _, hb2'.off (by show w.heap.size + 1 ≠ w.heap.size; omega) _, ?_⟩
        have e := hb3'.set q (.int .i64 (x + y))
        rw [arr_set, HSET'.out] at e
        exact e
      case measure => simp [intOf]; omega
    · obtain rfl : l = 41 - p := by omega
      have HE := Lib.hid (wmid_end D p (41 - p) (by omega))
      have hi2 : (Try.prog.info? 102).map (·.size) = some (arr (wmid D p (41 - p))).size := by rw [arr_size, wmid_len]; exact T_info41
      have hsz : (arr (wmid D p (41 - p))).size = (arr (List.replicate 41 0)).size := by rw [arr_size, arr_size, wmid_len]; rfl
      go_wp2_with (first | (refine wpList_load_row rfl 102 (.tmp 2) rfl w.heap.size rfl 102 (arr (wmid D p (41 - p))) (0, 0) _ hb3 Try.underlying102 rfl hi2 ?_) | (refine wpList_store_row rfl 102 (.tmp 4) (.tmp 22) rfl (w.heap.size + 1) rfl (arr (wmid D p (41 - p))) rfl 102 _ hb2 hi2 hsz (arr_one _) ?_))
      refine bodyPost_ret (results_cell_row rfl _ _ (w.heap.size + 1) 102 (arr (wmid D p (41 - p))) (0, 0) _ rfl hb2.row Try.underlying102 rfl hi2) rfl ?_
      exact ⟨by rw [HE.out], below_setRow' hbel (by omega) _⟩

theorem crow_bd (k : Nat) : ∀ s, s < 41 → (0 ≤ (crow k).getD s 0 ∧ (crow k).getD s 0 ≤ 1099511627776) ∧ 0 ≤ wv (crow k) (k + 1) s ∧ wv (crow k) (k + 1) s ≤ 1099511627776 := fun s hs => by
  rw [crow_getD k s hs, wv_crow k s hs]
  have := ct_le s k (by omega)
  have := ct_le s (k + 1) (by omega)
  omega

theorem countsBy_any (ff : Nat) (he : ∀ (args : Array Value) (w : World), (callFunc ff args).run Try.prog w = .ok (.enter ff args) w) (R : Nat → List Int) (h0 : R 0 = 1 :: List.replicate 40 0) (hl : ∀ j, (R j).length = 41)
    (k : Nat) (hk : k ≤ 40) (hc : ∀ j : Nat, j < k → ∀ w1 : World, Calls Try.prog ff #[.agg (arr (R j)), .int .i64 ((j : Int) + 1)] w1 fun e w2 => e = .returned (.agg (arr (R (j + 1)))) ∧ Below w1.heap.size w1 w2) (w : World) :
    Calls Try.prog 79 #[.int .i64 k, .func (.func ff) #[] #[]] w fun e w' => e = .returned (.agg (arr (R k))) ∧ Below w.heap.size w w' := by
  have hi0 : (Try.prog.info? 102).map (·.size) = some (arr (1 :: List.replicate 40 0)).size := T_info41
  have hsz0 : (arr (1 :: List.replicate 40 0)).size = (arr (List.replicate 41 0)).size := rfl
  have hb1 : Blk ((w.alloc (.cells (arr (List.replicate 41 0)) 102)).alloc (.cells (arr (List.replicate 41 0)) 102)) (w.heap.size + 1) 102 (arr (List.replicate 41 0)) := by
    have e := Blk.new (w.alloc (.cells (arr (List.replicate 41 0)) 102)) 102 (arr (List.replicate 41 0))
    rw [World.size_alloc] at e
    exact e
  have HC := Lib.hid hc
  have HL := Lib.hid hl
  clear hc hl
  go_enter Try.func79, Try.ntmps79
  go_wp2_with (refine wpList_store_row rfl 102 (.tmp 5) (.tmp 7) rfl (w.heap.size + 1) rfl (arr (1 :: List.replicate 40 0)) rfl 102 _ hb1 hi0 hsz0 (arr_one _) ?_)
  go_loopw [6] (fun i wr => ∃ j : Nat, j ≤ k ∧ i = .int .i64 ((j : Int) + 1) ∧ Below w.heap.size w wr ∧ Blk wr w.heap.size 102 (arr (List.replicate 41 0)) ∧ Blk wr (w.heap.size + 1) 102 (arr (R j))) (fun i _ => 50 - (intOf i).toNat)
  case atStart =>
    refine ⟨0, Nat.zero_le _, rfl, below_setRow' (((Below.refl _ _).alloc (Nat.le_refl _) _).alloc (by simp) _) (by omega) _, ?_, ?_⟩
    · exact ((Blk.new w 102 (arr (List.replicate 41 0))).alloc _).rowOff (by omega)
    · rw [h0]; exact hb1.row
  case round =>
    obtain ⟨j, hj, rfl, hbel, hb2, hb3⟩ := hrel
    have hi2 : (Try.prog.info? 102).map (·.size) = some (arr (R j)).size := by rw [arr_size, HL.out]; exact T_info41
    by_cases hlt : j < k
    · have hlt' : (j : Int) + 1 ≤ (k : Int) := by omega
      have hi3 : (Try.prog.info? 102).map (·.size) = some (arr (R (j + 1))).size := by rw [arr_size, HL.out]; exact T_info41
      have hsz : (arr (R (j + 1))).size = (arr (R j)).size := by rw [arr_size, arr_size, HL.out, HL.out]
      have HCj := Lib.hid (HC.out j hlt)
      go_wp2_with (first
        | (refine wpList_load_row rfl 102 (.tmp 5) rfl (w.heap.size + 1) rfl 102 (arr (R j)) (0, 0) _ hb3 Try.underlying102 rfl hi2 ?_)
        | (with_reducible refine (HCj.out _).mono ?_; rintro e w1 ⟨rfl, hbw⟩; have hb3' : Blk w1 (w.heap.size + 1) 102 (arr (R j)) := hb3.below hbw hb3.lt; have hb2' : Blk w1 w.heap.size 102 (arr (List.replicate 41 0)) := hb2.below hbw hb2.lt; have hbel' : Below w.heap.size w w1 := hbel.trans (hbw.mono hbel.size))
        | (refine wpList_store_row rfl 102 (.tmp 5) (.tmp 16) rfl (w.heap.size + 1) rfl (arr (R (j + 1))) rfl 102 _ hb3' hi3 hsz (arr_one _) ?_))
      go_roundw
      case rel => exact ⟨j + 1, by omega, by go_num, below_setRow' hbel' (by omega) _, hb2'.rowOff (by omega), hb3'.row (vs := arr (R (j + 1)))⟩
      case measure => simp [intOf]; omega
    · obtain rfl : j = k := by omega
      have hlt' : (j : Int) < (j : Int) + 1 := by omega
      have hsz : (arr (R j)).size = (arr (List.replicate 41 0)).size := by rw [arr_size, arr_size, HL.out]; rfl
      go_wp2_with (first
        | (refine wpList_load_row rfl 102 (.tmp 5) rfl (w.heap.size + 1) rfl 102 (arr (R j)) (0, 0) _ hb3 Try.underlying102 rfl hi2 ?_)
        | (refine wpList_store_row rfl 102 (.tmp 4) (.tmp 17) rfl w.heap.size rfl (arr (R j)) rfl 102 _ hb2 hi2 hsz (arr_one _) ?_))
      refine bodyPost_ret (results_cell_row rfl _ _ w.heap.size 102 (arr (R j)) (0, 0) _ rfl hb2.row Try.underlying102 rfl hi2) rfl ?_
      exact ⟨rfl, below_setRow' hbel (Nat.le_refl _) _⟩

end Go.Proofs.Ytgkghebjaedjmaa
namespace Go.Proofs.Ytgkghebjaedjmaa
open Go.RowKit NP
set_option maxRecDepth 8000
set_option linter.unusedVariables false

theorem cpF_in {n : Int} (h : 0 ≤ n ∧ n ≤ 40) : cpF n = ctZ n n := by unfold cpF; rw [if_pos h]
theorem cpF_out {n : Int} (h : ¬ (0 ≤ n ∧ n ≤ 40)) : cpF n = -1 := by unfold cpF; rw [if_neg h]
theorem amF_in {n k : Int} (h : 0 ≤ n ∧ n ≤ 40) (h2 : 0 ≤ k ∧ k ≤ 40) : amF n k = ctZ n k := by unfold amF; rw [if_pos ⟨h, h2⟩]
theorem amF_out {n k : Int} (h : ¬ ((0 ≤ n ∧ n ≤ 40) ∧ (0 ≤ k ∧ k ≤ 40))) : amF n k = -1 := by unfold amF; rw [if_neg h]
theorem jpF_in {n k : Int} (h : 0 ≤ n ∧ n ≤ 40) (h2 : 0 ≤ k ∧ k ≤ 40) : jpF n k = ctZ (n - k) k := by unfold jpF; rw [if_pos ⟨h, h2⟩]
theorem jpF_out {n k : Int} (h : ¬ ((0 ≤ n ∧ n ≤ 40) ∧ (0 ≤ k ∧ k ≤ 40))) : jpF n k = -1 := by unfold jpF; rw [if_neg h]






end Go.Proofs.Ytgkghebjaedjmaa
namespace Go.Proofs.Ytgkghebjaedjmaa
open Go.RowKit NP
set_option maxRecDepth 8000
set_option linter.unusedVariables false

theorem same_below {P : Program} {f : FuncId} {args : Array Value} {w : World} {v : Value} (h : Calls P f args w fun e w' => e = .returned v ∧ w = w') : Calls P f args w fun e w' => e = .returned v ∧ Below w.heap.size w w' := h.mono fun _ _ ⟨a, b⟩ => ⟨a, b ▸ Below.refl _ _⟩









end Go.Proofs.Ytgkghebjaedjmaa
namespace Go.Proofs.Ytgkghebjaedjmaa
open Go.RowKit NP
set_option maxRecDepth 8000
set_option linter.unusedVariables false

theorem withOnce_any (D : List Int) (hD : D.length = 41) (p : Nat) (hp : 1 ≤ p) (hp40 : p ≤ 40) (sg : Int) (hsg : sg = 1 ∨ sg = -1) (hb : ∀ s, -1099511627776 ≤ D.getD s 0 ∧ D.getD s 0 ≤ 1099511627776) (w : World) :
    Calls Try.prog 97 #[.agg (arr D), .int .i64 p, .int .i64 sg] w fun e w' => e = .returned (.agg (arr (worow D p sg))) ∧ Below w.heap.size w w' := by
  have HD := Lib.hid hD
  have hi41 : (Try.prog.info? 102).map (·.size) = some (arr D).size := by rw [arr_size, hD]; exact T_info41
  have hsz0 : (arr D).size = (arr (List.replicate 41 0)).size := by rw [arr_size, arr_size, hD]; rfl
  have HB := Lib.hid hb
  have HSG := Lib.hid hsg
  clear hD hb hsg
  have hrange : (41 : Int) - (p : Int) = ((41 - p : Nat) : Int) := by omega
  have hba := (Blk.new w 102 (arr D)).alloc (.cells (arr (List.replicate 41 0)) 102)
  have hbr : Blk ((w.alloc (.cells (arr D) 102)).alloc (.cells (arr (List.replicate 41 0)) 102)) (w.heap.size + 1) 102 (arr (List.replicate 41 0)) := by
    have e := Blk.new (w.alloc (.cells (arr D) 102)) 102 (arr (List.replicate 41 0))
    rw [World.size_alloc] at e
    exact e
  have hbm : Blk (((w.alloc (.cells (arr D) 102)).alloc (.cells (arr (List.replicate 41 0)) 102)).alloc (.cells (arr (List.replicate 41 0)) 102)) (w.heap.size + 2) 102 (arr (List.replicate 41 0)) := by
    have e := Blk.new ((w.alloc (.cells (arr D) 102)).alloc (.cells (arr (List.replicate 41 0)) 102)) 102 (arr (List.replicate 41 0))
    rw [World.size_alloc, World.size_alloc] at e
    exact e
  go_enter Try.func97, Try.ntmps97
  go_wp2_with (first
    | (refine wpList_load_row rfl 102 (.tmp 3) rfl w.heap.size rfl 102 (arr D) (0, 0) _ hba Try.underlying102 rfl hi41 ?_)
    | (refine wpList_store_row rfl 102 (.tmp 7) (.tmp 9) rfl (w.heap.size + 2) rfl (arr D) rfl 102 _ hbm hi41 hsz0 (arr_one _) ?_))
  go_loopw [12] (fun i wr => ∃ l : Nat, l ≤ 41 - p ∧ i = .int .i64 l ∧ Below w.heap.size w wr ∧ Blk wr w.heap.size 102 (arr D) ∧ Blk wr (w.heap.size + 1) 102 (arr (List.replicate 41 0)) ∧ Blk wr (w.heap.size + 2) 102 (arr (womid D p sg l))) (fun i _ => 41 - (intOf i).toNat)
  case atStart =>
    refine ⟨0, Nat.zero_le _, rfl, below_setRow' ((((Below.refl _ _).alloc (Nat.le_refl _) _).alloc (by simp) _).alloc (by simp; omega) _) (by omega) _, ?_, ?_, ?_⟩
    · exact (hba.alloc _).rowOff (by omega)
    · exact (hbr.alloc _).rowOff (by omega)
    · rw [womid_zero HD.out]; exact hbm.row
  case round =>
    obtain ⟨l, hl, rfl, hbel, hb1, hb2, hb3⟩ := hrel
    by_cases hlt : l < 41 - p
    · have hlp : l + p < 41 := by omega
      have hl41 : l < 41 := by omega
      have b1 := HB.out (l + p)
      have b2 := HB.out l
      have HSET := Lib.hid (womid_set D p sg l hp hlp)
      have hc1 : wr.cell? ⟨w.heap.size, l, none⟩ = some (.int .i64 (D.getD l 0)) := by rw [hb1.cell l, arr_get _ l (by rw [HD.out]; exact hl41), getD_lt (by rw [HD.out]; exact hl41)]
      have hc2 : wr.cell? ⟨w.heap.size + 2, l + p, none⟩ = some (.int .i64 (D.getD (l + p) 0)) := by rw [hb3.cell (l + p), arr_get _ (l + p) (by rw [womid_len]; exact hlp), womid_hi D p sg l hlp]
      have hf2 : wr.frozen? ⟨w.heap.size + 2, l + p, none⟩ = false := hb3.free (l + p)
      have hl41' : (l : Int) < 41 := by omega
      obtain ⟨q, hq⟩ : ∃ q : Nat, q = l + p := ⟨_, rfl⟩
      rw [← hq] at hf2 b1
      have hc2' : wr.cell? ⟨w.heap.size + 2, q, none⟩ = some (.int .i64 (D.getD q 0)) := by rw [hq]; exact hc2
      have HSET' : Hid ((womid D p sg l).set q (D.getD q 0 + sg * D.getD l 0) = womid D p sg (l + 1)) := Lib.hid (by rw [hq]; exact HSET.out)
      clear hc2 HSET
      have hw : IntKind.i64.wrap ((l : Int) + (p : Int)) = (q : Int) := by rw [IntWalk.i64_in _ (by omega)]; omega
      have hq41 : (q : Int) < 41 := by omega
      have hq41' : q < 41 := by omega
      clear hq
      generalize D.getD q 0 = x at *
      generalize D.getD l 0 = y at *
      obtain ⟨pr, hpr0, HPR⟩ : ∃ pr : Int, (-1099511627776 ≤ pr ∧ pr ≤ 1099511627776) ∧ Hid (sg * y = pr) := by
        rcases HSG.out with h | h
        · exact ⟨y, b2, Lib.hid (by rw [h, Int.one_mul])⟩
        · exact ⟨-y, by omega, Lib.hid (by rw [h]; omega)⟩
      have hw2 : IntKind.i64.wrap (sg * y) = pr := by rw [HPR.out]; exact IntWalk.i64_in _ (by omega)
      have hw3 : IntKind.i64.wrap (x + pr) = x + pr := IntWalk.i64_in _ (by omega)
      rw [HPR.out] at HSET'
      go_wp2
      go_still_tail 12, (by kernel_rfl)
      change wpList _ _ _ _ _ wr.drew
      have hbel' : Below w.heap.size w wr.drew := hbel.trans ((Dr.n wr 1).below _)
      have hb1' : Blk wr.drew w.heap.size 102 (arr D) := hb1
      have hb2' : Blk wr.drew (w.heap.size + 1) 102 (arr (List.replicate 41 0)) := hb2
      have hb3' : Blk wr.drew (w.heap.size + 2) 102 (arr (womid D p sg l)) := hb3
      have hf3 : wr.drew.frozen? ⟨w.heap.size + 2, q, none⟩ = false := hf2
      have hc3 : wr.drew.cell? ⟨w.heap.size + 2, q, none⟩ = some (.int .i64 x) := hc2'
      generalize wr.drew = w2 at *
      clear hbel hb1 hb2 hb3
      go_wp2
      go_roundw
      case rel =>
        refine ⟨l + 1, by omega, by go_num, hbel'.setCell (by show w.heap.size ≤ w.heap.size + 2; omega) _, hb1'.off (by show w.heap.size ≠ w.heap.size + 2; omega) _, hb2'.off (by show w.heap.size + 1 ≠ w.heap.size + 2; omega) _, ?_⟩
        have e := hb3'.set q (.int .i64 (x + pr))
        rw [arr_set, HSET'.out] at e
        exact e
      case measure => simp [intOf]; omega
    · obtain rfl : l = 41 - p := by omega
      have HE := Lib.hid (womid_end D p sg (41 - p) (by omega))
      have hi2 : (Try.prog.info? 102).map (·.size) = some (arr (womid D p sg (41 - p))).size := by rw [arr_size, womid_len]; exact T_info41
      have hsz : (arr (womid D p sg (41 - p))).size = (arr (List.replicate 41 0)).size := by rw [arr_size, arr_size, womid_len]; rfl
      go_wp2_with (first | (refine wpList_load_row rfl 102 (.tmp 7) rfl (w.heap.size + 2) rfl 102 (arr (womid D p sg (41 - p))) (0, 0) _ hb3 Try.underlying102 rfl hi2 ?_) | (refine wpList_store_row rfl 102 (.tmp 6) (.tmp 28) rfl (w.heap.size + 1) rfl (arr (womid D p sg (41 - p))) rfl 102 _ hb2 hi2 hsz (arr_one _) ?_))
      refine bodyPost_ret (results_cell_row rfl _ _ (w.heap.size + 1) 102 (arr (womid D p sg (41 - p))) (0, 0) _ rfl hb2.row Try.underlying102 rfl hi2) rfl ?_
      exact ⟨by rw [HE.out], below_setRow' hbel (by omega) _⟩



end Go.Proofs.Ytgkghebjaedjmaa
namespace Go.Proofs.Ytgkghebjaedjmaa
open Go.RowKit NP
set_option maxRecDepth 8000
set_option linter.unusedVariables false
set_option linter.unusedSimpArgs false

theorem withMarked_any (j : Nat) (hj : j < 40) (w : World) :
    Calls Try.prog 80 #[.agg (arr (mkrow j)), .int .i64 ((j : Int) + 1)] w fun e w' => e = .returned (.agg (arr (mkrow (j + 1)))) ∧ Below w.heap.size w w' := by
  have hi1 : (Try.prog.info? 102).map (·.size) = some (arr (mkrow j)).size := by rw [arr_size, mkrow_len]; exact T_info41
  have hi2 : (Try.prog.info? 102).map (·.size) = some (arr (mkrow (j + 1))).size := by rw [arr_size, mkrow_len]; exact T_info41
  have hsz : (arr (mkrow (j + 1))).size = (arr (List.replicate 41 0)).size := by rw [arr_size, arr_size, mkrow_len]; rfl
  have hb0 := (Blk.new w 102 (arr (mkrow j))).alloc (.cells (arr (List.replicate 41 0)) 102)
  have hb1 := Blk.new (w.alloc (.cells (arr (mkrow j)) 102)) 102 (arr (List.replicate 41 0))
  rw [World.size_alloc] at hb1
  have hbel : Below w.heap.size w ((w.alloc (.cells (arr (mkrow j)) 102)).alloc (.cells (arr (List.replicate 41 0)) 102)) := ((Below.refl _ _).alloc (Nat.le_refl _) _).alloc (by simp) _
  have H1 := Lib.hid (fun w => withMany_any (mkrow j) (mkrow_len j) (j + 1) (by omega) (by omega) (mkrow_bd (by omega)) w)
  have H2 := Lib.hid (fun w => withOnce_any (wrow (mkrow j) (j + 1)) (wrow_len _ _) (j + 1) (by omega) (by omega) 1 (.inl rfl) (wmk_bd (by omega)) w)
  go_enter Try.func80, Try.ntmps80
  go_wp2_with (first
    | (refine wpList_store_row rfl 102 (.tmp 4) (.tmp 9) rfl (w.heap.size + 1) rfl (arr (mkrow (j + 1))) rfl 102 _ hb3 hi2 hsz (arr_one _) ?_)
    | (go_at_call 97; refine (H2.out _).mono ?_; rintro e w2 ⟨rfl, hbx⟩; have hb3 := hb2.below hbx hb2.lt; have hbel3 := hbel2.trans (hbx.mono hbel2.size))
    | (go_at_call 96; refine (H1.out _).mono ?_; rintro e w1 ⟨rfl, hbw⟩; have hb2 := hb1.below hbw hb1.lt; have hbel2 := hbel.trans (hbw.mono hbel.size))
    | (refine wpList_load_row rfl 102 (.tmp 2) rfl w.heap.size rfl 102 (arr (mkrow j)) (0, 0) _ hb0 Try.underlying102 rfl hi1 ?_))
  refine bodyPost_ret (results_cell_row rfl _ _ (w.heap.size + 1) 102 (arr (mkrow (j + 1))) (0, 0) _ rfl hb3.row Try.underlying102 rfl hi2) rfl ?_
  exact ⟨rfl, below_setRow' hbel3 (by omega) _⟩

theorem withColors_any (j : Nat) (hj : j < 16) (w : World) :
    Calls Try.prog 81 #[.agg (arr (plrow j)), .int .i64 ((j : Int) + 1)] w fun e w' => e = .returned (.agg (arr (plrow (j + 1)))) ∧ Below w.heap.size w w' := by
  have hlen : ∀ i, (wpow (plrow j) (j + 1) i).length = 41 := fun i => wpow_len (plrow_len j) _ _
  have hi : ∀ i, (Try.prog.info? 102).map (·.size) = some (arr (wpow (plrow j) (j + 1) i)).size := fun i => by rw [arr_size, hlen]; exact T_info41
  have hsz : ∀ i k, (arr (wpow (plrow j) (j + 1) i)).size = (arr (wpow (plrow j) (j + 1) k)).size := fun i k => by rw [arr_size, arr_size, hlen, hlen]
  have hsz0 : (arr (wpow (plrow j) (j + 1) (j + 1))).size = (arr (List.replicate 41 0)).size := by rw [arr_size, arr_size, hlen]; rfl
  have hb0 : Blk ((w.alloc (.cells (arr (plrow j)) 102)).alloc (.cells (arr (List.replicate 41 0)) 102)) w.heap.size 102 (arr (wpow (plrow j) (j + 1) 0)) := (Blk.new w 102 (arr (plrow j))).alloc (.cells (arr (List.replicate 41 0)) 102)
  have hb1 := Blk.new (w.alloc (.cells (arr (plrow j)) 102)) 102 (arr (List.replicate 41 0))
  rw [World.size_alloc] at hb1
  have hbel : Below w.heap.size w ((w.alloc (.cells (arr (plrow j)) 102)).alloc (.cells (arr (List.replicate 41 0)) 102)) := ((Below.refl _ _).alloc (Nat.le_refl _) _).alloc (by simp) _
  have HL := Lib.hid hlen
  have HI := Lib.hid hi
  have HZ := Lib.hid hsz
  clear hlen hi hsz
  go_enter Try.func81, Try.ntmps81
  go_wp2_with fail
  go_loopw [6] (fun i wr => ∃ k : Nat, k ≤ j + 1 ∧ i = .int .i64 k ∧ Below w.heap.size w wr ∧ Blk wr (w.heap.size + 1) 102 (arr (List.replicate 41 0)) ∧ Blk wr w.heap.size 102 (arr (wpow (plrow j) (j + 1) k))) (fun i _ => 50 - (intOf i).toNat)
  case atStart => exact ⟨0, Nat.zero_le _, rfl, hbel, hb1, hb0⟩
  case round =>
    clear hb0 hb1 hbel
    obtain ⟨k, hk, rfl, hbel, hb1, hb0⟩ := hrel
    have hik := HI.out k
    by_cases hlt : k < j + 1
    · have hlt' : (k : Int) < (j : Int) + 1 := by omega
      have hik1 := HI.out (k + 1)
      have hsz := HZ.out (k + 1) k
      have H1 := Lib.hid (fun w => withMany_any (wpow (plrow j) (j + 1) k) (HL.out k) (j + 1) (by omega) (by omega) (wpow_bd hj hlt) w)
      have HW : Hid (wrow (wpow (plrow j) (j + 1) k) (j + 1) = wpow (plrow j) (j + 1) (k + 1)) := Lib.hid rfl
      rw [HW.out] at H1
      go_wp2_with (first
        | (refine wpList_load_row rfl 102 (.tmp 2) rfl w.heap.size rfl 102 (arr (wpow (plrow j) (j + 1) k)) (0, 0) _ hb0 Try.underlying102 rfl hik ?_)
        | (go_at_call 96; refine (H1.out _).mono ?_; rintro e w1 ⟨rfl, hbw⟩; have hb0' := hb0.below hbw hb0.lt; have hb1' := hb1.below hbw hb1.lt; have hbel' := hbel.trans (hbw.mono hbel.size))
        | (refine wpList_store_row rfl 102 (.tmp 2) (.tmp 10) rfl w.heap.size rfl (arr (wpow (plrow j) (j + 1) (k + 1))) rfl 102 _ hb0' hik1 hsz (arr_one _) ?_))
      go_roundw
      case rel => exact ⟨k + 1, by omega, by go_num, below_setRow' hbel' (Nat.le_refl _) _, hb1'.rowOff (by omega), hb0'.row⟩
      case measure => simp [intOf]; omega
    · obtain rfl : k = j + 1 := by omega
      have hlt' : (j : Int) + 1 ≤ (j : Int) + 1 := by omega
      go_wp2_with (first
        | (refine wpList_load_row rfl 102 (.tmp 2) rfl w.heap.size rfl 102 (arr (wpow (plrow j) (j + 1) (j + 1))) (0, 0) _ hb0 Try.underlying102 rfl hik ?_)
        | (refine wpList_store_row rfl 102 (.tmp 4) (.tmp 12) rfl (w.heap.size + 1) rfl (arr (wpow (plrow j) (j + 1) (j + 1))) rfl 102 _ hb1 hik hsz0 (arr_one _) ?_))
      refine bodyPost_ret (results_cell_row rfl _ _ (w.heap.size + 1) 102 (arr (wpow (plrow j) (j + 1) (j + 1))) (0, 0) _ rfl hb1.row Try.underlying102 rfl hik) rfl ?_
      exact ⟨rfl, below_setRow' hbel (by omega) _⟩

theorem mkIn_any (n : Int) (w : World) : Calls Try.prog 125 #[.int .i64 n] w fun e w' => e = .returned (.bool (decide (0 ≤ n ∧ n ≤ 40))) ∧ w = w' := by
  by_cases h1 : 0 ≤ n
  · by_cases h2 : n ≤ 40
    · have HF := Lib.hid (decide_eq_true (And.intro h1 h2))
      rw [HF.out]
      have d1 : decide (0 ≤ n) = true := decide_eq_true h1
      have d2 : decide (n ≤ 40) = true := decide_eq_true h2
      go_enter Try.func125, Try.ntmps125
      go_wp2
      go_ret
      exact ⟨rfl, rfl⟩
    · have HF : Hid (decide (0 ≤ n ∧ n ≤ 40) = false) := Lib.hid (decide_eq_false (by omega))
      rw [HF.out]
      have d1 : decide (0 ≤ n) = true := decide_eq_true h1
      have d2 : decide (n ≤ 40) = false := decide_eq_false h2
      go_enter Try.func125, Try.ntmps125
      go_wp2
      go_ret
      exact ⟨rfl, rfl⟩
  · have HF : Hid (decide (0 ≤ n ∧ n ≤ 40) = false) := Lib.hid (decide_eq_false (by omega))
    rw [HF.out]
    have d1 : decide (0 ≤ n) = false := decide_eq_false h1
    go_enter Try.func125, Try.ntmps125
    go_wp2
    go_ret
    exact ⟨rfl, rfl⟩
theorem plIn_any (n : Int) (w : World) : Calls Try.prog 126 #[.int .i64 n] w fun e w' => e = .returned (.bool (decide (0 ≤ n ∧ n ≤ 16))) ∧ w = w' := by
  by_cases h1 : 0 ≤ n
  · by_cases h2 : n ≤ 16
    · have HF := Lib.hid (decide_eq_true (And.intro h1 h2))
      rw [HF.out]
      have d1 : decide (0 ≤ n) = true := decide_eq_true h1
      have d2 : decide (n ≤ 16) = true := decide_eq_true h2
      go_enter Try.func126, Try.ntmps126
      go_wp2
      go_ret
      exact ⟨rfl, rfl⟩
    · have HF : Hid (decide (0 ≤ n ∧ n ≤ 16) = false) := Lib.hid (decide_eq_false (by omega))
      rw [HF.out]
      have d1 : decide (0 ≤ n) = true := decide_eq_true h1
      have d2 : decide (n ≤ 16) = false := decide_eq_false h2
      go_enter Try.func126, Try.ntmps126
      go_wp2
      go_ret
      exact ⟨rfl, rfl⟩
  · have HF : Hid (decide (0 ≤ n ∧ n ≤ 16) = false) := Lib.hid (decide_eq_false (by omega))
    rw [HF.out]
    have d1 : decide (0 ≤ n) = false := decide_eq_false h1
    go_enter Try.func126, Try.ntmps126
    go_wp2
    go_ret
    exact ⟨rfl, rfl⟩

theorem ta_marked (v : Value) (w : World) : (Instr.typeAssert (.iface 72 v) 99 72 true).run Try.prog w = .ok (.tuple #[v, .bool true]) w := by kernel_rfl
theorem countOfMarked_any (n : Int) (w : World) : Calls Try.prog 53 #[.iface 72 (.int .i64 n)] w fun e w' => e = .returned (.int .i64 (mkF n)) ∧ Below w.heap.size w w' := by
  by_cases h : 0 ≤ n ∧ n ≤ 40
  · have HF : Hid (mkF n = (mkrow n.toNat).getD n.toNat 0) := Lib.hid (by unfold mkF; rw [if_pos h])
    rw [HF.out]
    have hd : decide (0 ≤ n ∧ n ≤ 40) = true := decide_eq_true h
    obtain ⟨k, rfl⟩ := Int.eq_ofNat_of_zero_le h.1
    have hk : k ≤ 40 := by omega
    rw [Int.toNat_natCast]
    have HIN := Lib.hid (fun w => mkIn_any (k : Int) w)
    rw [hd] at HIN
    clear h hd
    have H := Lib.hid (countsBy_any 80 (enters_of Try.func80 (by kernel_rfl) rfl) mkrow rfl mkrow_len k hk (fun j hj w1 => withMarked_any j (by omega) w1))
    have hix := fun w => T_index41 (mkrow k) k (by rw [mkrow_len]; omega) (by omega) w
    have hta := ta_marked
    go_enter Try.func53, Try.ntmps53
    go_wp2_with (first
      | (go_at_call 79; refine (H.out _).mono ?_; rintro e w1 ⟨rfl, hb⟩)
      | (go_at_call 125; refine (HIN.out _).mono ?_; rintro e w1 ⟨rfl, rfl⟩))
    go_ret
    exact ⟨ret_i64 (getD_lt (by rw [mkrow_len]; omega)).symm, hb⟩
  · have HF : Hid (mkF n = -1) := Lib.hid (by unfold mkF; rw [if_neg h])
    rw [HF.out]
    have hd : decide (0 ≤ n ∧ n ≤ 40) = false := decide_eq_false h
    have HIN := Lib.hid (fun w => mkIn_any n w)
    rw [hd] at HIN
    clear h hd
    go_enter Try.func53, Try.ntmps53
    go_wp2_with (go_at_call 125; refine (HIN.out _).mono ?_; rintro e w1 ⟨rfl, rfl⟩)
    go_ret
    exact ⟨rfl, Below.refl _ _⟩
theorem iCountMarked_any (n : Int) (w : World) : Calls Try.prog 19 #[.int .i64 n] w fun e w' => e = .returned (.int .i64 (mkF n)) ∧ Below w.heap.size w w' := by
  go_enter Try.func19, Try.ntmps19
  go_wp2_with (go_at_call 53; refine (countOfMarked_any n _).mono ?_; rintro e w1 ⟨rfl, hb⟩)
  go_ret
  exact ⟨rfl, hb⟩
theorem ta_pile (v : Value) (w : World) : (Instr.typeAssert (.iface 83 v) 99 83 true).run Try.prog w = .ok (.tuple #[v, .bool true]) w := by kernel_rfl
theorem ta_pile_no (v : Value) (w : World) : (Instr.typeAssert (.iface 83 v) 99 72 true).run Try.prog w = .ok (.tuple #[.int .i64 0, .bool false]) w := by kernel_rfl
theorem countOfPiles_any (n : Int) (w : World) : Calls Try.prog 53 #[.iface 83 (.int .i64 n)] w fun e w' => e = .returned (.int .i64 (plF n)) ∧ Below w.heap.size w w' := by
  by_cases h : 0 ≤ n ∧ n ≤ 16
  · have HF : Hid (plF n = (plrow n.toNat).getD n.toNat 0) := Lib.hid (by unfold plF; rw [if_pos h])
    rw [HF.out]
    have hd : decide (0 ≤ n ∧ n ≤ 16) = true := decide_eq_true h
    obtain ⟨k, rfl⟩ := Int.eq_ofNat_of_zero_le h.1
    have hk : k ≤ 16 := by omega
    rw [Int.toNat_natCast]
    have HIN := Lib.hid (fun w => plIn_any (k : Int) w)
    rw [hd] at HIN
    clear h hd
    have H := Lib.hid (countsBy_any 81 (enters_of Try.func81 (by kernel_rfl) rfl) plrow rfl plrow_len k (by omega) (fun j hj w1 => withColors_any j (by omega) w1))
    have hix := fun w => T_index41 (plrow k) k (by rw [plrow_len]; omega) (by omega) w
    have hta := ta_pile
    have htb := ta_pile_no
    go_enter Try.func53, Try.ntmps53
    go_wp2_with (first
      | (go_at_call 79; refine (H.out _).mono ?_; rintro e w1 ⟨rfl, hb⟩)
      | (go_at_call 126; refine (HIN.out _).mono ?_; rintro e w1 ⟨rfl, rfl⟩))
    go_ret
    exact ⟨ret_i64 (getD_lt (by rw [plrow_len]; omega)).symm, hb⟩
  · have HF : Hid (plF n = -1) := Lib.hid (by unfold plF; rw [if_neg h])
    rw [HF.out]
    have hd : decide (0 ≤ n ∧ n ≤ 16) = false := decide_eq_false h
    have HIN := Lib.hid (fun w => plIn_any n w)
    rw [hd] at HIN
    clear h hd
    go_enter Try.func53, Try.ntmps53
    go_wp2_with (go_at_call 126; refine (HIN.out _).mono ?_; rintro e w1 ⟨rfl, rfl⟩)
    go_ret
    exact ⟨rfl, Below.refl _ _⟩
theorem iCountPiles_any (n : Int) (w : World) : Calls Try.prog 29 #[.int .i64 n] w fun e w' => e = .returned (.int .i64 (plF n)) ∧ Below w.heap.size w w' := by
  go_enter Try.func29, Try.ntmps29
  go_wp2_with (go_at_call 53; refine (countOfPiles_any n _).mono ?_; rintro e w1 ⟨rfl, hb⟩)
  go_ret
  exact ⟨rfl, hb⟩
end Go.Proofs.Ytgkghebjaedjmaa
