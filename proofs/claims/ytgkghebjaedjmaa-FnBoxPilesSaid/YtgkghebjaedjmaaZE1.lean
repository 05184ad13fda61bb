/-
  Plain mathematics of counts: how many parts have a sum, none greater than a number. Plain mathematics of counts, over whole numbers. Walks: inRange, countTo of the model; withMany, countsUpTo of the program. Walks: CountParts, AtMostParts, JustParts of the model and of the program. Plain mathematics of sums over squares and divisors. Walks: SquareSum, SelfCount, DivisorSum, Pentagonal of the model and of the program. Plain mathematics of counts with signs. Walks: withOnce of the program, SignedDistinct of the model and of the program. Walks: the draws of numbers: CountParts, AtMostParts, JustParts, DivisorSum, Pentagonal, SignedDistinct. Walks: the draw of BoxPiles. Plain mathematics of places: how many parts come ahead, and the parts at a place.
-/
import Derived.Test.YtgkghebjaedjmaaZC1
import Derived.Test.YtgkghebjaedjmaaZC2
import Derived.Test.YtgkghebjaedjmaaZC3
import Derived.Test.YtgkghebjaedjmaaZC4
import Derived.Test.YtgkghebjaedjmaaZC5
import Derived.Test.YtgkghebjaedjmaaZC6
import Derived.Test.YtgkghebjaedjmaaZC7
import Derived.Test.YtgkghebjaedjmaaZC8
import Derived.Test.YtgkghebjaedjmaaZC9
import Derived.Test.YtgkghebjaedjmaaProg
import Derived.Deep.QuietTactic
import Derived.BigQuiet
import Derived.StillTailTactics
import Derived.IntWalk
import Derived.Lib.Hide
import Derived.Shelf.Abstract
namespace Go.Proofs.Ytgkghebjaedjmaa
namespace NP
set_option linter.unusedVariables false
/-- how many parts of n, none greater than k -/
def ct : Nat → Nat → Nat
  | 0, _ => 1
  | _ + 1, 0 => 0
  | n + 1, k + 1 => ct (n + 1) k + (if k ≤ n then ct (n - k) (k + 1) else 0)
termination_by n k => n + k
decreasing_by all_goals omega
theorem ct_zero (k : Nat) : ct 0 k = 1 := by unfold ct; rfl
theorem ct_none (n : Nat) (h : 0 < n) : ct n 0 = 0 := by
  cases n with
  | zero => omega
  | succ n => unfold ct; rfl
theorem ct_rec (n k : Nat) (hk : 1 ≤ k) (h : k ≤ n) : ct n k = ct n (k - 1) + ct (n - k) k := by
  cases n with
  | zero => omega
  | succ n =>
    cases k with
    | zero => omega
    | succ k =>
      rw [ct, if_pos (by omega)]
      simp
theorem ct_big (n k : Nat) (hk : 1 ≤ k) (h : n < k) : ct n k = ct n (k - 1) := by
  cases n with
  | zero => rw [ct_zero, ct_zero]
  | succ n =>
    cases k with
    | zero => omega
    | succ k =>
      rw [ct, if_neg (by omega)]
      simp
theorem ct_pow (m : Nat) : ∀ n k, n + k = m → 1 ≤ n → ct n k + 2 ^ (n - k) ≤ 2 ^ n := by
  induction m using Nat.strongRecOn with
  | _ m ih =>
    intro n k hm hn
    cases k with
    | zero => rw [ct_none n hn]; simp
    | succ k =>
      have i1 := ih (n + k) (by omega) n k rfl hn
      rcases Nat.lt_or_ge n (k + 1) with h | h
      · rw [ct_big n (k + 1) (by omega) h, Nat.add_sub_cancel]
        have e : n - (k + 1) = n - k := by omega
        rw [e]; exact i1
      · rw [ct_rec n (k + 1) (by omega) h, Nat.add_sub_cancel]
        have e1 : n - k = n - (k + 1) + 1 := by omega
        rw [e1, Nat.pow_succ] at i1
        rcases Nat.eq_zero_or_pos (n - (k + 1)) with h0 | h0
        · rw [h0, ct_zero]
          rw [h0] at i1
          omega
        · have i2 := ih (n - (k + 1) + (k + 1)) (by omega) (n - (k + 1)) (k + 1) rfl h0
          have := Nat.two_pow_pos (n - (k + 1) - (k + 1))
          omega
theorem ct_le (n k : Nat) (h : n ≤ 40) : ct n k ≤ 1099511627776 := by
  rcases Nat.eq_zero_or_pos n with rfl | h0
  · rw [ct_zero]; decide
  · have h1 := ct_pow _ n k rfl h0
    have h2 : 2 ^ n ≤ 2 ^ 40 := Nat.pow_le_pow_right (by decide) h
    have h3 : (2 : Nat) ^ 40 = 1099511627776 := by decide
    have h4 := Nat.two_pow_pos (n - k)
    omega
/-- counts when a further number may come -/
def wv (D : List Int) (p : Nat) (s : Nat) : Int := if h : p = 0 ∨ s < p then D.getD s 0 else D.getD s 0 + wv D p (s - p)
termination_by s
decreasing_by have := h; omega
theorem wv_low (D : List Int) (p s : Nat) (h : s < p) : wv D p s = D.getD s 0 := by rw [wv, dif_pos (.inr h)]
theorem wv_high (D : List Int) (p s : Nat) (hp : 1 ≤ p) (h : p ≤ s) : wv D p s = D.getD s 0 + wv D p (s - p) := by rw [wv, dif_neg (by omega)]
def wrow (D : List Int) (p : Nat) : List Int := (List.range 41).map (wv D p)
def wmid (D : List Int) (p l : Nat) : List Int := (List.range 41).map fun s => if s < p + l then wv D p s else D.getD s 0
theorem wrow_len (D : List Int) (p : Nat) : (wrow D p).length = 41 := by simp [wrow]
theorem wmid_len (D : List Int) (p l : Nat) : (wmid D p l).length = 41 := by simp [wmid]
theorem wmid_zero {D : List Int} (hD : D.length = 41) (p : Nat) : wmid D p 0 = D := by
  apply List.ext_getElem
  · rw [wmid_len, hD]
  · intro j h1 h2
    simp only [wmid, List.getElem_map, List.getElem_range]
    rw [← getD_lt h2]
    split
    · exact wv_low D p j (by omega)
    · rfl
theorem wmid_end (D : List Int) (p l : Nat) (h : 41 ≤ p + l) : wmid D p l = wrow D p := by
  apply List.map_congr_left
  intro s hs
  rw [List.mem_range] at hs
  rw [if_pos (by omega)]
theorem wmid_lo (D : List Int) (p l : Nat) (hp : 1 ≤ p) (h : l < 41) : (wmid D p l)[l]'(by rw [wmid_len]; exact h) = wv D p l := by
  simp only [wmid, List.getElem_map, List.getElem_range]
  rw [if_pos (by omega)]
theorem wmid_hi (D : List Int) (p l : Nat) (h : l + p < 41) : (wmid D p l)[l + p]'(by rw [wmid_len]; exact h) = D.getD (l + p) 0 := by
  simp only [wmid, List.getElem_map, List.getElem_range]
  rw [if_neg (by omega)]
theorem wmid_set (D : List Int) (p l : Nat) (hp : 1 ≤ p) (h : l + p < 41) : (wmid D p l).set (l + p) (D.getD (l + p) 0 + wv D p l) = wmid D p (l + 1) := by
  apply List.ext_getElem
  · rw [List.length_set, wmid_len, wmid_len]
  · intro j h1 h2
    by_cases hj : l + p = j
    · subst hj
      rw [List.getElem_set_self]
      simp only [wmid, List.getElem_map, List.getElem_range]
      rw [if_pos (by omega), wv_high D p (l + p) hp (by omega), Nat.add_sub_cancel]
    · rw [List.getElem_set_ne hj]
      simp only [wmid, List.getElem_map, List.getElem_range]
      split <;> split <;> first | rfl | omega
/-- the counts of all parts, none greater than k -/
def crow (k : Nat) : List Int := (List.range 41).map fun s => (ct s k : Int)
theorem crow_len (k : Nat) : (crow k).length = 41 := by simp [crow]
theorem crow_getD (k s : Nat) (h : s < 41) : (crow k).getD s 0 = ct s k := by rw [getD_lt (by rw [crow_len]; exact h)]; simp [crow]
theorem crow_get (k s : Nat) (h : s < (crow k).length) : (crow k)[s] = ct s k := by simp [crow]
theorem wv_crow (k : Nat) (s : Nat) (h : s < 41) : wv (crow k) (k + 1) s = ct s (k + 1) := by
  induction s using Nat.strongRecOn with
  | _ s ih =>
    rcases Nat.lt_or_ge s (k + 1) with h1 | h1
    · rw [wv_low _ _ _ h1, crow_getD _ _ h, ct_big s (k + 1) (by omega) h1]; rfl
    · rw [wv_high _ _ _ (by omega) h1, crow_getD _ _ h, ih (s - (k + 1)) (by omega) (by omega), ct_rec s (k + 1) (by omega) h1]
      simp
theorem wrow_crow (k : Nat) : wrow (crow k) (k + 1) = crow (k + 1) := by
  apply List.map_congr_left
  intro s hs
  rw [List.mem_range] at hs
  exact wv_crow k s hs
theorem crow_zero : crow 0 = 1 :: List.replicate 40 0 := by
  have e : ∀ n, (List.range (n + 1)).map (fun s => ((ct s 0 : Nat) : Int)) = 1 :: List.replicate n 0 := by
    intro n
    induction n with
    | zero => simp [ct_zero]
    | succ n ih => rw [List.range_succ, List.map_append, ih, List.replicate_succ', List.map_cons, List.map_nil, ct_none _ (by omega)]; rfl
  exact e 40
end NP
end Go.Proofs.Ytgkghebjaedjmaa
namespace Go.Proofs.Ytgkghebjaedjmaa
namespace NP
set_option linter.unusedVariables false
def ctZ (n k : Int) : Int := if n < 0 then 0 else (ct n.toNat k.toNat : Int)
theorem ctZ_zero (k : Int) : ctZ 0 k = 1 := by unfold ctZ; rw [if_neg (by omega)]; simp [ct_zero]
theorem ctZ_neg (n k : Int) (h : n < 0) : ctZ n k = 0 := by unfold ctZ; rw [if_pos h]
theorem ctZ_none (n : Int) (h : 0 < n) : ctZ n 0 = 0 := by unfold ctZ; rw [if_neg (by omega), Int.toNat_zero, ct_none _ (by omega)]; rfl
theorem ctZ_nat (n k : Nat) : ctZ n k = ct n k := by unfold ctZ; rw [if_neg (by omega)]; simp
theorem ctZ_rec (n k : Int) (hn : 1 ≤ n) (hk : 1 ≤ k) : ctZ n k = ctZ n (k - 1) + ctZ (n - k) k := by
  obtain ⟨n, rfl⟩ := Int.eq_ofNat_of_zero_le (by omega : 0 ≤ n)
  obtain ⟨k, rfl⟩ := Int.eq_ofNat_of_zero_le (by omega : 0 ≤ k)
  have e : (k : Int) - 1 = ((k - 1 : Nat) : Int) := by omega
  rw [e, ctZ_nat, ctZ_nat]
  rcases Nat.lt_or_ge n k with h | h
  · rw [ctZ_neg _ _ (by omega), ct_big n k (by omega) h]; omega
  · have e2 : (n : Int) - k = ((n - k : Nat) : Int) := by omega
    rw [e2, ctZ_nat, ct_rec n k (by omega) h]; omega
theorem ctZ_bd (n k : Int) (h : n ≤ 40) : 0 ≤ ctZ n k ∧ ctZ n k ≤ 1099511627776 := by
  unfold ctZ
  split
  · omega
  · have := ct_le n.toNat k.toNat (by omega)
    omega
theorem ctZ_crow (n k : Int) (h0 : 0 ≤ n) (h : n ≤ 40) : (crow k.toNat).getD n.toNat 0 = ctZ n k := by
  rw [crow_getD _ _ (by omega)]
  unfold ctZ
  rw [if_neg (by omega)]
/-- how many parts have a sum -/
def cpF (n : Int) : Int := if 0 ≤ n ∧ n ≤ 40 then ctZ n n else -1
/-- at most so many -/
def amF (n k : Int) : Int := if (0 ≤ n ∧ n ≤ 40) ∧ (0 ≤ k ∧ k ≤ 40) then ctZ n k else -1
/-- just so many -/
def jpF (n k : Int) : Int := if (0 ≤ n ∧ n ≤ 40) ∧ (0 ≤ k ∧ k ≤ 40) then ctZ (n - k) k else -1
theorem jp_spec (n k : Int) (hn : 0 ≤ n) (hk : 0 < k) : ctZ n k - ctZ n (k - 1) = ctZ (n - k) k := by
  rcases Int.lt_or_le 0 n with h | h
  · rw [ctZ_rec n k (by omega) (by omega)]; omega
  · obtain rfl : n = 0 := by omega
    rw [ctZ_zero, ctZ_zero, ctZ_neg _ _ (by omega)]; rfl
end NP
end Go.Proofs.Ytgkghebjaedjmaa
namespace Go.Proofs.Ytgkghebjaedjmaa
open Go.RowKit NP
set_option maxRecDepth 8000
set_option linter.unusedVariables false

theorem rngYes (n lo hi : Int) (w : World) (h1 : lo ≤ n) (h2 : n ≤ hi) : Calls Try.prog 38 #[.int .i64 n, .int .i64 lo, .int .i64 hi] w fun e w' => e = .returned (.bool true) ∧ w' = w := by
  go_enter Try.func38, Try.ntmps38
  go_wp2
  go_ret
  exact ⟨rfl, rfl⟩
theorem rngNo (n lo hi : Int) (w : World) (h : n < lo ∨ hi < n) : Calls Try.prog 38 #[.int .i64 n, .int .i64 lo, .int .i64 hi] w fun e w' => e = .returned (.bool false) ∧ w' = w := by
  by_cases h1 : lo ≤ n
  · have h2 : hi < n := by omega
    clear h
    go_enter Try.func38, Try.ntmps38
    go_wp2
    go_ret
    exact ⟨ret_bool (by simp; omega), rfl⟩
  · clear h
    go_enter Try.func38, Try.ntmps38
    go_wp2
    go_ret
    exact ⟨rfl, rfl⟩
def inR (n lo hi : Int) : Bool := decide (lo ≤ n) && decide (n ≤ hi)
theorem inRange_any (n lo hi : Int) (w : World) : Calls Try.prog 38 #[.int .i64 n, .int .i64 lo, .int .i64 hi] w fun e w' => e = .returned (.bool (inR n lo hi)) ∧ w = w' := by
  by_cases h : lo ≤ n ∧ n ≤ hi
  · refine (rngYes n lo hi w h.1 h.2).mono ?_
    rintro e w' ⟨rfl, rfl⟩
    exact ⟨ret_bool (by unfold inR; rw [decide_eq_true h.1, decide_eq_true h.2]; rfl), rfl⟩
  · refine (rngNo n lo hi w (by omega)).mono ?_
    rintro e w' ⟨rfl, rfl⟩
    refine ⟨ret_bool ?_, rfl⟩
    unfold inR
    rcases Int.lt_or_le n lo with h1 | h1
    · rw [decide_eq_false (by omega : ¬ lo ≤ n)]; rfl
    · rw [decide_eq_false (by omega : ¬ n ≤ hi)]; simp


theorem T_info41 : (Try.prog.info? 102).map (·.size) = some 41 := by kernel_rfl
theorem T_index41 (D : List Int) (k : Nat) (hk : k < D.length) (h16 : k < 41) (w : World) : (Instr.index 102 (.agg (arr D)) (.int .i64 k)).run Try.prog w = .ok (.int .i64 D[k]) w :=
  run_index_row 102 3 _ 41 Try.underlying102 Try.underlying3 rfl (by kernel_rfl) (arr D) k _ h16 (arr_get D k hk) .i64 w

theorem withMany_any (D : List Int) (hD : D.length = 41) (p : Nat) (hp : 1 ≤ p) (hp40 : p ≤ 40) (hb : ∀ s, s < 41 → (0 ≤ D.getD s 0 ∧ D.getD s 0 ≤ 1099511627776) ∧ 0 ≤ wv D p s ∧ wv D p s ≤ 1099511627776) (w : World) :
    Calls Try.prog 96 #[.agg (arr D), .int .i64 p] w fun e w' => e = .returned (.agg (arr (wrow D p))) ∧ Below w.heap.size w w' := by
  have HD := Lib.hid hD
  have hi41 : (Try.prog.info? 102).map (·.size) = some (arr D).size := by rw [arr_size, hD]; exact T_info41
  have HB := Lib.hid hb
  clear hD hb
  have hrange : (41 : Int) - (p : Int) = ((41 - p : Nat) : Int) := by omega
  have hb0 := (Blk.new w 102 (arr D)).alloc (.cells (arr (List.replicate 41 0)) 102)
  go_enter Try.func96, Try.ntmps96
  go_wp2
  go_loopw [8] (fun i wr => ∃ l : Nat, l ≤ 41 - p ∧ i = .int .i64 l ∧ Below w.heap.size w wr ∧ Blk wr (w.heap.size + 1) 102 (arr (List.replicate 41 0)) ∧ Blk wr w.heap.size 102 (arr (wmid D p l))) (fun i _ => 41 - (intOf i).toNat)
  case atStart =>
    refine ⟨0, Nat.zero_le _, rfl, ((Below.refl _ _).alloc (Nat.le_refl _) _).alloc (by simp) _, ?_, by rw [wmid_zero HD.out]; exact hb0⟩
    have e := Blk.new (w.alloc (.cells (arr D) 102)) 102 (arr (List.replicate 41 0))
    rw [World.size_alloc] at e
    exact e
  case round =>
    obtain ⟨l, hl, rfl, hbel, hb2, hb3⟩ := hrel
    by_cases hlt : l < 41 - p
    · have hlp : l + p < 41 := by omega
      have hl41 : l < 41 := by omega
      have b1 := (HB.out (l + p) hlp).1
      have b2 := (HB.out l hl41).2
      have hs : D.getD (l + p) 0 + wv D p l = wv D p (l + p) := by rw [wv_high D p (l + p) hp (by omega), Nat.add_sub_cancel]
      have b3 := (HB.out (l + p) hlp).2
      rw [← hs] at b3
      have HSET := Lib.hid (wmid_set D p l hp hlp)
      have hc1 : wr.cell? ⟨w.heap.size, l, none⟩ = some (.int .i64 (wv D p l)) := by rw [hb3.cell l, arr_get _ l (by rw [wmid_len]; exact hl41), wmid_lo D p l hp hl41]
      have hc2 : wr.cell? ⟨w.heap.size, l + p, none⟩ = some (.int .i64 (D.getD (l + p) 0)) := by rw [hb3.cell (l + p), arr_get _ (l + p) (by rw [wmid_len]; exact hlp), wmid_hi D p l hlp]
      have hf2 : wr.frozen? ⟨w.heap.size, l + p, none⟩ = false := hb3.free (l + p)
      have hl41' : (l : Int) < 41 := by omega
      clear hs
      obtain ⟨q, hq⟩ : ∃ q : Nat, q = l + p := ⟨_, rfl⟩
      rw [← hq] at hf2 b1 b3
      have hc2' : wr.cell? ⟨w.heap.size, q, none⟩ = some (.int .i64 (D.getD q 0)) := by rw [hq]; exact hc2
      have HSET' : Hid ((wmid D p l).set q (D.getD q 0 + wv D p l) = wmid D p (l + 1)) := Lib.hid (by rw [hq]; exact HSET.out)
      clear hc2 HSET
      have hw : IntKind.i64.wrap ((l : Int) + (p : Int)) = (q : Int) := by rw [IntWalk.i64_in _ (by omega)]; omega
      have hq41 : (q : Int) < 41 := by omega
      have hq41' : q < 41 := by omega
      clear hq
      generalize D.getD q 0 = x at *
      generalize wv D p l = y at *
      have hw2 : IntKind.i64.wrap (x + y) = x + y := IntWalk.i64_in _ (by omega)
      go_wp2
      go_still_tail 10, (by kernel_rfl)
      change wpList _ _ _ _ _ wr.drew
      have hbel' : Below w.heap.size w wr.drew := hbel.trans ((Dr.n wr 1).below _)
      have hb2' : Blk wr.drew (w.heap.size + 1) 102 (arr (List.replicate 41 0)) := hb2
      have hb3' : Blk wr.drew w.heap.size 102 (arr (wmid D p l)) := hb3
      have hf3 : wr.drew.frozen? ⟨w.heap.size, q, none⟩ = false := hf2
      have hc3 : wr.drew.cell? ⟨w.heap.size, q, none⟩ = some (.int .i64 x) := hc2'
      generalize wr.drew = w2 at *
      clear hbel hb2 hb3
      go_wp2
      go_roundw
      case rel =>
        refine ⟨l + 1, by omega, by go_num, hbel'.setCell (by show w.heap.size ≤ w.heap.size; omega) _, hb2'.off (by show w.heap.size + 1 ≠ w.heap.size; omega) _, ?_⟩
        have e := hb3'.set q (.int .i64 (x + y))
        rw [arr_set, HSET'.out] at e
        exact e
      case measure => simp [intOf]; omega
    · obtain rfl : l = 41 - p := by omega
      have HE := Lib.hid (wmid_end D p (41 - p) (by omega))
      have hi2 : (Try.prog.info? 102).map (·.size) = some (arr (wmid D p (41 - p))).size := by rw [arr_size, wmid_len]; exact T_info41
      have hsz : (arr (wmid D p (41 - p))).size = (arr (List.replicate 41 0)).size := by rw [arr_size, arr_size, wmid_len]; rfl
      go_wp2_with (first | (refine wpList_load_row rfl 102 (.tmp 2) rfl w.heap.size rfl 102 (arr (wmid D p (41 - p))) (0, 0) _ hb3 Try.underlying102 rfl hi2 ?_) | (refine wpList_store_row rfl 102 (.tmp 4) (.tmp 22) rfl (w.heap.size + 1) rfl (arr (wmid D p (41 - p))) rfl 102 _ hb2 hi2 hsz (arr_one _) ?_))
      refine bodyPost_ret (results_cell_row rfl _ _ (w.heap.size + 1) 102 (arr (wmid D p (41 - p))) (0, 0) _ rfl hb2.row Try.underlying102 rfl hi2) rfl ?_
      exact ⟨by rw [HE.out], below_setRow' hbel (by omega) _⟩

theorem crow_bd (k : Nat) : ∀ s, s < 41 → (0 ≤ (crow k).getD s 0 ∧ (crow k).getD s 0 ≤ 1099511627776) ∧ 0 ≤ wv (crow k) (k + 1) s ∧ wv (crow k) (k + 1) s ≤ 1099511627776 := fun s hs => by
  rw [crow_getD k s hs, wv_crow k s hs]
  have := ct_le s k (by omega)
  have := ct_le s (k + 1) (by omega)
  omega

theorem countsBy_any (ff : Nat) (he : ∀ (args : Array Value) (w : World), (callFunc ff args).run Try.prog w = .ok (.enter ff args) w) (R : Nat → List Int) (h0 : R 0 = 1 :: List.replicate 40 0) (hl : ∀ j, (R j).length = 41)
    (k : Nat) (hk : k ≤ 40) (hc : ∀ j : Nat, j < k → ∀ w1 : World, Calls Try.prog ff #[.agg (arr (R j)), .int .i64 ((j : Int) + 1)] w1 fun e w2 => e = .returned (.agg (arr (R (j + 1)))) ∧ Below w1.heap.size w1 w2) (w : World) :
    Calls Try.prog 79 #[.int .i64 k, .func (.func ff) #[] #[]] w fun e w' => e = .returned (.agg (arr (R k))) ∧ Below w.heap.size w w' := by
  have hi0 : (Try.prog.info? 102).map (·.size) = some (arr (1 :: List.replicate 40 0)).size := T_info41
  have hsz0 : (arr (1 :: List.replicate 40 0)).size = (arr (List.replicate 41 0)).size := rfl
  have hb1 : Blk ((w.alloc (.cells (arr (List.replicate 41 0)) 102)).alloc (.cells (arr (List.replicate 41 0)) 102)) (w.heap.size + 1) 102 (arr (List.replicate 41 0)) := by
    have e := Blk.new (w.alloc (.cells (arr (List.replicate 41 0)) 102)) 102 (arr (List.replicate 41 0))
    rw [World.size_alloc] at e
    exact e
  have HC := Lib.hid hc
  have HL := Lib.hid hl
  clear hc hl
  go_enter Try.func79, Try.ntmps79
  go_wp2_with (refine wpList_store_row rfl 102 (.tmp 5) (.tmp 7) rfl (w.heap.size + 1) rfl (arr (1 :: List.replicate 40 0)) rfl 102 _ hb1 hi0 hsz0 (arr_one _) ?_)
  go_loopw [6] (fun i wr => ∃ j : Nat, j ≤ k ∧ i = .int .i64 ((j : Int) + 1) ∧ Below w.heap.size w wr ∧ Blk wr w.heap.size 102 (arr (List.replicate 41 0)) ∧ Blk wr (w.heap.size + 1) 102 (arr (R j))) (fun i _ => 50 - (intOf i).toNat)
  case atStart =>
    refine ⟨0, Nat.zero_le _, rfl, below_setRow' (((Below.refl _ _).alloc (Nat.le_refl _) _).alloc (by simp) _) (by omega) _, ?_, ?_⟩
    · exact ((Blk.new w 102 (arr (List.replicate 41 0))).alloc _).rowOff (by omega)
    · rw [h0]; exact hb1.row
  case round =>
    obtain ⟨j, hj, rfl, hbel, hb2, hb3⟩ := hrel
    have hi2 : (Try.prog.info? 102).map (·.size) = some (arr (R j)).size := by rw [arr_size, HL.out]; exact T_info41
    by_cases hlt : j < k
    · have hlt' : (j : Int) + 1 ≤ (k : Int) := by omega
      have hi3 : (Try.prog.info? 102).map (·.size) = some (arr (R (j + 1))).size := by rw [arr_size, HL.out]; exact T_info41
      have hsz : (arr (R (j + 1))).size = (arr (R j)).size := by rw [arr_size, arr_size, HL.out, HL.out]
      have HCj := Lib.hid (HC.out j hlt)
      go_wp2_with (first
        | (refine wpList_load_row rfl 102 (.tmp 5) rfl (w.heap.size + 1) rfl 102 (arr (R j)) (0, 0) _ hb3 Try.underlying102 rfl hi2 ?_)
        | (with_reducible refine (HCj.out _).mono ?_; rintro e w1 ⟨rfl, hbw⟩; have hb3' : Blk w1 (w.heap.size + 1) 102 (arr (R j)) := hb3.below hbw hb3.lt; have hb2' : Blk w1 w.heap.size 102 (arr (List.replicate 41 0)) := hb2.below hbw hb2.lt; have hbel' : Below w.heap.size w w1 := hbel.trans (hbw.mono hbel.size))
        | (refine wpList_store_row rfl 102 (.tmp 5) (.tmp 16) rfl (w.heap.size + 1) rfl (arr (R (j + 1))) rfl 102 _ hb3' hi3 hsz (arr_one _) ?_))
      go_roundw
      case rel => exact ⟨j + 1, by omega, by go_num, below_setRow' hbel' (by omega) _, hb2'.rowOff (by omega), hb3'.row (vs := arr (R (j + 1)))⟩
      case measure => simp [intOf]; omega
    · obtain rfl : j = k := by omega
      have hlt' : (j : Int) < (j : Int) + 1 := by omega
      have hsz : (arr (R j)).size = (arr (List.replicate 41 0)).size := by rw [arr_size, arr_size, HL.out]; rfl
      go_wp2_with (first
        | (refine wpList_load_row rfl 102 (.tmp 5) rfl (w.heap.size + 1) rfl 102 (arr (R j)) (0, 0) _ hb3 Try.underlying102 rfl hi2 ?_)
        | (refine wpList_store_row rfl 102 (.tmp 4) (.tmp 17) rfl w.heap.size rfl (arr (R j)) rfl 102 _ hb2 hi2 hsz (arr_one _) ?_))
      refine bodyPost_ret (results_cell_row rfl _ _ w.heap.size 102 (arr (R j)) (0, 0) _ rfl hb2.row Try.underlying102 rfl hi2) rfl ?_
      exact ⟨rfl, below_setRow' hbel (Nat.le_refl _) _⟩

end Go.Proofs.Ytgkghebjaedjmaa
namespace Go.Proofs.Ytgkghebjaedjmaa
open Go.RowKit NP
set_option maxRecDepth 8000
set_option linter.unusedVariables false

theorem cpF_in {n : Int} (h : 0 ≤ n ∧ n ≤ 40) : cpF n = ctZ n n := by unfold cpF; rw [if_pos h]
theorem cpF_out {n : Int} (h : ¬ (0 ≤ n ∧ n ≤ 40)) : cpF n = -1 := by unfold cpF; rw [if_neg h]
theorem amF_in {n k : Int} (h : 0 ≤ n ∧ n ≤ 40) (h2 : 0 ≤ k ∧ k ≤ 40) : amF n k = ctZ n k := by unfold amF; rw [if_pos ⟨h, h2⟩]
theorem amF_out {n k : Int} (h : ¬ ((0 ≤ n ∧ n ≤ 40) ∧ (0 ≤ k ∧ k ≤ 40))) : amF n k = -1 := by unfold amF; rw [if_neg h]
theorem jpF_in {n k : Int} (h : 0 ≤ n ∧ n ≤ 40) (h2 : 0 ≤ k ∧ k ≤ 40) : jpF n k = ctZ (n - k) k := by unfold jpF; rw [if_pos ⟨h, h2⟩]
theorem jpF_out {n k : Int} (h : ¬ ((0 ≤ n ∧ n ≤ 40) ∧ (0 ≤ k ∧ k ≤ 40))) : jpF n k = -1 := by unfold jpF; rw [if_neg h]






end Go.Proofs.Ytgkghebjaedjmaa
namespace Go.Proofs.Ytgkghebjaedjmaa
namespace NP
set_option linter.unusedVariables false
def sqn (n : Int) : Nat → Int
  | 0 => 0
  | m + 1 => sqn n m + ctZ (n - (m : Int) * m) m
def scs (n : Int) : Nat → Int
  | 0 => 0
  | m + 1 => scs n m + (if (n - (m : Int) * m) % 2 = 0 then ctZ ((n - (m : Int) * m) / 2) m else 0)
def isq (n : Int) : Nat := ff (fun k => decide ((k : Int) * k ≤ n)) 7
def sqF (n : Int) : Int := if 0 ≤ n ∧ n ≤ 40 then sqn n (isq n) else -1
def scF (n : Int) : Int := if 0 ≤ n ∧ n ≤ 40 then scs n (isq n) else -1
theorem sq_nn (m : Nat) : 0 ≤ (m : Int) * m := Int.mul_nonneg (by omega) (by omega)
theorem sqn_bd (n : Int) (hn : n ≤ 40) (m : Nat) : 0 ≤ sqn n m ∧ sqn n m ≤ 1099511627776 * m := by
  induction m with
  | zero => simp [sqn]
  | succ m ih =>
    have := sq_nn m
    have := ctZ_bd (n - (m : Int) * m) m (by omega)
    simp only [sqn]
    omega
theorem scs_bd (n : Int) (hn : n ≤ 40) (m : Nat) : 0 ≤ scs n m ∧ scs n m ≤ 1099511627776 * m := by
  induction m with
  | zero => simp [scs]
  | succ m ih =>
    have := sq_nn m
    have := ctZ_bd ((n - (m : Int) * m) / 2) m (by omega)
    simp only [scs]
    split <;> omega
theorem sq_lt (k : Nat) (hk : k < 7) : (k : Int) * k ≤ 36 := by
  have : ∀ k : Nat, k < 7 → (k : Int) * k ≤ 36 := by decide
  exact this k hk
theorem isq_eq {n : Int} (hn : n ≤ 40) {k : Nat} (hk : k ≤ 7) (h : ∀ j, j < k → (j : Int) * j ≤ n) (h2 : k = 7 ∨ n < (k : Int) * k) : isq n = k := by
  unfold isq
  refine ff_eq (fun j hj => decide_eq_true (h j hj)) hk ?_
  rcases h2 with h2 | h2
  · exact .inl h2
  · exact .inr (decide_eq_false (by omega))
/-- the sum of the divisors, up to m -/
def dvs (n : Int) : Nat → Int
  | 0 => 0
  | m + 1 => dvs n m + (if n % ((m : Int) + 1) = 0 then (m : Int) + 1 else 0)
def dvF (n : Int) : Int := if 1 ≤ n ∧ n ≤ 40 then dvs n n.toNat else -1
theorem dvs_bd (n : Int) (m : Nat) (hm : m ≤ 41) : 0 ≤ dvs n m ∧ dvs n m ≤ 50 * m := by
  induction m with
  | zero => simp [dvs]
  | succ m ih =>
    have := ih (by omega)
    simp only [dvs]
    split <;> omega
def pnF (k : Int) : Int := if -100 ≤ k ∧ k ≤ 100 then k * (3 * k - 1) / 2 else -1
theorem pn_bd (k : Int) (h1 : -100 ≤ k) (h2 : k ≤ 100) : 0 ≤ k * (3 * k - 1) ∧ k * (3 * k - 1) ≤ 30100 := by
  rcases Int.lt_or_le k 1 with h | h
  · have e : k * (3 * k - 1) = (-k) * (3 * (-k) + 1) := by rw [Int.mul_add, Int.mul_sub, Int.mul_one, Int.mul_one, Int.mul_neg, Int.mul_neg, Int.neg_mul]; omega
    rw [e]
    have a := Int.mul_nonneg (a := -k) (b := 3 * (-k) + 1) (by omega) (by omega)
    have b := Int.mul_le_mul (a := -k) (b := 3 * (-k) + 1) (c := 100) (d := 301) (by omega) (by omega) (by omega) (by omega)
    omega
  · have a := Int.mul_nonneg (a := k) (b := 3 * k - 1) (by omega) (by omega)
    have b := Int.mul_le_mul (a := k) (b := 3 * k - 1) (c := 100) (d := 299) (by omega) (by omega) (by omega) (by omega)
    omega
end NP
end Go.Proofs.Ytgkghebjaedjmaa
namespace Go.Proofs.Ytgkghebjaedjmaa
open Go.RowKit NP
set_option maxRecDepth 8000
set_option linter.unusedVariables false

theorem same_below {P : Program} {f : FuncId} {args : Array Value} {w : World} {v : Value} (h : Calls P f args w fun e w' => e = .returned v ∧ w = w') : Calls P f args w fun e w' => e = .returned v ∧ Below w.heap.size w w' := h.mono fun _ _ ⟨a, b⟩ => ⟨a, b ▸ Below.refl _ _⟩









end Go.Proofs.Ytgkghebjaedjmaa
namespace Go.Proofs.Ytgkghebjaedjmaa
namespace NP
set_option linter.unusedVariables false
/-- counts when a further number may come once -/
def wo (D : List Int) (p : Nat) (sg : Int) (s : Nat) : Int := if s < p then D.getD s 0 else D.getD s 0 + sg * D.getD (s - p) 0
def worow (D : List Int) (p : Nat) (sg : Int) : List Int := (List.range 41).map (wo D p sg)
def womid (D : List Int) (p : Nat) (sg : Int) (l : Nat) : List Int := (List.range 41).map fun s => if s < p + l then wo D p sg s else D.getD s 0
theorem worow_len (D : List Int) (p : Nat) (sg : Int) : (worow D p sg).length = 41 := by simp [worow]
theorem womid_len (D : List Int) (p : Nat) (sg : Int) (l : Nat) : (womid D p sg l).length = 41 := by simp [womid]
theorem womid_zero {D : List Int} (hD : D.length = 41) (p : Nat) (sg : Int) : womid D p sg 0 = D := by
  apply List.ext_getElem
  · rw [womid_len, hD]
  · intro j h1 h2
    simp only [womid, List.getElem_map, List.getElem_range]
    rw [← getD_lt h2]
    split
    · unfold wo; rw [if_pos (by omega)]
    · rfl
theorem womid_end (D : List Int) (p : Nat) (sg : Int) (l : Nat) (h : 41 ≤ p + l) : womid D p sg l = worow D p sg := by
  apply List.map_congr_left
  intro s hs
  rw [List.mem_range] at hs
  rw [if_pos (by omega)]
theorem womid_hi (D : List Int) (p : Nat) (sg : Int) (l : Nat) (h : l + p < 41) : (womid D p sg l)[l + p]'(by rw [womid_len]; exact h) = D.getD (l + p) 0 := by
  simp only [womid, List.getElem_map, List.getElem_range]
  rw [if_neg (by omega)]
theorem womid_set (D : List Int) (p : Nat) (sg : Int) (l : Nat) (hp : 1 ≤ p) (h : l + p < 41) : (womid D p sg l).set (l + p) (D.getD (l + p) 0 + sg * D.getD l 0) = womid D p sg (l + 1) := by
  apply List.ext_getElem
  · rw [List.length_set, womid_len, womid_len]
  · intro j h1 h2
    by_cases hj : l + p = j
    · subst hj
      rw [List.getElem_set_self]
      simp only [womid, List.getElem_map, List.getElem_range]
      rw [if_pos (by omega)]
      unfold wo
      rw [if_neg (by omega), Nat.add_sub_cancel]
    · rw [List.getElem_set_ne hj]
      simp only [womid, List.getElem_map, List.getElem_range]
      split <;> split <;> first | rfl | omega
theorem worow_getD (D : List Int) (p : Nat) (sg : Int) (s : Nat) (h : s < 41) : (worow D p sg).getD s 0 = wo D p sg s := by
  rw [getD_lt (by rw [worow_len]; exact h)]
  simp [worow]
/-- the different parts, none greater than d, with signs -/
def srow : Nat → List Int
  | 0 => 1 :: List.replicate 40 0
  | d + 1 => worow (srow d) (d + 1) (-1)
theorem srow_len (d : Nat) : (srow d).length = 41 := by
  cases d with
  | zero => rfl
  | succ d => exact worow_len _ _ _
theorem srow_bd (d : Nat) : ∀ s, -(2 ^ d : Int) ≤ (srow d).getD s 0 ∧ (srow d).getD s 0 ≤ 2 ^ d := by
  induction d with
  | zero =>
    intro s
    rcases Nat.lt_or_ge s 41 with h | h
    · have : ∀ s, s < 41 → -(2 ^ 0 : Int) ≤ (srow 0).getD s 0 ∧ (srow 0).getD s 0 ≤ 2 ^ 0 := by decide
      exact this s h
    · rw [getD_ge (by rw [srow_len]; exact h)]; decide
  | succ d ih =>
    intro s
    have hp : (2 : Int) ^ (d + 1) = 2 * 2 ^ d := by rw [Int.pow_succ]; omega
    have h0 : (0 : Int) < 2 ^ d := Int.pow_pos (by decide)
    rw [hp]
    rcases Nat.lt_or_ge s 41 with h | h
    · show -(2 * 2 ^ d : Int) ≤ (worow (srow d) (d + 1) (-1)).getD s 0 ∧ _
      rw [show srow (d + 1) = worow (srow d) (d + 1) (-1) from rfl, worow_getD _ _ _ _ h]
      unfold wo
      have a := ih s
      have b := ih (s - (d + 1))
      split <;> omega
    · rw [getD_ge (by rw [srow_len]; exact h)]; omega
theorem pow40 (d : Nat) (h : d ≤ 40) : (2 : Int) ^ d ≤ 1099511627776 := by
  have : ∀ d : Nat, d < 41 → (2 : Int) ^ d ≤ 1099511627776 := by decide
  exact this d (by omega)
theorem srow_bd40 (d : Nat) (h : d ≤ 40) (s : Nat) : -1099511627776 ≤ (srow d).getD s 0 ∧ (srow d).getD s 0 ≤ 1099511627776 := by
  have := srow_bd d s
  have := pow40 d h
  omega
def sdF (n : Int) : Int := if 0 ≤ n ∧ n ≤ 40 then (srow n.toNat).getD n.toNat 0 else 0
/-- what stands in the model's table of n+1 numbers when those from x up have been done -/
def smid (D : List Int) (n d x : Nat) : List Int := (List.range (n + 1)).map fun s => if x ≤ s then wo D d (-1) s else D.getD s 0
theorem smid_len (D : List Int) (n d x : Nat) : (smid D n d x).length = n + 1 := by simp [smid]
theorem smid_get (D : List Int) (n d x k : Nat) (h : k < (smid D n d x).length) : (smid D n d x)[k] = if x ≤ k then wo D d (-1) k else D.getD k 0 := by simp [smid]
theorem smid_set (D : List Int) (n d x : Nat) (hd : 1 ≤ d) (hx : d ≤ x) (hn : x ≤ n) : (smid D n d (x + 1)).set x (D.getD x 0 - D.getD (x - d) 0) = smid D n d x := by
  apply List.ext_getElem
  · rw [List.length_set, smid_len, smid_len]
  · intro j h1 h2
    by_cases hj : x = j
    · subst hj
      rw [List.getElem_set_self, smid_get, if_pos (Nat.le_refl _)]
      unfold wo
      rw [if_neg (by omega)]
      omega
    · rw [List.getElem_set_ne hj, smid_get, smid_get]
      split <;> split <;> first | rfl | omega
theorem smid_next (D : List Int) (hD : D.length = 41) (n d : Nat) (hn : n ≤ 40) : smid D n d d = smid (worow D d (-1)) n (d + 1) (n + 1) := by
  apply List.ext_getElem
  · rw [smid_len, smid_len]
  · intro j h1 h2
    rw [smid_len] at h1
    rw [smid_get, smid_get, if_neg (by omega : ¬ n + 1 ≤ j), worow_getD _ _ _ _ (by omega)]
    split
    · rfl
    · unfold wo; rw [if_pos (by omega)]
theorem smid_start (n : Nat) (hn : n ≤ 40) : (List.replicate (n + 1) (0 : Int)).set 0 1 = smid (srow 0) n 1 (n + 1) := by
  apply List.ext_getElem
  · rw [List.length_set, List.length_replicate, smid_len]
  · intro j h1 h2
    rw [smid_len] at h2
    rw [smid_get, if_neg (by omega)]
    cases j with
    | zero => rfl
    | succ j =>
      rw [List.getElem_set_ne (by omega), List.getElem_replicate]
      have : ∀ j, j < 40 → (0 : Int) = (srow 0).getD (j + 1) 0 := by decide
      exact this j (by omega)
end NP
end Go.Proofs.Ytgkghebjaedjmaa
namespace Go.Proofs.Ytgkghebjaedjmaa
open Go.RowKit NP
set_option maxRecDepth 8000
set_option linter.unusedVariables false

theorem withOnce_any (D : List Int) (hD : D.length = 41) (p : Nat) (hp : 1 ≤ p) (hp40 : p ≤ 40) (sg : Int) (hsg : sg = 1 ∨ sg = -1) (hb : ∀ s, -1099511627776 ≤ D.getD s 0 ∧ D.getD s 0 ≤ 1099511627776) (w : World) :
    Calls Try.prog 97 #[.agg (arr D), .int .i64 p, .int .i64 sg] w fun e w' => e = .returned (.agg (arr (worow D p sg))) ∧ Below w.heap.size w w' := by
  have HD := Lib.hid hD
  have hi41 : (Try.prog.info? 102).map (·.size) = some (arr D).size := by rw [arr_size, hD]; exact T_info41
  have hsz0 : (arr D).size = (arr (List.replicate 41 0)).size := by rw [arr_size, arr_size, hD]; rfl
  have HB := Lib.hid hb
  have HSG := Lib.hid hsg
  clear hD hb hsg
  have hrange : (41 : Int) - (p : Int) = ((41 - p : Nat) : Int) := by omega
  have hba := (Blk.new w 102 (arr D)).alloc (.cells (arr (List.replicate 41 0)) 102)
  have hbr : Blk ((w.alloc (.cells (arr D) 102)).alloc (.cells (arr (List.replicate 41 0)) 102)) (w.heap.size + 1) 102 (arr (List.replicate 41 0)) := by
    have e := Blk.new (w.alloc (.cells (arr D) 102)) 102 (arr (List.replicate 41 0))
    rw [World.size_alloc] at e
    exact e
  have hbm : Blk (((w.alloc (.cells (arr D) 102)).alloc (.cells (arr (List.replicate 41 0)) 102)).alloc (.cells (arr (List.replicate 41 0)) 102)) (w.heap.size + 2) 102 (arr (List.replicate 41 0)) := by
    have e := Blk.new ((w.alloc (.cells (arr D) 102)).alloc (.cells (arr (List.replicate 41 0)) 102)) 102 (arr (List.replicate 41 0))
    rw [World.size_alloc, World.size_alloc] at e
    exact e
  go_enter Try.func97, Try.ntmps97
  go_wp2_with (first
    | (refine wpList_load_row rfl 102 (.tmp 3) rfl w.heap.size rfl 102 (arr D) (0, 0) _ hba Try.underlying102 rfl hi41 ?_)
    | (refine wpList_store_row rfl 102 (.tmp 7) (.tmp 9) rfl (w.heap.size + 2) rfl (arr D) rfl 102 _ hbm hi41 hsz0 (arr_one _) ?_))
  go_loopw [12] (fun i wr => ∃ l : Nat, l ≤ 41 - p ∧ i = .int .i64 l ∧ Below w.heap.size w wr ∧ Blk wr w.heap.size 102 (arr D) ∧ Blk wr (w.heap.size + 1) 102 (arr (List.replicate 41 0)) ∧ Blk wr (w.heap.size + 2) 102 (arr (womid D p sg l))) (fun i _ => 41 - (intOf i).toNat)
  case atStart =>
    refine ⟨0, Nat.zero_le _, rfl, below_setRow' ((((Below.refl _ _).alloc (Nat.le_refl _) _).alloc (by simp) _).alloc (by simp; omega) _) (by omega) _, ?_, ?_, ?_⟩
    · exact (hba.alloc _).rowOff (by omega)
    · exact (hbr.alloc _).rowOff (by omega)
    · rw [womid_zero HD.out]; exact hbm.row
  case round =>
    obtain ⟨l, hl, rfl, hbel, hb1, hb2, hb3⟩ := hrel
    by_cases hlt : l < 41 - p
    · have hlp : l + p < 41 := by omega
      have hl41 : l < 41 := by omega
      have b1 := HB.out (l + p)
      have b2 := HB.out l
      have HSET := Lib.hid (womid_set D p sg l hp hlp)
      have hc1 : wr.cell? ⟨w.heap.size, l, none⟩ = some (.int .i64 (D.getD l 0)) := by rw [hb1.cell l, arr_get _ l (by rw [HD.out]; exact hl41), getD_lt (by rw [HD.out]; exact hl41)]
      have hc2 : wr.cell? ⟨w.heap.size + 2, l + p, none⟩ = some (.int .i64 (D.getD (l + p) 0)) := by rw [hb3.cell (l + p), arr_get _ (l + p) (by rw [womid_len]; exact hlp), womid_hi D p sg l hlp]
      have hf2 : wr.frozen? ⟨w.heap.size + 2, l + p, none⟩ = false := hb3.free (l + p)
      have hl41' : (l : Int) < 41 := by omega
      obtain ⟨q, hq⟩ : ∃ q : Nat, q = l + p := ⟨_, rfl⟩
      rw [← hq] at hf2 b1
      have hc2' : wr.cell? ⟨w.heap.size + 2, q, none⟩ = some (.int .i64 (D.getD q 0)) := by rw [hq]; exact hc2
      have HSET' : Hid ((womid D p sg l).set q (D.getD q 0 + sg * D.getD l 0) = womid D p sg (l + 1)) := Lib.hid (by rw [hq]; exact HSET.out)
      clear hc2 HSET
      have hw : IntKind.i64.wrap ((l : Int) + (p : Int)) = (q : Int) := by rw [IntWalk.i64_in _ (by omega)]; omega
      have hq41 : (q : Int) < 41 := by omega
      have hq41' : q < 41 := by omega
      clear hq
      generalize D.getD q 0 = x at *
      generalize D.getD l 0 = y at *
      obtain ⟨pr, hpr0, HPR⟩ : ∃ pr : Int, (-1099511627776 ≤ pr ∧ pr ≤ 1099511627776) ∧ Hid (sg * y = pr) := by
        rcases HSG.out with h | h
        · exact ⟨y, b2, Lib.hid (by rw [h, Int.one_mul])⟩
        · exact ⟨-y, by omega, Lib.hid (by rw [h]; omega)⟩
      have hw2 : IntKind.i64.wrap (sg * y) = pr := by rw [HPR.out]; exact IntWalk.i64_in _ (by omega)
      have hw3 : IntKind.i64.wrap (x + pr) = x + pr := IntWalk.i64_in _ (by omega)
      rw [HPR.out] at HSET'
      go_wp2
      go_still_tail 12, (by kernel_rfl)
      change wpList _ _ _ _ _ wr.drew
      have hbel' : Below w.heap.size w wr.drew := hbel.trans ((Dr.n wr 1).below _)
      have hb1' : Blk wr.drew w.heap.size 102 (arr D) := hb1
      have hb2' : Blk wr.drew (w.heap.size + 1) 102 (arr (List.replicate 41 0)) := hb2
      have hb3' : Blk wr.drew (w.heap.size + 2) 102 (arr (womid D p sg l)) := hb3
      have hf3 : wr.drew.frozen? ⟨w.heap.size + 2, q, none⟩ = false := hf2
      have hc3 : wr.drew.cell? ⟨w.heap.size + 2, q, none⟩ = some (.int .i64 x) := hc2'
      generalize wr.drew = w2 at *
      clear hbel hb1 hb2 hb3
      go_wp2
      go_roundw
      case rel =>
        refine ⟨l + 1, by omega, by go_num, hbel'.setCell (by show w.heap.size ≤ w.heap.size + 2; omega) _, hb1'.off (by show w.heap.size ≠ w.heap.size + 2; omega) _, hb2'.off (by show w.heap.size + 1 ≠ w.heap.size + 2; omega) _, ?_⟩
        have e := hb3'.set q (.int .i64 (x + pr))
        rw [arr_set, HSET'.out] at e
        exact e
      case measure => simp [intOf]; omega
    · obtain rfl : l = 41 - p := by omega
      have HE := Lib.hid (womid_end D p sg (41 - p) (by omega))
      have hi2 : (Try.prog.info? 102).map (·.size) = some (arr (womid D p sg (41 - p))).size := by rw [arr_size, womid_len]; exact T_info41
      have hsz : (arr (womid D p sg (41 - p))).size = (arr (List.replicate 41 0)).size := by rw [arr_size, arr_size, womid_len]; rfl
      go_wp2_with (first | (refine wpList_load_row rfl 102 (.tmp 7) rfl (w.heap.size + 2) rfl 102 (arr (womid D p sg (41 - p))) (0, 0) _ hb3 Try.underlying102 rfl hi2 ?_) | (refine wpList_store_row rfl 102 (.tmp 6) (.tmp 28) rfl (w.heap.size + 1) rfl (arr (womid D p sg (41 - p))) rfl 102 _ hb2 hi2 hsz (arr_one _) ?_))
      refine bodyPost_ret (results_cell_row rfl _ _ (w.heap.size + 1) 102 (arr (womid D p sg (41 - p))) (0, 0) _ rfl hb2.row Try.underlying102 rfl hi2) rfl ?_
      exact ⟨by rw [HE.out], below_setRow' hbel (by omega) _⟩



end Go.Proofs.Ytgkghebjaedjmaa
namespace Go.Proofs.Ytgkghebjaedjmaa
open Go.RowKit NP
set_option maxRecDepth 8000
set_option linter.unusedVariables false

theorem chg_low2 {a b c : World} {g : Nat} (hb : Below a.heap.size a b) (hg : a.heap.size ≤ g) (h : b.grownBy c (some g)) : Below a.heap.size a c := hb.grown h hb.size fun k hk => by injection hk with hk; omega









end Go.Proofs.Ytgkghebjaedjmaa
namespace Go.Proofs.Ytgkghebjaedjmaa
open Go.RowKit NP
set_option maxRecDepth 8000
set_option linter.unusedVariables false
set_option linter.unusedSimpArgs false
theorem DrawBoxPiles_any (a : Option Addr) (c B : Nat) (bs : List Int) (w : World) (h : Rd w B a (bs.map (Value.int .u8))) (hB : B ≤ w.heap.size) (hb : ∀ n ∈ bs, (Lit.int .u8 n).wf = true) (hl : bs.length ≤ 1048576) (hc : bs.length ≤ c) :
    Calls Try.prog 30 #[.slice a bs.length c] w fun e w' => ∃ x y z : Int, e = .returned (.tuple #[.int .i64 x, .int .i64 y, .int .i64 z]) ∧ Below w.heap.size w w' := by
  go_enter Try.func30, Try.ntmps30
  go_wp2_with fail
  refine (newReader_any _ _ B bs _ h hB hb hl hc).mono ?_
  rintro e w1 ⟨rfl, h1, hb1, -⟩
  have hlt1 := h1.lt
  go_wp2_with fail
  refine (one_any _ 0 _ _ _ [2, 1, 3, 2, 0, 4, 5] _ _ (by simp) (by simp) (by omega) (h1.below ((Below.refl _ _).alloc hlt1 _)) (rd_new w1 _ _) (by intro b o e; injection e with e; injection e with e; omega)).mono ?_
  rintro e w2 ⟨k, hk, rfl, h2, hg2, -⟩
  generalize ([2, 1, 3, 2, 0, 4, 5] : List Int)[k] = x
  have hb2 := chg_low2 hb1 (Nat.le_refl _) (chg_trans (World.grownBy_alloc w1 _ _) hg2)
  have hlt2 := h2.lt
  clear hg2 h1 hlt1 hb1 hk
  go_wp2_with fail
  refine (one_any _ (0 + 1) _ _ _ [1, 2, 3, 2, 4, 0, -1] _ _ (by simp) (by simp) (by omega) (h2.below ((Below.refl _ _).alloc hlt2 _)) (rd_new w2 _ _) (by intro b o e; injection e with e; injection e with e; omega)).mono ?_
  rintro e w3 ⟨k2, hk, rfl, h3, hg3, -⟩
  generalize ([1, 2, 3, 2, 4, 0, -1] : List Int)[k2] = y
  have hb3 := chg_low2 hb2 (Nat.le_refl _) (chg_trans (World.grownBy_alloc w2 _ _) hg3)
  have hlt3 := h3.lt
  clear hg3 h2 hlt2 hb2 hk
  go_wp2_with fail
  refine (one_any _ (0 + 1 + 1) _ _ _ [2, 1, 3, 1, 0, 4, 5] _ _ (by simp) (by simp) (by omega) (h3.below ((Below.refl _ _).alloc hlt3 _)) (rd_new w3 _ _) (by intro b o e; injection e with e; injection e with e; omega)).mono ?_
  rintro e w4 ⟨k3, hk, rfl, h4, hg4, -⟩
  generalize ([2, 1, 3, 1, 0, 4, 5] : List Int)[k3] = z
  have hb4 := chg_low2 hb3 (Nat.le_refl _) (chg_trans (World.grownBy_alloc w3 _ _) hg4)
  clear hg4 h3 hlt3 hb3 hk h4
  go_wp2_with fail
  go_ret3
  exact ⟨x, y, z, rfl, hb4⟩
end Go.Proofs.Ytgkghebjaedjmaa
namespace Go.Proofs.Ytgkghebjaedjmaa
namespace NP
set_option linter.unusedVariables false
theorem ctZ_mono1 (n k : Int) (hk : 1 ≤ k) (hn40 : n ≤ 40) : ctZ n (k - 1) ≤ ctZ n k := by
  rcases Int.lt_or_le n 1 with h | h
  · rcases Int.lt_or_le n 0 with h2 | h2
    · rw [ctZ_neg n _ h2, ctZ_neg n _ h2]; exact Int.le_refl _
    · obtain rfl : n = 0 := by omega
      rw [ctZ_zero, ctZ_zero]; exact Int.le_refl _
  · rw [ctZ_rec n k h hk]
    have := (ctZ_bd (n - k) k (by omega)).1
    omega
theorem ctZ_mono (n : Int) (hn40 : n ≤ 40) (d : Nat) : ∀ k : Int, 0 ≤ k → ctZ n k ≤ ctZ n (k + d) := by
  induction d with
  | zero => intro k _; simp
  | succ d ih =>
    intro k hk
    have h1 := ih k hk
    have h2 := ctZ_mono1 n (k + (d + 1 : Nat)) (by omega) hn40
    have e : k + ((d + 1 : Nat) : Int) - 1 = k + d := by omega
    rw [e] at h2
    omega
theorem ctZ_le {n j k : Int} (hn40 : n ≤ 40) (hj : 0 ≤ j) (h : j ≤ k) : ctZ n j ≤ ctZ n k := by
  have := ctZ_mono n hn40 (k - j).toNat j hj
  have e : j + ((k - j).toNat : Int) = k := by omega
  rwa [e] at this
theorem ctZ_cap {n m : Int} (hn : 0 ≤ n) (h : n ≤ m) : ctZ n m = ctZ n n := by
  have key : ∀ d : Nat, ctZ n (n + d) = ctZ n n := by
    intro d
    induction d with
    | zero => simp
    | succ d ih =>
      rcases Int.lt_or_le n 1 with h1 | h1
      · obtain rfl : n = 0 := by omega
        rw [ctZ_zero, ctZ_zero]
      · rw [ctZ_rec n _ h1 (by omega), ctZ_neg (n - (n + ((d + 1 : Nat) : Int))) _ (by omega)]
        have e : n + ((d + 1 : Nat) : Int) - 1 = n + d := by omega
        rw [e, ih]; omega
  have := key (m - n).toNat
  have e : n + ((m - n).toNat : Int) = m := by omega
  rwa [e] at this
theorem ctZ_min {n m : Int} (hn : 0 ≤ n) : ctZ n (min n m) = ctZ n m := by
  rcases Int.le_total n m with h | h
  · rw [Int.min_eq_left h, ctZ_cap hn h]
  · rw [Int.min_eq_right h]
def plc : Int → Int → List Int → Int
  | _, _, [] => 0
  | n, m, x :: r => ctZ n m - ctZ n x + plc (n - x) x r
theorem plc_append (n m : Int) (A : List Int) (x : Int) : plc n m (A ++ [x]) = plc n m A + (ctZ (n - sumL A) (A.getLastD m) - ctZ (n - sumL A) x) := by
  induction A generalizing n m with
  | nil => simp [plc, sumL]
  | cons y r ih =>
    rw [List.cons_append, plc, ih, plc, sumL]
    have e : (y :: r).getLastD m = r.getLastD y := by cases r <;> simp [List.getLastD]
    rw [e, show n - y - sumL r = n - (y + sumL r) by omega]
    omega
/-- parts, none greater than m, with the sum n -/
def ex (n m : Int) (L : List Int) : Prop := vb m n L = true ∧ sumL L = n
theorem ex_nil {n m : Int} (h : ex n m []) : n = 0 := by have := h.2; simp [sumL] at this; omega
theorem ex_cons {n m x : Int} {r : List Int} (h : ex n m (x :: r)) : 1 ≤ x ∧ x ≤ n ∧ x ≤ m ∧ ex (n - x) x r := by
  obtain ⟨h1, h2⟩ := h
  simp only [vb, Bool.and_eq_true, decide_eq_true_eq] at h1
  simp only [sumL] at h2
  exact ⟨h1.1.1.1, h1.1.1.2, h1.1.2, h1.2, by omega⟩
theorem ex_mk {n m x : Int} {r : List Int} (h1 : 1 ≤ x) (h2 : x ≤ n) (h3 : x ≤ m) (h4 : ex (n - x) x r) : ex n m (x :: r) := by
  refine ⟨?_, ?_⟩
  · simp only [vb, Bool.and_eq_true, decide_eq_true_eq]
    exact ⟨⟨⟨h1, h2⟩, h3⟩, h4.1⟩
  · simp only [sumL]
    have := h4.2
    omega
theorem ex_valid {L : List Int} (h : valid L = true) : ex (sumL L) (sumL L) L := by
  refine ⟨?_, rfl⟩
  rw [vb_iff]
  have h2 := h
  unfold valid at h2
  rw [vb_iff] at h2
  refine ⟨fun k hk => ⟨(h2.1 k hk).1, ?_, (h2.1 k hk).2.2⟩, fun _ => Int.le_refl _⟩
  exact (elem_le_sum (valid_nonneg h) hk).1
theorem valid_ex {n m : Int} {L : List Int} (hn : n ≤ 16) (h : ex n m L) : valid L = true := by
  obtain ⟨h1, h2⟩ := h
  unfold valid
  rw [vb_iff] at h1 ⊢
  have hnn : ∀ x ∈ L, 0 ≤ x := fun x hx => by
    obtain ⟨k, hk, rfl⟩ := List.getElem_of_mem hx
    have := (h1.1 k hk).1
    omega
  refine ⟨fun k hk => ⟨(h1.1 k hk).1, ?_, (h1.1 k hk).2.2⟩, fun _ => by omega⟩
  have := (elem_le_sum hnn hk).1
  omega
theorem plc_bd {n m : Int} {L : List Int} (hn : n ≤ 40) (hm : 0 ≤ m) (h : ex n m L) : 0 ≤ plc n m L ∧ plc n m L < ctZ n m := by
  induction L generalizing n m with
  | nil =>
    obtain rfl := ex_nil h
    rw [ctZ_zero]; simp [plc]
  | cons x r ih =>
    obtain ⟨h1, h2, h3, h4⟩ := ex_cons h
    have := ih (by omega) (by omega) h4
    have e := ctZ_rec n x (by omega) h1
    have l1 := ctZ_le (n := n) hn (by omega) h3
    have l2 := (ctZ_bd n (x - 1) hn).1
    simp only [plc]
    omega
/-- from x on, the first part down from which the place k is within -/
def fx : Nat → Int → Int → Int → Int × Int
  | 0, _, x, k => (x, k)
  | f + 1, n, x, k => if ctZ (n - x) x ≤ k then fx f n (x - 1) (k - ctZ (n - x) x) else (x, k)
theorem fx_eq (n y k' : Int) (hn : n ≤ 40) (hy : 1 ≤ y) (hk' : 0 ≤ k' ∧ k' < ctZ (n - y) y) : ∀ (f d : Nat), d < f → y + d ≤ n → fx f n (y + d) (ctZ n (y + d) - ctZ n y + k') = (y, k') := by
  intro f
  induction f with
  | zero => intro d h; omega
  | succ f ih =>
    intro d hd hdn
    cases d with
    | zero =>
      have e : y + ((0 : Nat) : Int) = y := by omega
      rw [e, fx, if_neg (by omega)]
      congr 1; omega
    | succ d =>
      have e1 := ctZ_rec n (y + ((d + 1 : Nat) : Int)) (by omega) (by omega)
      have e2 : y + ((d + 1 : Nat) : Int) - 1 = y + d := by omega
      rw [e2] at e1
      have l1 := ctZ_le (n := n) (j := y) (k := y + d) hn (by omega) (by omega)
      rw [fx, if_pos (by omega), e2]
      have e3 : ctZ n (y + ((d + 1 : Nat) : Int)) - ctZ n y + k' - ctZ (n - (y + ((d + 1 : Nat) : Int))) (y + ((d + 1 : Nat) : Int)) = ctZ n (y + d) - ctZ n y + k' := by omega
      rw [e3]
      exact ih d (by omega) (by omega)
theorem fx_ex (n : Int) (hn : n ≤ 40) : ∀ (x : Nat) (k : Int), 1 ≤ n → (x : Int) ≤ n → 0 ≤ k → k < ctZ n x → ∃ y k' : Int, 1 ≤ y ∧ y ≤ x ∧ 0 ≤ k' ∧ k' < ctZ (n - y) y ∧ k = ctZ n x - ctZ n y + k' := by
  intro x
  induction x with
  | zero =>
    intro k h1 _ h3 h4
    have e : ((0 : Nat) : Int) = 0 := rfl
    rw [e, ctZ_none n (by omega)] at h4
    omega
  | succ x ih =>
    intro k h1 h2 h3 h4
    have e1 := ctZ_rec n ((x + 1 : Nat) : Int) h1 (by omega)
    have e2 : ((x + 1 : Nat) : Int) - 1 = x := by omega
    rw [e2] at e1
    rcases Int.lt_or_le k (ctZ (n - ((x + 1 : Nat) : Int)) ((x + 1 : Nat) : Int)) with h5 | h5
    · exact ⟨_, k, by omega, Int.le_refl _, h3, h5, by omega⟩
    · obtain ⟨y, k', a1, a2, a3, a4, a5⟩ := ih (k - ctZ (n - ((x + 1 : Nat) : Int)) ((x + 1 : Nat) : Int)) h1 (by omega) (by omega) (by omega)
      exact ⟨y, k', a1, by omega, a3, a4, by omega⟩
/-- the parts at place k among those with the sum n, none greater than m -/
def pat : Nat → Int → Int → Int → List Int
  | 0, _, _, _ => []
  | f + 1, n, m, k => if n ≤ 0 then [] else (fx 41 n (min n m) k).1 :: pat f (n - (fx 41 n (min n m) k).1) (fx 41 n (min n m) k).1 (fx 41 n (min n m) k).2
theorem pat_step {n m k : Int} (hn1 : 1 ≤ n) (hn : n ≤ 40) (hm : 1 ≤ m) (hk : 0 ≤ k) (hk2 : k < ctZ n m) : ∃ y k' : Int, fx 41 n (min n m) k = (y, k') ∧ 1 ≤ y ∧ y ≤ n ∧ y ≤ m ∧ 0 ≤ k' ∧ k' < ctZ (n - y) y ∧ k = ctZ n m - ctZ n y + k' := by
  have hc := ctZ_min (n := n) (m := m) (by omega)
  obtain ⟨X, hX⟩ : ∃ X : Nat, (X : Int) = min n m := ⟨(min n m).toNat, by omega⟩
  rw [← hX] at hc ⊢
  obtain ⟨y, k', a1, a2, a3, a4, a5⟩ := fx_ex n hn X k hn1 (by omega) hk (by omega)
  refine ⟨y, k', ?_, a1, by omega, by omega, a3, a4, by omega⟩
  have := fx_eq n y k' hn a1 ⟨a3, a4⟩ 41 ((X : Int) - y).toNat (by omega) (by omega)
  have e : y + (((X : Int) - y).toNat : Int) = X := by omega
  rw [e] at this
  rw [a5, this]
theorem pat_ex : ∀ (f : Nat) (n m k : Int), n ≤ f → 0 ≤ n → n ≤ 40 → 0 ≤ m → 0 ≤ k → k < ctZ n m → ex n m (pat f n m k) ∧ plc n m (pat f n m k) = k := by
  intro f
  induction f with
  | zero =>
    intro n m k h1 h2 h3 hm h4 h5
    obtain rfl : n = 0 := by omega
    rw [ctZ_zero] at h5
    exact ⟨⟨rfl, rfl⟩, by show (0 : Int) = k; omega⟩
  | succ f ih =>
    intro n m k h1 h2 h3 hm h4 h5
    rcases Int.lt_or_le n 1 with h6 | h6
    · obtain rfl : n = 0 := by omega
      rw [ctZ_zero] at h5
      rw [pat, if_pos (Int.le_refl _)]
      exact ⟨⟨rfl, rfl⟩, by show (0 : Int) = k; omega⟩
    · have hm1 : 1 ≤ m := by
        rcases Int.lt_or_le m 1 with h7 | h7
        · obtain rfl : m = 0 := by omega
          rw [ctZ_none n (by omega)] at h5
          omega
        · exact h7
      obtain ⟨y, k', he, a1, a2, a3, a4, a5, a6⟩ := pat_step h6 h3 hm1 h4 h5
      rw [pat, if_neg (by omega), he]
      have := ih (n - y) y k' (by omega) (by omega) (by omega) (by omega) a4 a5
      refine ⟨ex_mk a1 a2 a3 this.1, ?_⟩
      show ctZ n m - ctZ n y + plc (n - y) y (pat f (n - y) y k') = k
      rw [this.2]
      omega
theorem pat_plc : ∀ (f : Nat) (n m : Int) (L : List Int), n ≤ f → n ≤ 40 → 0 ≤ m → ex n m L → pat f n m (plc n m L) = L := by
  intro f
  induction f with
  | zero =>
    intro n m L h1 h2 hm h
    cases L with
    | nil => rfl
    | cons x r => have := ex_cons h; omega
  | succ f ih =>
    intro n m L h1 h2 hm h
    cases L with
    | nil =>
      obtain rfl := ex_nil h
      rw [pat, if_pos (Int.le_refl _)]
    | cons x r =>
      obtain ⟨a1, a2, a3, a4⟩ := ex_cons h
      have hb := plc_bd (by omega) (by omega) a4
      have hc := ctZ_min (n := n) (m := m) (by omega)
      have hfx := fx_eq n x (plc (n - x) x r) h2 a1 hb 41 (min n m - x).toNat (by omega) (by omega)
      have e : x + ((min n m - x).toNat : Int) = min n m := by omega
      rw [e, hc] at hfx
      rw [pat, if_neg (by omega), plc, hfx, ih (n - x) x r (by omega) (by omega) (by omega) a4]
def plcF (L : List Int) : Int := if valid L then plc (sumL L) (sumL L) L else -1
theorem plcF_yes {L : List Int} (h : valid L = true) : plcF L = plc (sumL L) (sumL L) L := by simp [plcF, h]
theorem plcF_no {L : List Int} (h : valid L = false) : plcF L = -1 := by simp [plcF, h]
def patOk (n k : Int) : Bool := decide (0 ≤ n) && decide (n ≤ 16) && decide (0 ≤ k) && decide (k < ctZ n n)
def patF (n k : Int) : List Int := if patOk n k then pat 16 n n k else []
theorem patOk_out {n k : Int} (h : patOk n k = true) : 0 ≤ n ∧ n ≤ 16 ∧ 0 ≤ k ∧ k < ctZ n n := by
  unfold patOk at h
  simp only [Bool.and_eq_true, decide_eq_true_eq] at h
  exact ⟨h.1.1.1, h.1.1.2, h.1.2, h.2⟩
theorem patOk_no {n k : Int} (h : ¬ (0 ≤ n ∧ n ≤ 16 ∧ 0 ≤ k ∧ k < ctZ n n)) : patOk n k = false := by
  cases hk : patOk n k with
  | false => rfl
  | true => exact absurd (patOk_out hk) h
theorem patOk_yes {n k : Int} (h : 0 ≤ n ∧ n ≤ 16 ∧ 0 ≤ k ∧ k < ctZ n n) : patOk n k = true := by
  unfold patOk
  rw [decide_eq_true h.1, decide_eq_true h.2.1, decide_eq_true h.2.2.1, decide_eq_true h.2.2.2]; rfl
theorem patF_yes {n k : Int} (h : patOk n k = true) : patF n k = pat 16 n n k := by simp [patF, h]
theorem patF_no {n k : Int} (h : patOk n k = false) : patF n k = [] := by simp [patF, h]
theorem pat_valid {n k : Int} (h : patOk n k = true) : valid (pat 16 n n k) = true ∧ sumL (pat 16 n n k) = n ∧ plc n n (pat 16 n n k) = k := by
  obtain ⟨h1, h2, h3, h4⟩ := patOk_out h
  obtain ⟨e1, e2⟩ := pat_ex 16 n n k (by omega) h1 (by omega) h1 h3 h4
  exact ⟨valid_ex h2 e1, e1.2, e2⟩
theorem plcF_patF {n k : Int} (h : patOk n k = true) : plcF (patF n k) = k := by
  obtain ⟨h1, h2, h3⟩ := pat_valid h
  rw [patF_yes h, plcF_yes h1, h2, h3]
theorem patF_plcF {L : List Int} (h : valid L = true) : patOk (sumL L) (plcF L) = true ∧ patF (sumL L) (plcF L) = L := by
  have hb := valid_bd h
  have he := ex_valid h
  have hp := plc_bd (by omega) hb.1 he
  have hok : patOk (sumL L) (plcF L) = true := by rw [plcF_yes h]; exact patOk_yes ⟨hb.1, hb.2.1, hp.1, hp.2⟩
  refine ⟨hok, ?_⟩
  rw [patF_yes hok, plcF_yes h]
  exact pat_plc 16 _ _ L (by omega) (by omega) hb.1 he
theorem patF_len (n k : Int) : (patF n k).length ≤ 16 := by
  cases h : patOk n k with
  | true => rw [patF_yes h]; exact (valid_bd (pat_valid h).1).2.2.2
  | false => rw [patF_no h]; simp
end NP
end Go.Proofs.Ytgkghebjaedjmaa
