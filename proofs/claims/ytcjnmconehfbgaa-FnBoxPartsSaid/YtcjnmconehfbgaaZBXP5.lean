/-
  Plain mathematics of counts: how many parts have a sum, none greater than a number. Plain mathematics of counts, over whole numbers. Walks: inRange, countTo of the model; withMany, countsUpTo of the program. Walks: CountParts, AtMostParts, JustParts of the model and of the program. Plain mathematics of sums over squares and divisors. Walks: SquareSum, SelfCount, DivisorSum, Pentagonal of the model and of the program. Plain mathematics of counts with signs. Walks: withOnce of the program, SignedDistinct of the model and of the program. Walks: the draws of numbers: CountParts, AtMostParts, JustParts, DivisorSum, Pentagonal, SignedDistinct. Walks: the draws of a number and a divisor, whether all numbers are one.
-/
import Derived.Test.YtcjnmconehfbgaaZBXP1
import Derived.Test.YtcjnmconehfbgaaZBXP2
import Derived.Test.YtcjnmconehfbgaaZBXP3
import Derived.Test.YtcjnmconehfbgaaZBXP4
import Derived.Test.YtcjnmconehfbgaaProg
import Derived.Deep.QuietTactic
import Derived.BigQuiet
import Derived.StillTailTactics
import Derived.IntWalk
import Derived.Lib.Hide
import Derived.Shelf.Abstract
namespace Go.Proofs.Ytcjnmconehfbgaa
namespace NP
set_option linter.unusedVariables false
/-- how many parts of n, none greater than k -/
def ct : Nat → Nat → Nat
  | 0, _ => 1
  | _ + 1, 0 => 0
  | n + 1, k + 1 => ct (n + 1) k + (if k ≤ n then ct (n - k) (k + 1) else 0)
termination_by n k => n + k
decreasing_by all_goals omega
theorem ct_zero (k : Nat) : ct 0 k = 1 := by unfold ct; rfl
theorem ct_none (n : Nat) (h : 0 < n) : ct n 0 = 0 := by
  cases n with
  | zero => omega
  | succ n => unfold ct; rfl
theorem ct_rec (n k : Nat) (hk : 1 ≤ k) (h : k ≤ n) : ct n k = ct n (k - 1) + ct (n - k) k := by
  cases n with
  | zero => omega
  | succ n =>
    cases k with
    | zero => omega
    | succ k =>
      rw [ct, if_pos (by omega)]
      simp
theorem ct_big (n k : Nat) (hk : 1 ≤ k) (h : n < k) : ct n k = ct n (k - 1) := by
  cases n with
  | zero => rw [ct_zero, ct_zero]
  | succ n =>
    cases k with
    | zero => omega
    | succ k =>
      rw [ct, if_neg (by omega)]
      simp
theorem ct_pow (m : Nat) : ∀ n k, n + k = m → 1 ≤ n → ct n k + 2 ^ (n - k) ≤ 2 ^ n := by
  induction m using Nat.strongRecOn with
  | _ m ih =>
    intro n k hm hn
    cases k with
    | zero => rw [ct_none n hn]; simp
    | succ k =>
      have i1 := ih (n + k) (by omega) n k rfl hn
      rcases Nat.lt_or_ge n (k + 1) with h | h
      · rw [ct_big n (k + 1) (by omega) h, Nat.add_sub_cancel]
        have e : n - (k + 1) = n - k := by omega
        rw [e]; exact i1
      · rw [ct_rec n (k + 1) (by omega) h, Nat.add_sub_cancel]
        have e1 : n - k = n - (k + 1) + 1 := by omega
        rw [e1, Nat.pow_succ] at i1
        rcases Nat.eq_zero_or_pos (n - (k + 1)) with h0 | h0
        · rw [h0, ct_zero]
          rw [h0] at i1
          omega
        · have i2 := ih (n - (k + 1) + (k + 1)) (by omega) (n - (k + 1)) (k + 1) rfl h0
          have := Nat.two_pow_pos (n - (k + 1) - (k + 1))
          omega
theorem ct_le (n k : Nat) (h : n ≤ 40) : ct n k ≤ 1099511627776 := by
  rcases Nat.eq_zero_or_pos n with rfl | h0
  · rw [ct_zero]; decide
  · have h1 := ct_pow _ n k rfl h0
    have h2 : 2 ^ n ≤ 2 ^ 40 := Nat.pow_le_pow_right (by decide) h
    have h3 : (2 : Nat) ^ 40 = 1099511627776 := by decide
    have h4 := Nat.two_pow_pos (n - k)
    omega
/-- counts when a further number may come -/
def wv (D : List Int) (p : Nat) (s : Nat) : Int := if h : p = 0 ∨ s < p then D.getD s 0 else D.getD s 0 + wv D p (s - p)
termination_by s
decreasing_by have := h; omega
theorem wv_low (D : List Int) (p s : Nat) (h : s < p) : wv D p s = D.getD s 0 := by rw [wv, dif_pos (.inr h)]
theorem wv_high (D : List Int) (p s : Nat) (hp : 1 ≤ p) (h : p ≤ s) : wv D p s = D.getD s 0 + wv D p (s - p) := by rw [wv, dif_neg (by omega)]
def wrow (D : List Int) (p : Nat) : List Int := (List.range 41).map (wv D p)
def wmid (D : List Int) (p l : Nat) : List Int := (List.range 41).map fun s => if s < p + l then wv D p s else D.getD s 0
theorem wrow_len (D : List Int) (p : Nat) : (wrow D p).length = 41 := by simp [wrow]
theorem wmid_len (D : List Int) (p l : Nat) : (wmid D p l).length = 41 := by simp [wmid]
theorem wmid_zero {D : List Int} (hD : D.length = 41) (p : Nat) : wmid D p 0 = D := by
  apply List.ext_getElem
  · rw [wmid_len, hD]
  · intro j h1 h2
    simp only [wmid, List.getElem_map, List.getElem_range]
    rw [← getD_lt h2]
    split
    · exact wv_low D p j (by omega)
    · rfl
theorem wmid_end (D : List Int) (p l : Nat) (h : 41 ≤ p + l) : wmid D p l = wrow D p := by
  apply List.map_congr_left
  intro s hs
  rw [List.mem_range] at hs
  rw [if_pos (by omega)]
theorem wmid_lo (D : List Int) (p l : Nat) (hp : 1 ≤ p) (h : l < 41) : (wmid D p l)[l]'(by rw [wmid_len]; exact h) = wv D p l := by
  simp only [wmid, List.getElem_map, List.getElem_range]
  rw [if_pos (by omega)]
theorem wmid_hi (D : List Int) (p l : Nat) (h : l + p < 41) : (wmid D p l)[l + p]'(by rw [wmid_len]; exact h) = D.getD (l + p) 0 := by
  simp only [wmid, List.getElem_map, List.getElem_range]
  rw [if_neg (by omega)]
theorem wmid_set (D : List Int) (p l : Nat) (hp : 1 ≤ p) (h : l + p < 41) : (wmid D p l).set (l + p) (D.getD (l + p) 0 + wv D p l) = wmid D p (l + 1) := by
  apply List.ext_getElem
  · rw [List.length_set, wmid_len, wmid_len]
  · intro j h1 h2
    by_cases hj : l + p = j
    · subst hj
      rw [List.getElem_set_self]
      simp only [wmid, List.getElem_map, List.getElem_range]
      rw [if_pos (by omega), wv_high D p (l + p) hp (by omega), Nat.add_sub_cancel]
    · rw [List.getElem_set_ne hj]
      simp only [wmid, List.getElem_map, List.getElem_range]
      split <;> split <;> first | rfl | omega
/-- the counts of all parts, none greater than k -/
def crow (k : Nat) : List Int := (List.range 41).map fun s => (ct s k : Int)
theorem crow_len (k : Nat) : (crow k).length = 41 := by simp [crow]
theorem crow_getD (k s : Nat) (h : s < 41) : (crow k).getD s 0 = ct s k := by rw [getD_lt (by rw [crow_len]; exact h)]; simp [crow]
theorem crow_get (k s : Nat) (h : s < (crow k).length) : (crow k)[s] = ct s k := by simp [crow]
theorem wv_crow (k : Nat) (s : Nat) (h : s < 41) : wv (crow k) (k + 1) s = ct s (k + 1) := by
  induction s using Nat.strongRecOn with
  | _ s ih =>
    rcases Nat.lt_or_ge s (k + 1) with h1 | h1
    · rw [wv_low _ _ _ h1, crow_getD _ _ h, ct_big s (k + 1) (by omega) h1]; rfl
    · rw [wv_high _ _ _ (by omega) h1, crow_getD _ _ h, ih (s - (k + 1)) (by omega) (by omega), ct_rec s (k + 1) (by omega) h1]
      simp
theorem wrow_crow (k : Nat) : wrow (crow k) (k + 1) = crow (k + 1) := by
  apply List.map_congr_left
  intro s hs
  rw [List.mem_range] at hs
  exact wv_crow k s hs
theorem crow_zero : crow 0 = 1 :: List.replicate 40 0 := by
  have e : ∀ n, (List.range (n + 1)).map (fun s => ((ct s 0 : Nat) : Int)) = 1 :: List.replicate n 0 := by
    intro n
    induction n with
    | zero => simp [ct_zero]
    | succ n ih => rw [List.range_succ, List.map_append, ih, List.replicate_succ', List.map_cons, List.map_nil, ct_none _ (by omega)]; rfl
  exact e 40
end NP
end Go.Proofs.Ytcjnmconehfbgaa
namespace Go.Proofs.Ytcjnmconehfbgaa
namespace NP
set_option linter.unusedVariables false
def ctZ (n k : Int) : Int := if n < 0 then 0 else (ct n.toNat k.toNat : Int)
theorem ctZ_zero (k : Int) : ctZ 0 k = 1 := by unfold ctZ; rw [if_neg (by omega)]; simp [ct_zero]
theorem ctZ_neg (n k : Int) (h : n < 0) : ctZ n k = 0 := by unfold ctZ; rw [if_pos h]
theorem ctZ_none (n : Int) (h : 0 < n) : ctZ n 0 = 0 := by unfold ctZ; rw [if_neg (by omega), Int.toNat_zero, ct_none _ (by omega)]; rfl
theorem ctZ_nat (n k : Nat) : ctZ n k = ct n k := by unfold ctZ; rw [if_neg (by omega)]; simp
theorem ctZ_rec (n k : Int) (hn : 1 ≤ n) (hk : 1 ≤ k) : ctZ n k = ctZ n (k - 1) + ctZ (n - k) k := by
  obtain ⟨n, rfl⟩ := Int.eq_ofNat_of_zero_le (by omega : 0 ≤ n)
  obtain ⟨k, rfl⟩ := Int.eq_ofNat_of_zero_le (by omega : 0 ≤ k)
  have e : (k : Int) - 1 = ((k - 1 : Nat) : Int) := by omega
  rw [e, ctZ_nat, ctZ_nat]
  rcases Nat.lt_or_ge n k with h | h
  · rw [ctZ_neg _ _ (by omega), ct_big n k (by omega) h]; omega
  · have e2 : (n : Int) - k = ((n - k : Nat) : Int) := by omega
    rw [e2, ctZ_nat, ct_rec n k (by omega) h]; omega
theorem ctZ_bd (n k : Int) (h : n ≤ 40) : 0 ≤ ctZ n k ∧ ctZ n k ≤ 1099511627776 := by
  unfold ctZ
  split
  · omega
  · have := ct_le n.toNat k.toNat (by omega)
    omega
theorem ctZ_crow (n k : Int) (h0 : 0 ≤ n) (h : n ≤ 40) : (crow k.toNat).getD n.toNat 0 = ctZ n k := by
  rw [crow_getD _ _ (by omega)]
  unfold ctZ
  rw [if_neg (by omega)]
/-- how many parts have a sum -/
def cpF (n : Int) : Int := if 0 ≤ n ∧ n ≤ 40 then ctZ n n else -1
/-- at most so many -/
def amF (n k : Int) : Int := if (0 ≤ n ∧ n ≤ 40) ∧ (0 ≤ k ∧ k ≤ 40) then ctZ n k else -1
/-- just so many -/
def jpF (n k : Int) : Int := if (0 ≤ n ∧ n ≤ 40) ∧ (0 ≤ k ∧ k ≤ 40) then ctZ (n - k) k else -1
theorem jp_spec (n k : Int) (hn : 0 ≤ n) (hk : 0 < k) : ctZ n k - ctZ n (k - 1) = ctZ (n - k) k := by
  rcases Int.lt_or_le 0 n with h | h
  · rw [ctZ_rec n k (by omega) (by omega)]; omega
  · obtain rfl : n = 0 := by omega
    rw [ctZ_zero, ctZ_zero, ctZ_neg _ _ (by omega)]; rfl
end NP
end Go.Proofs.Ytcjnmconehfbgaa
namespace Go.Proofs.Ytcjnmconehfbgaa
open Go.RowKit NP
set_option maxRecDepth 8000
set_option linter.unusedVariables false

theorem rngYes (n lo hi : Int) (w : World) (h1 : lo ≤ n) (h2 : n ≤ hi) : Calls Try.prog 47 #[.int .i64 n, .int .i64 lo, .int .i64 hi] w fun e w' => e = .returned (.bool true) ∧ w' = w := by
  go_enter Try.func47, Try.ntmps47
  go_wp2
  go_ret
  exact ⟨rfl, rfl⟩
theorem rngNo (n lo hi : Int) (w : World) (h : n < lo ∨ hi < n) : Calls Try.prog 47 #[.int .i64 n, .int .i64 lo, .int .i64 hi] w fun e w' => e = .returned (.bool false) ∧ w' = w := by
  by_cases h1 : lo ≤ n
  · have h2 : hi < n := by omega
    clear h
    go_enter Try.func47, Try.ntmps47
    go_wp2
    go_ret
    exact ⟨ret_bool (by simp; omega), rfl⟩
  · clear h
    go_enter Try.func47, Try.ntmps47
    go_wp2
    go_ret
    exact ⟨rfl, rfl⟩
def inR (n lo hi : Int) : Bool := decide (lo ≤ n) && decide (n ≤ hi)
theorem inRange_any (n lo hi : Int) (w : World) : Calls Try.prog 47 #[.int .i64 n, .int .i64 lo, .int .i64 hi] w fun e w' => e = .returned (.bool (inR n lo hi)) ∧ w = w' := by
  by_cases h : lo ≤ n ∧ n ≤ hi
  · refine (rngYes n lo hi w h.1 h.2).mono ?_
    rintro e w' ⟨rfl, rfl⟩
    exact ⟨ret_bool (by unfold inR; rw [decide_eq_true h.1, decide_eq_true h.2]; rfl), rfl⟩
  · refine (rngNo n lo hi w (by omega)).mono ?_
    rintro e w' ⟨rfl, rfl⟩
    refine ⟨ret_bool ?_, rfl⟩
    unfold inR
    rcases Int.lt_or_le n lo with h1 | h1
    · rw [decide_eq_false (by omega : ¬ lo ≤ n)]; rfl
    · rw [decide_eq_false (by omega : ¬ n ≤ hi)]; simp


theorem T_info41 : (Try.prog.info? 58).map (·.size) = some 41 := by kernel_rfl
theorem T_index41 (D : List Int) (k : Nat) (hk : k < D.length) (h16 : k < 41) (w : World) : (Instr.index 58 (.agg (arr D)) (.int .i64 k)).run Try.prog w = .ok (.int .i64 D[k]) w :=
  run_index_row 58 3 _ 41 Try.underlying58 Try.underlying3 rfl (by kernel_rfl) (arr D) k _ h16 (arr_get D k hk) .i64 w

theorem withMany_any (D : List Int) (hD : D.length = 41) (p : Nat) (hp : 1 ≤ p) (hp40 : p ≤ 40) (hb : ∀ s, s < 41 → (0 ≤ D.getD s 0 ∧ D.getD s 0 ≤ 1099511627776) ∧ 0 ≤ wv D p s ∧ wv D p s ≤ 1099511627776) (w : World) :
    Calls Try.prog 78 #[.agg (arr D), .int .i64 p] w fun e w' => e = .returned (.agg (arr (wrow D p))) ∧ Below w.heap.size w w' := by
  have HD := Lib.hid hD
  have hi41 : (Try.prog.info? 58).map (·.size) = some (arr D).size := by rw [arr_size, hD]; exact T_info41
  have HB := Lib.hid hb
  clear hD hb
  have hrange : (41 : Int) - (p : Int) = ((41 - p : Nat) : Int) := by omega
  have hb0 := (Blk.new w 58 (arr D)).alloc (.cells (arr (List.replicate 41 0)) 58)
  go_enter Try.func78, Try.ntmps78
  go_wp2
  go_loopw [8] (fun i wr => ∃ l : Nat, l ≤ 41 - p ∧ i = .int .i64 l ∧ Below w.heap.size w wr ∧ Blk wr (w.heap.size + 1) 58 (arr (List.replicate 41 0)) ∧ Blk wr w.heap.size 58 (arr (wmid D p l))) (fun i _ => 41 - (intOf i).toNat)
  case atStart =>
    refine ⟨0, Nat.zero_le _, rfl, ((Below.refl _ _).alloc (Nat.le_refl _) _).alloc (by simp) _, ?_, by rw [wmid_zero HD.out]; exact hb0⟩
    have e := Blk.new (w.alloc (.cells (arr D) 58)) 58 (arr (List.replicate 41 0))
    rw [World.size_alloc] at e
    exact e
  case round =>
    obtain ⟨l, hl, rfl, hbel, hb2, hb3⟩ := hrel
    by_cases hlt : l < 41 - p
    · have hlp : l + p < 41 := by omega
      have hl41 : l < 41 := by omega
      have b1 := (HB.out (l + p) hlp).1
      have b2 := (HB.out l hl41).2
      have hs : D.getD (l + p) 0 + wv D p l = wv D p (l + p) := by rw [wv_high D p (l + p) hp (by omega), Nat.add_sub_cancel]
      have b3 := (HB.out (l + p) hlp).2
      rw [← hs] at b3
      have HSET := Lib.hid (wmid_set D p l hp hlp)
      have hc1 : wr.cell? ⟨w.heap.size, l, none⟩ = some (.int .i64 (wv D p l)) := by rw [hb3.cell l, arr_get _ l (by rw [wmid_len]; exact hl41), wmid_lo D p l hp hl41]
      have hc2 : wr.cell? ⟨w.heap.size, l + p, none⟩ = some (.int .i64 (D.getD (l + p) 0)) := by rw [hb3.cell (l + p), arr_get _ (l + p) (by rw [wmid_len]; exact hlp), wmid_hi D p l hlp]
      have hf2 : wr.frozen? ⟨w.heap.size, l + p, none⟩ = false := hb3.free (l + p)
      have hl41' : (l : Int) < 41 := by omega
      clear hs
      obtain ⟨q, hq⟩ : ∃ q : Nat, q = l + p := ⟨_, rfl⟩
      rw [← hq] at hf2 b1 b3
      have hc2' : wr.cell? ⟨w.heap.size, q, none⟩ = some (.int .i64 (D.getD q 0)) := by rw [hq]; exact hc2
      have HSET' : Hid ((wmid D p l).set q (D.getD q 0 + wv D p l) = wmid D p (l + 1)) := Lib.hid (by rw [hq]; exact HSET.out)
      clear hc2 HSET
      have hw : IntKind.i64.wrap ((l : Int) + (p : Int)) = (q : Int) := by rw [IntWalk.i64_in _ (by omega)]; omega
      have hq41 : (q : Int) < 41 := by omega
      have hq41' : q < 41 := by omega
      clear hq
      generalize D.getD q 0 = x at *
      generalize wv D p l = y at *
      have hw2 : IntKind.i64.wrap (x + y) = x + y := IntWalk.i64_in _ (by omega)
      go_wp2
      go_still_tail 10, (by kernel_rfl)
      change wpList _ _ _ _ _ wr.drew
      have hbel' : Below w.heap.size w wr.drew := hbel.trans ((Dr.n wr 1).below _)
      have hb2' : Blk wr.drew (w.heap.size + 1) 58 (arr (List.replicate 41 0)) := hb2
      have hb3' : Blk wr.drew w.heap.size 58 (arr (wmid D p l)) := hb3
      have hf3 : wr.drew.frozen? ⟨w.heap.size, q, none⟩ = false := hf2
      have hc3 : wr.drew.cell? ⟨w.heap.size, q, none⟩ = some (.int .i64 x) := hc2'
      generalize wr.drew = w2 at *
      clear hbel hb2 hb3
      go_wp2
      go_roundw
      case rel =>
        refine ⟨l + 1, by omega, by go_num, hbel'.setCell (by show w.heap.size ≤ w.heap.size; omega) _, hb2'.off (by show w.heap.size + 1 ≠ w.heap.size; omega) _, ?_⟩
        have e := hb3'.set q (.int .i64 (x + y))
        rw [arr_set, HSET'.out] at e
        exact e
      case measure => simp [intOf]; omega
    · obtain rfl : l = 41 - p := by omega
      have HE := Lib.hid (wmid_end D p (41 - p) (by omega))
      have hi2 : (Try.prog.info? 58).map (·.size) = some (arr (wmid D p (41 - p))).size := by rw [arr_size, wmid_len]; exact T_info41
      have hsz : (arr (wmid D p (41 - p))).size = (arr (List.replicate 41 0)).size := by rw [arr_size, arr_size, wmid_len]; rfl
      go_wp2_with (first | (refine wpList_load_row rfl 58 (.tmp 2) rfl w.heap.size rfl 58 (arr (wmid D p (41 - p))) (0, 0) _ hb3 Try.underlying58 rfl hi2 ?_) | (refine wpList_store_row rfl 58 (.tmp 4) (.tmp 22) rfl (w.heap.size + 1) rfl (arr (wmid D p (41 - p))) rfl 58 _ hb2 hi2 hsz (arr_one _) ?_))
      refine bodyPost_ret (results_cell_row rfl _ _ (w.heap.size + 1) 58 (arr (wmid D p (41 - p))) (0, 0) _ rfl hb2.row Try.underlying58 rfl hi2) rfl ?_
      exact ⟨by rw [HE.out], below_setRow' hbel (by omega) _⟩

theorem crow_bd (k : Nat) : ∀ s, s < 41 → (0 ≤ (crow k).getD s 0 ∧ (crow k).getD s 0 ≤ 1099511627776) ∧ 0 ≤ wv (crow k) (k + 1) s ∧ wv (crow k) (k + 1) s ≤ 1099511627776 := fun s hs => by
  rw [crow_getD k s hs, wv_crow k s hs]
  have := ct_le s k (by omega)
  have := ct_le s (k + 1) (by omega)
  omega

theorem countsBy_any (ff : Nat) (he : ∀ (args : Array Value) (w : World), (callFunc ff args).run Try.prog w = .ok (.enter ff args) w) (R : Nat → List Int) (h0 : R 0 = 1 :: List.replicate 40 0) (hl : ∀ j, (R j).length = 41)
    (k : Nat) (hk : k ≤ 40) (hc : ∀ j : Nat, j < k → ∀ w1 : World, Calls Try.prog ff #[.agg (arr (R j)), .int .i64 ((j : Int) + 1)] w1 fun e w2 => e = .returned (.agg (arr (R (j + 1)))) ∧ Below w1.heap.size w1 w2) (w : World) :
    Calls Try.prog 77 #[.int .i64 k, .func (.func ff) #[] #[]] w fun e w' => e = .returned (.agg (arr (R k))) ∧ Below w.heap.size w w' := by
  have hi0 : (Try.prog.info? 58).map (·.size) = some (arr (1 :: List.replicate 40 0)).size := T_info41
  have hsz0 : (arr (1 :: List.replicate 40 0)).size = (arr (List.replicate 41 0)).size := rfl
  have hb1 : Blk ((w.alloc (.cells (arr (List.replicate 41 0)) 58)).alloc (.cells (arr (List.replicate 41 0)) 58)) (w.heap.size + 1) 58 (arr (List.replicate 41 0)) := by
    have e := Blk.new (w.alloc (.cells (arr (List.replicate 41 0)) 58)) 58 (arr (List.replicate 41 0))
    rw [World.size_alloc] at e
    exact e
  have HC := Lib.hid hc
  have HL := Lib.hid hl
  clear hc hl
  go_enter Try.func77, Try.ntmps77
  go_wp2_with (refine wpList_store_row rfl 58 (.tmp 5) (.tmp 7) rfl (w.heap.size + 1) rfl (arr (1 :: List.replicate 40 0)) rfl 58 _ hb1 hi0 hsz0 (arr_one _) ?_)
  go_loopw [6] (fun i wr => ∃ j : Nat, j ≤ k ∧ i = .int .i64 ((j : Int) + 1) ∧ Below w.heap.size w wr ∧ Blk wr w.heap.size 58 (arr (List.replicate 41 0)) ∧ Blk wr (w.heap.size + 1) 58 (arr (R j))) (fun i _ => 50 - (intOf i).toNat)
  case atStart =>
    refine ⟨0, Nat.zero_le _, rfl, below_setRow' (((Below.refl _ _).alloc (Nat.le_refl _) _).alloc (by simp) _) (by omega) _, ?_, ?_⟩
    · exact ((Blk.new w 58 (arr (List.replicate 41 0))).alloc _).rowOff (by omega)
    · rw [h0]; exact hb1.row
  case round =>
    obtain ⟨j, hj, rfl, hbel, hb2, hb3⟩ := hrel
    have hi2 : (Try.prog.info? 58).map (·.size) = some (arr (R j)).size := by rw [arr_size, HL.out]; exact T_info41
    by_cases hlt : j < k
    · have hlt' : (j : Int) + 1 ≤ (k : Int) := by omega
      have hi3 : (Try.prog.info? 58).map (·.size) = some (arr (R (j + 1))).size := by rw [arr_size, HL.out]; exact T_info41
      have hsz : (arr (R (j + 1))).size = (arr (R j)).size := by rw [arr_size, arr_size, HL.out, HL.out]
      have HCj := Lib.hid (HC.out j hlt)
      go_wp2_with (first
        | (refine wpList_load_row rfl 58 (.tmp 5) rfl (w.heap.size + 1) rfl 58 (arr (R j)) (0, 0) _ hb3 Try.underlying58 rfl hi2 ?_)
        | (with_reducible refine (HCj.out _).mono ?_; rintro e w1 ⟨rfl, hbw⟩; have hb3' : Blk w1 (w.heap.size + 1) 58 (arr (R j)) := hb3.below hbw hb3.lt; have hb2' : Blk w1 w.heap.size 58 (arr (List.replicate 41 0)) := hb2.below hbw hb2.lt; have hbel' : Below w.heap.size w w1 := hbel.trans (hbw.mono hbel.size))
        | (refine wpList_store_row rfl 58 (.tmp 5) (.tmp 16) rfl (w.heap.size + 1) rfl (arr (R (j + 1))) rfl 58 _ hb3' hi3 hsz (arr_one _) ?_))
      go_roundw
      case rel => exact ⟨j + 1, by omega, by go_num, below_setRow' hbel' (by omega) _, hb2'.rowOff (by omega), hb3'.row (vs := arr (R (j + 1)))⟩
      case measure => simp [intOf]; omega
    · obtain rfl : j = k := by omega
      have hlt' : (j : Int) < (j : Int) + 1 := by omega
      have hsz : (arr (R j)).size = (arr (List.replicate 41 0)).size := by rw [arr_size, arr_size, HL.out]; rfl
      go_wp2_with (first
        | (refine wpList_load_row rfl 58 (.tmp 5) rfl (w.heap.size + 1) rfl 58 (arr (R j)) (0, 0) _ hb3 Try.underlying58 rfl hi2 ?_)
        | (refine wpList_store_row rfl 58 (.tmp 4) (.tmp 17) rfl w.heap.size rfl (arr (R j)) rfl 58 _ hb2 hi2 hsz (arr_one _) ?_))
      refine bodyPost_ret (results_cell_row rfl _ _ w.heap.size 58 (arr (R j)) (0, 0) _ rfl hb2.row Try.underlying58 rfl hi2) rfl ?_
      exact ⟨rfl, below_setRow' hbel (Nat.le_refl _) _⟩

theorem countsUpTo_any (k : Nat) (hk : k ≤ 40) (w : World) :
    Calls Try.prog 53 #[.int .i64 k] w fun e w' => e = .returned (.agg (arr (crow k))) ∧ Below w.heap.size w w' := by
  have H := Lib.hid (countsBy_any 78 (enters_of Try.func78 (by kernel_rfl) rfl) crow crow_zero crow_len k hk (fun j hj w1 => by
    have h := withMany_any (crow j) (crow_len j) (j + 1) (by omega) (by omega) (crow_bd j) w1
    rw [wrow_crow] at h
    exact h))
  have hic : (Try.prog.info? 58).map (·.size) = some (arr (crow k)).size := by rw [arr_size, crow_len]; exact T_info41
  have hsz : (arr (crow k)).size = (arr (List.replicate 41 0)).size := by rw [arr_size, arr_size, crow_len]; rfl
  have hb0 := Blk.new w 58 (arr (List.replicate 41 0))
  have hbel0 : Below w.heap.size w (w.alloc (.cells (arr (List.replicate 41 0)) 58)) := (Below.refl _ _).alloc (Nat.le_refl _) _
  go_enter Try.func53, Try.ntmps53
  go_wp2_with (first
    | (go_at_call 77; refine (H.out _).mono ?_; rintro e w1 ⟨rfl, hb⟩; have hb0' := hb0.below hb hb0.lt; have hbel1 := hbel0.trans (hb.mono hbel0.size))
    | (refine wpList_store_row rfl 58 (.tmp 2) (.tmp 4) rfl w.heap.size rfl (arr (crow k)) rfl 58 _ hb0' hic hsz (arr_one _) ?_))
  refine bodyPost_ret (results_cell_row rfl _ _ w.heap.size 58 (arr (crow k)) (0, 0) _ rfl hb0'.row Try.underlying58 rfl hic) rfl ?_
  exact ⟨rfl, below_setRow' hbel1 (Nat.le_refl _) _⟩
end Go.Proofs.Ytcjnmconehfbgaa
namespace Go.Proofs.Ytcjnmconehfbgaa
open Go.RowKit NP
set_option maxRecDepth 8000
set_option linter.unusedVariables false

theorem cpF_in {n : Int} (h : 0 ≤ n ∧ n ≤ 40) : cpF n = ctZ n n := by unfold cpF; rw [if_pos h]
theorem cpF_out {n : Int} (h : ¬ (0 ≤ n ∧ n ≤ 40)) : cpF n = -1 := by unfold cpF; rw [if_neg h]
theorem amF_in {n k : Int} (h : 0 ≤ n ∧ n ≤ 40) (h2 : 0 ≤ k ∧ k ≤ 40) : amF n k = ctZ n k := by unfold amF; rw [if_pos ⟨h, h2⟩]
theorem amF_out {n k : Int} (h : ¬ ((0 ≤ n ∧ n ≤ 40) ∧ (0 ≤ k ∧ k ≤ 40))) : amF n k = -1 := by unfold amF; rw [if_neg h]
theorem jpF_in {n k : Int} (h : 0 ≤ n ∧ n ≤ 40) (h2 : 0 ≤ k ∧ k ≤ 40) : jpF n k = ctZ (n - k) k := by unfold jpF; rw [if_pos ⟨h, h2⟩]
theorem jpF_out {n k : Int} (h : ¬ ((0 ≤ n ∧ n ≤ 40) ∧ (0 ≤ k ∧ k ≤ 40))) : jpF n k = -1 := by unfold jpF; rw [if_neg h]


theorem iCountParts_any (n : Int) (w : World) :
    Calls Try.prog 21 #[.int .i64 n] w fun e w' => e = .returned (.int .i64 (cpF n)) ∧ Below w.heap.size w w' := by
  by_cases h : 0 ≤ n ∧ n ≤ 40
  · rw [cpF_in h]
    obtain ⟨k, rfl⟩ := Int.eq_ofNat_of_zero_le h.1
    have hk : k ≤ 40 := by omega
    have hk41 : k < (crow k).length := by rw [crow_len]; omega
    have hix := T_index41 (crow k) k hk41 (by omega)
    rw [crow_get, ← ctZ_nat] at hix
    have g1 : decide ((k : Int) < 0) = false := decide_eq_false (by omega)
    have g2 : decide (40 < k) = false := decide_eq_false (by omega)
    clear h
    go_enter Try.func21, Try.ntmps21
    go_wp2_with (go_at_call 53; refine (countsUpTo_any k hk _).mono ?_; rintro e w1 ⟨rfl, hb⟩)
    go_ret
    exact ⟨rfl, hb⟩
  · rw [cpF_out h]
    by_cases h1 : n < 0
    · have g1 : decide (n < 0) = true := decide_eq_true h1
      clear h h1
      go_enter Try.func21, Try.ntmps21
      go_wp2
      go_ret
      exact ⟨rfl, Below.refl _ _⟩
    · have g1 : decide (n < 0) = false := decide_eq_false h1
      have g2 : decide (40 < n) = true := decide_eq_true (by omega)
      clear h h1
      go_enter Try.func21, Try.ntmps21
      go_wp2
      go_ret
      exact ⟨rfl, Below.refl _ _⟩




end Go.Proofs.Ytcjnmconehfbgaa
namespace Go.Proofs.Ytcjnmconehfbgaa
namespace NP
set_option linter.unusedVariables false
def sqn (n : Int) : Nat → Int
  | 0 => 0
  | m + 1 => sqn n m + ctZ (n - (m : Int) * m) m
def scs (n : Int) : Nat → Int
  | 0 => 0
  | m + 1 => scs n m + (if (n - (m : Int) * m) % 2 = 0 then ctZ ((n - (m : Int) * m) / 2) m else 0)
def isq (n : Int) : Nat := ff (fun k => decide ((k : Int) * k ≤ n)) 7
def sqF (n : Int) : Int := if 0 ≤ n ∧ n ≤ 40 then sqn n (isq n) else -1
def scF (n : Int) : Int := if 0 ≤ n ∧ n ≤ 40 then scs n (isq n) else -1
theorem sq_nn (m : Nat) : 0 ≤ (m : Int) * m := Int.mul_nonneg (by omega) (by omega)
theorem sqn_bd (n : Int) (hn : n ≤ 40) (m : Nat) : 0 ≤ sqn n m ∧ sqn n m ≤ 1099511627776 * m := by
  induction m with
  | zero => simp [sqn]
  | succ m ih =>
    have := sq_nn m
    have := ctZ_bd (n - (m : Int) * m) m (by omega)
    simp only [sqn]
    omega
theorem scs_bd (n : Int) (hn : n ≤ 40) (m : Nat) : 0 ≤ scs n m ∧ scs n m ≤ 1099511627776 * m := by
  induction m with
  | zero => simp [scs]
  | succ m ih =>
    have := sq_nn m
    have := ctZ_bd ((n - (m : Int) * m) / 2) m (by omega)
    simp only [scs]
    split <;> omega
theorem sq_lt (k : Nat) (hk : k < 7) : (k : Int) * k ≤ 36 := by
  have : ∀ k : Nat, k < 7 → (k : Int) * k ≤ 36 := by decide
  exact this k hk
theorem isq_eq {n : Int} (hn : n ≤ 40) {k : Nat} (hk : k ≤ 7) (h : ∀ j, j < k → (j : Int) * j ≤ n) (h2 : k = 7 ∨ n < (k : Int) * k) : isq n = k := by
  unfold isq
  refine ff_eq (fun j hj => decide_eq_true (h j hj)) hk ?_
  rcases h2 with h2 | h2
  · exact .inl h2
  · exact .inr (decide_eq_false (by omega))
/-- the sum of the divisors, up to m -/
def dvs (n : Int) : Nat → Int
  | 0 => 0
  | m + 1 => dvs n m + (if n % ((m : Int) + 1) = 0 then (m : Int) + 1 else 0)
def dvF (n : Int) : Int := if 1 ≤ n ∧ n ≤ 40 then dvs n n.toNat else -1
theorem dvs_bd (n : Int) (m : Nat) (hm : m ≤ 41) : 0 ≤ dvs n m ∧ dvs n m ≤ 50 * m := by
  induction m with
  | zero => simp [dvs]
  | succ m ih =>
    have := ih (by omega)
    simp only [dvs]
    split <;> omega
def pnF (k : Int) : Int := if -100 ≤ k ∧ k ≤ 100 then k * (3 * k - 1) / 2 else -1
theorem pn_bd (k : Int) (h1 : -100 ≤ k) (h2 : k ≤ 100) : 0 ≤ k * (3 * k - 1) ∧ k * (3 * k - 1) ≤ 30100 := by
  rcases Int.lt_or_le k 1 with h | h
  · have e : k * (3 * k - 1) = (-k) * (3 * (-k) + 1) := by rw [Int.mul_add, Int.mul_sub, Int.mul_one, Int.mul_one, Int.mul_neg, Int.mul_neg, Int.neg_mul]; omega
    rw [e]
    have a := Int.mul_nonneg (a := -k) (b := 3 * (-k) + 1) (by omega) (by omega)
    have b := Int.mul_le_mul (a := -k) (b := 3 * (-k) + 1) (c := 100) (d := 301) (by omega) (by omega) (by omega) (by omega)
    omega
  · have a := Int.mul_nonneg (a := k) (b := 3 * k - 1) (by omega) (by omega)
    have b := Int.mul_le_mul (a := k) (b := 3 * k - 1) (c := 100) (d := 299) (by omega) (by omega) (by omega) (by omega)
    omega
end NP
end Go.Proofs.Ytcjnmconehfbgaa
namespace Go.Proofs.Ytcjnmconehfbgaa
open Go.RowKit NP
set_option maxRecDepth 8000
set_option linter.unusedVariables false

theorem same_below {P : Program} {f : FuncId} {args : Array Value} {w : World} {v : Value} (h : Calls P f args w fun e w' => e = .returned v ∧ w = w') : Calls P f args w fun e w' => e = .returned v ∧ Below w.heap.size w w' := h.mono fun _ _ ⟨a, b⟩ => ⟨a, b ▸ Below.refl _ _⟩









end Go.Proofs.Ytcjnmconehfbgaa
namespace Go.Proofs.Ytcjnmconehfbgaa
namespace NP
set_option linter.unusedVariables false
/-- counts when a further number may come once -/
def wo (D : List Int) (p : Nat) (sg : Int) (s : Nat) : Int := if s < p then D.getD s 0 else D.getD s 0 + sg * D.getD (s - p) 0
def worow (D : List Int) (p : Nat) (sg : Int) : List Int := (List.range 41).map (wo D p sg)
def womid (D : List Int) (p : Nat) (sg : Int) (l : Nat) : List Int := (List.range 41).map fun s => if s < p + l then wo D p sg s else D.getD s 0
theorem worow_len (D : List Int) (p : Nat) (sg : Int) : (worow D p sg).length = 41 := by simp [worow]
theorem womid_len (D : List Int) (p : Nat) (sg : Int) (l : Nat) : (womid D p sg l).length = 41 := by simp [womid]
theorem womid_zero {D : List Int} (hD : D.length = 41) (p : Nat) (sg : Int) : womid D p sg 0 = D := by
  apply List.ext_getElem
  · rw [womid_len, hD]
  · intro j h1 h2
    simp only [womid, List.getElem_map, List.getElem_range]
    rw [← getD_lt h2]
    split
    · unfold wo; rw [if_pos (by omega)]
    · rfl
theorem womid_end (D : List Int) (p : Nat) (sg : Int) (l : Nat) (h : 41 ≤ p + l) : womid D p sg l = worow D p sg := by
  apply List.map_congr_left
  intro s hs
  rw [List.mem_range] at hs
  rw [if_pos (by omega)]
theorem womid_hi (D : List Int) (p : Nat) (sg : Int) (l : Nat) (h : l + p < 41) : (womid D p sg l)[l + p]'(by rw [womid_len]; exact h) = D.getD (l + p) 0 := by
  simp only [womid, List.getElem_map, List.getElem_range]
  rw [if_neg (by omega)]
theorem womid_set (D : List Int) (p : Nat) (sg : Int) (l : Nat) (hp : 1 ≤ p) (h : l + p < 41) : (womid D p sg l).set (l + p) (D.getD (l + p) 0 + sg * D.getD l 0) = womid D p sg (l + 1) := by
  apply List.ext_getElem
  · rw [List.length_set, womid_len, womid_len]
  · intro j h1 h2
    by_cases hj : l + p = j
    · subst hj
      rw [List.getElem_set_self]
      simp only [womid, List.getElem_map, List.getElem_range]
      rw [if_pos (by omega)]
      unfold wo
      rw [if_neg (by omega), Nat.add_sub_cancel]
    · rw [List.getElem_set_ne hj]
      simp only [womid, List.getElem_map, List.getElem_range]
      split <;> split <;> first | rfl | omega
theorem worow_getD (D : List Int) (p : Nat) (sg : Int) (s : Nat) (h : s < 41) : (worow D p sg).getD s 0 = wo D p sg s := by
  rw [getD_lt (by rw [worow_len]; exact h)]
  simp [worow]
/-- the different parts, none greater than d, with signs -/
def srow : Nat → List Int
  | 0 => 1 :: List.replicate 40 0
  | d + 1 => worow (srow d) (d + 1) (-1)
theorem srow_len (d : Nat) : (srow d).length = 41 := by
  cases d with
  | zero => rfl
  | succ d => exact worow_len _ _ _
theorem srow_bd (d : Nat) : ∀ s, -(2 ^ d : Int) ≤ (srow d).getD s 0 ∧ (srow d).getD s 0 ≤ 2 ^ d := by
  induction d with
  | zero =>
    intro s
    rcases Nat.lt_or_ge s 41 with h | h
    · have : ∀ s, s < 41 → -(2 ^ 0 : Int) ≤ (srow 0).getD s 0 ∧ (srow 0).getD s 0 ≤ 2 ^ 0 := by decide
      exact this s h
    · rw [getD_ge (by rw [srow_len]; exact h)]; decide
  | succ d ih =>
    intro s
    have hp : (2 : Int) ^ (d + 1) = 2 * 2 ^ d := by rw [Int.pow_succ]; omega
    have h0 : (0 : Int) < 2 ^ d := Int.pow_pos (by decide)
    rw [hp]
    rcases Nat.lt_or_ge s 41 with h | h
    · show -(2 * 2 ^ d : Int) ≤ (worow (srow d) (d + 1) (-1)).getD s 0 ∧ _
      rw [show srow (d + 1) = worow (srow d) (d + 1) (-1) from rfl, worow_getD _ _ _ _ h]
      unfold wo
      have a := ih s
      have b := ih (s - (d + 1))
      split <;> omega
    · rw [getD_ge (by rw [srow_len]; exact h)]; omega
theorem pow40 (d : Nat) (h : d ≤ 40) : (2 : Int) ^ d ≤ 1099511627776 := by
  have : ∀ d : Nat, d < 41 → (2 : Int) ^ d ≤ 1099511627776 := by decide
  exact this d (by omega)
theorem srow_bd40 (d : Nat) (h : d ≤ 40) (s : Nat) : -1099511627776 ≤ (srow d).getD s 0 ∧ (srow d).getD s 0 ≤ 1099511627776 := by
  have := srow_bd d s
  have := pow40 d h
  omega
def sdF (n : Int) : Int := if 0 ≤ n ∧ n ≤ 40 then (srow n.toNat).getD n.toNat 0 else 0
/-- what stands in the model's table of n+1 numbers when those from x up have been done -/
def smid (D : List Int) (n d x : Nat) : List Int := (List.range (n + 1)).map fun s => if x ≤ s then wo D d (-1) s else D.getD s 0
theorem smid_len (D : List Int) (n d x : Nat) : (smid D n d x).length = n + 1 := by simp [smid]
theorem smid_get (D : List Int) (n d x k : Nat) (h : k < (smid D n d x).length) : (smid D n d x)[k] = if x ≤ k then wo D d (-1) k else D.getD k 0 := by simp [smid]
theorem smid_set (D : List Int) (n d x : Nat) (hd : 1 ≤ d) (hx : d ≤ x) (hn : x ≤ n) : (smid D n d (x + 1)).set x (D.getD x 0 - D.getD (x - d) 0) = smid D n d x := by
  apply List.ext_getElem
  · rw [List.length_set, smid_len, smid_len]
  · intro j h1 h2
    by_cases hj : x = j
    · subst hj
      rw [List.getElem_set_self, smid_get, if_pos (Nat.le_refl _)]
      unfold wo
      rw [if_neg (by omega)]
      omega
    · rw [List.getElem_set_ne hj, smid_get, smid_get]
      split <;> split <;> first | rfl | omega
theorem smid_next (D : List Int) (hD : D.length = 41) (n d : Nat) (hn : n ≤ 40) : smid D n d d = smid (worow D d (-1)) n (d + 1) (n + 1) := by
  apply List.ext_getElem
  · rw [smid_len, smid_len]
  · intro j h1 h2
    rw [smid_len] at h1
    rw [smid_get, smid_get, if_neg (by omega : ¬ n + 1 ≤ j), worow_getD _ _ _ _ (by omega)]
    split
    · rfl
    · unfold wo; rw [if_pos (by omega)]
theorem smid_start (n : Nat) (hn : n ≤ 40) : (List.replicate (n + 1) (0 : Int)).set 0 1 = smid (srow 0) n 1 (n + 1) := by
  apply List.ext_getElem
  · rw [List.length_set, List.length_replicate, smid_len]
  · intro j h1 h2
    rw [smid_len] at h2
    rw [smid_get, if_neg (by omega)]
    cases j with
    | zero => rfl
    | succ j =>
      rw [List.getElem_set_ne (by omega), List.getElem_replicate]
      have : ∀ j, j < 40 → (0 : Int) = (srow 0).getD (j + 1) 0 := by decide
      exact this j (by omega)
end NP
end Go.Proofs.Ytcjnmconehfbgaa
namespace Go.Proofs.Ytcjnmconehfbgaa
open Go.RowKit NP
set_option maxRecDepth 8000
set_option linter.unusedVariables false

theorem withOnce_any (D : List Int) (hD : D.length = 41) (p : Nat) (hp : 1 ≤ p) (hp40 : p ≤ 40) (sg : Int) (hsg : sg = 1 ∨ sg = -1) (hb : ∀ s, -1099511627776 ≤ D.getD s 0 ∧ D.getD s 0 ≤ 1099511627776) (w : World) :
    Calls Try.prog 95 #[.agg (arr D), .int .i64 p, .int .i64 sg] w fun e w' => e = .returned (.agg (arr (worow D p sg))) ∧ Below w.heap.size w w' := by
  have HD := Lib.hid hD
  have hi41 : (Try.prog.info? 58).map (·.size) = some (arr D).size := by rw [arr_size, hD]; exact T_info41
  have hsz0 : (arr D).size = (arr (List.replicate 41 0)).size := by rw [arr_size, arr_size, hD]; rfl
  have HB := Lib.hid hb
  have HSG := Lib.hid hsg
  clear hD hb hsg
  have hrange : (41 : Int) - (p : Int) = ((41 - p : Nat) : Int) := by omega
  have hba := (Blk.new w 58 (arr D)).alloc (.cells (arr (List.replicate 41 0)) 58)
  have hbr : Blk ((w.alloc (.cells (arr D) 58)).alloc (.cells (arr (List.replicate 41 0)) 58)) (w.heap.size + 1) 58 (arr (List.replicate 41 0)) := by
    have e := Blk.new (w.alloc (.cells (arr D) 58)) 58 (arr (List.replicate 41 0))
    rw [World.size_alloc] at e
    exact e
  have hbm : Blk (((w.alloc (.cells (arr D) 58)).alloc (.cells (arr (List.replicate 41 0)) 58)).alloc (.cells (arr (List.replicate 41 0)) 58)) (w.heap.size + 2) 58 (arr (List.replicate 41 0)) := by
    have e := Blk.new ((w.alloc (.cells (arr D) 58)).alloc (.cells (arr (List.replicate 41 0)) 58)) 58 (arr (List.replicate 41 0))
    rw [World.size_alloc, World.size_alloc] at e
    exact e
  go_enter Try.func95, Try.ntmps95
  go_wp2_with (first
    | (refine wpList_load_row rfl 58 (.tmp 3) rfl w.heap.size rfl 58 (arr D) (0, 0) _ hba Try.underlying58 rfl hi41 ?_)
    | (refine wpList_store_row rfl 58 (.tmp 7) (.tmp 9) rfl (w.heap.size + 2) rfl (arr D) rfl 58 _ hbm hi41 hsz0 (arr_one _) ?_))
  go_loopw [12] (fun i wr => ∃ l : Nat, l ≤ 41 - p ∧ i = .int .i64 l ∧ Below w.heap.size w wr ∧ Blk wr w.heap.size 58 (arr D) ∧ Blk wr (w.heap.size + 1) 58 (arr (List.replicate 41 0)) ∧ Blk wr (w.heap.size + 2) 58 (arr (womid D p sg l))) (fun i _ => 41 - (intOf i).toNat)
  case atStart =>
    refine ⟨0, Nat.zero_le _, rfl, below_setRow' ((((Below.refl _ _).alloc (Nat.le_refl _) _).alloc (by simp) _).alloc (by simp; omega) _) (by omega) _, ?_, ?_, ?_⟩
    · exact (hba.alloc _).rowOff (by omega)
    · exact (hbr.alloc _).rowOff (by omega)
    · rw [womid_zero HD.out]; exact hbm.row
  case round =>
    obtain ⟨l, hl, rfl, hbel, hb1, hb2, hb3⟩ := hrel
    by_cases hlt : l < 41 - p
    · have hlp : l + p < 41 := by omega
      have hl41 : l < 41 := by omega
      have b1 := HB.out (l + p)
      have b2 := HB.out l
      have HSET := Lib.hid (womid_set D p sg l hp hlp)
      have hc1 : wr.cell? ⟨w.heap.size, l, none⟩ = some (.int .i64 (D.getD l 0)) := by rw [hb1.cell l, arr_get _ l (by rw [HD.out]; exact hl41), getD_lt (by rw [HD.out]; exact hl41)]
      have hc2 : wr.cell? ⟨w.heap.size + 2, l + p, none⟩ = some (.int .i64 (D.getD (l + p) 0)) := by rw [hb3.cell (l + p), arr_get _ (l + p) (by rw [womid_len]; exact hlp), womid_hi D p sg l hlp]
      have hf2 : wr.frozen? ⟨w.heap.size + 2, l + p, none⟩ = false := hb3.free (l + p)
      have hl41' : (l : Int) < 41 := by omega
      obtain ⟨q, hq⟩ : ∃ q : Nat, q = l + p := ⟨_, rfl⟩
      rw [← hq] at hf2 b1
      have hc2' : wr.cell? ⟨w.heap.size + 2, q, none⟩ = some (.int .i64 (D.getD q 0)) := by rw [hq]; exact hc2
      have HSET' : Hid ((womid D p sg l).set q (D.getD q 0 + sg * D.getD l 0) = womid D p sg (l + 1)) := Lib.hid (by rw [hq]; exact HSET.out)
      clear hc2 HSET
      have hw : IntKind.i64.wrap ((l : Int) + (p : Int)) = (q : Int) := by rw [IntWalk.i64_in _ (by omega)]; omega
      have hq41 : (q : Int) < 41 := by omega
      have hq41' : q < 41 := by omega
      clear hq
      generalize D.getD q 0 = x at *
      generalize D.getD l 0 = y at *
      obtain ⟨pr, hpr0, HPR⟩ : ∃ pr : Int, (-1099511627776 ≤ pr ∧ pr ≤ 1099511627776) ∧ Hid (sg * y = pr) := by
        rcases HSG.out with h | h
        · exact ⟨y, b2, Lib.hid (by rw [h, Int.one_mul])⟩
        · exact ⟨-y, by omega, Lib.hid (by rw [h]; omega)⟩
      have hw2 : IntKind.i64.wrap (sg * y) = pr := by rw [HPR.out]; exact IntWalk.i64_in _ (by omega)
      have hw3 : IntKind.i64.wrap (x + pr) = x + pr := IntWalk.i64_in _ (by omega)
      rw [HPR.out] at HSET'
      go_wp2
      go_still_tail 12, (by kernel_rfl)
      change wpList _ _ _ _ _ wr.drew
      have hbel' : Below w.heap.size w wr.drew := hbel.trans ((Dr.n wr 1).below _)
      have hb1' : Blk wr.drew w.heap.size 58 (arr D) := hb1
      have hb2' : Blk wr.drew (w.heap.size + 1) 58 (arr (List.replicate 41 0)) := hb2
      have hb3' : Blk wr.drew (w.heap.size + 2) 58 (arr (womid D p sg l)) := hb3
      have hf3 : wr.drew.frozen? ⟨w.heap.size + 2, q, none⟩ = false := hf2
      have hc3 : wr.drew.cell? ⟨w.heap.size + 2, q, none⟩ = some (.int .i64 x) := hc2'
      generalize wr.drew = w2 at *
      clear hbel hb1 hb2 hb3
      go_wp2
      go_roundw
      case rel =>
        refine ⟨l + 1, by omega, by go_num, hbel'.setCell (by show w.heap.size ≤ w.heap.size + 2; omega) _, hb1'.off (by show w.heap.size ≠ w.heap.size + 2; omega) _, hb2'.off (by show w.heap.size + 1 ≠ w.heap.size + 2; omega) _, ?_⟩
        have e := hb3'.set q (.int .i64 (x + pr))
        rw [arr_set, HSET'.out] at e
        exact e
      case measure => simp [intOf]; omega
    · obtain rfl : l = 41 - p := by omega
      have HE := Lib.hid (womid_end D p sg (41 - p) (by omega))
      have hi2 : (Try.prog.info? 58).map (·.size) = some (arr (womid D p sg (41 - p))).size := by rw [arr_size, womid_len]; exact T_info41
      have hsz : (arr (womid D p sg (41 - p))).size = (arr (List.replicate 41 0)).size := by rw [arr_size, arr_size, womid_len]; rfl
      go_wp2_with (first | (refine wpList_load_row rfl 58 (.tmp 7) rfl (w.heap.size + 2) rfl 58 (arr (womid D p sg (41 - p))) (0, 0) _ hb3 Try.underlying58 rfl hi2 ?_) | (refine wpList_store_row rfl 58 (.tmp 6) (.tmp 28) rfl (w.heap.size + 1) rfl (arr (womid D p sg (41 - p))) rfl 58 _ hb2 hi2 hsz (arr_one _) ?_))
      refine bodyPost_ret (results_cell_row rfl _ _ (w.heap.size + 1) 58 (arr (womid D p sg (41 - p))) (0, 0) _ rfl hb2.row Try.underlying58 rfl hi2) rfl ?_
      exact ⟨by rw [HE.out], below_setRow' hbel (by omega) _⟩



end Go.Proofs.Ytcjnmconehfbgaa
namespace Go.Proofs.Ytcjnmconehfbgaa
open Go.RowKit NP
set_option maxRecDepth 8000
set_option linter.unusedVariables false

theorem chg_low2 {a b c : World} {g : Nat} (hb : Below a.heap.size a b) (hg : a.heap.size ≤ g) (h : b.grownBy c (some g)) : Below a.heap.size a c := hb.grown h hb.size fun k hk => by injection hk with hk; omega









end Go.Proofs.Ytcjnmconehfbgaa
namespace Go.Proofs.Ytcjnmconehfbgaa
open Go.RowKit NP
set_option maxRecDepth 8000
set_option linter.unusedVariables false
set_option linter.unusedSimpArgs false
theorem drCell {w w' : World} {p : Addr} {v : Value} (h : Dr w w') (hc : w.cell? p = some v) : w'.cell? p = some v := by
  obtain ⟨n, rfl⟩ := h
  exact hc
theorem DrawRankSpread_any (a : Option Addr) (c B : Nat) (bs : List Int) (w : World) (h : Rd w B a (bs.map (Value.int .u8))) (hB : B ≤ w.heap.size) (hb : ∀ n ∈ bs, (Lit.int .u8 n).wf = true) (hl : bs.length ≤ 1048576) (hc : bs.length ≤ c) :
    Calls Try.prog 18 #[.slice a bs.length c] w fun e w' => ∃ x y : Int, e = .returned (.tuple #[.int .i64 x, .int .i64 y]) ∧ (-1000 ≤ x ∧ x ≤ 1000) ∧ (-1000 ≤ y ∧ y ≤ 1000) ∧ Below w.heap.size w w' := by
  go_enter Try.func18, Try.ntmps18
  go_wp2_with fail
  refine (newReader_any _ _ B bs _ h hB hb hl hc).mono ?_
  rintro e w1 ⟨rfl, h1, hb1, -⟩
  go_wp2_with fail
  refine (one_any w.heap.size 0 _ _ _ [4, 9, 5, 12, 6, 8, 3, 1, 0, 7, 13, -1] _ _ (by simp) (by simp) (by omega) (h1.below ((Below.refl _ _).alloc h1.lt _)) (rd_new w1 _ _) (by intro b o e; injection e with e; injection e with e; have := h1.lt; omega)).mono ?_
  rintro e w2 ⟨k, hk, rfl, h2, hg2, -⟩
  have hx : ∀ x ∈ ([4, 9, 5, 12, 6, 8, 3, 1, 0, 7, 13, -1] : List Int), -1000 ≤ x ∧ x ≤ 1000 := by intro x hx; simp only [List.mem_cons, List.not_mem_nil, or_false] at hx; omega
  have hx2 := hx _ (List.getElem_mem hk)
  obtain ⟨x2, hxx⟩ : ∃ x, x = ([4, 9, 5, 12, 6, 8, 3, 1, 0, 7, 13, -1] : List Int)[k] := ⟨_, rfl⟩
  rw [← hxx] at hx2 ⊢
  clear hx hxx hk
  have hb2 : Below w.heap.size w w2 := chg_low2 (hb1.alloc hb1.size _) (Nat.le_refl _) hg2
  clear hg2
  go_wp2_with fail
  refine (one_any w.heap.size 1 _ _ _ [5, 7, 11, 2, 3, 1, 5, 7, 16, 0, 17] _ _ (by simp) (by simp) (by omega) (h2.below ((Below.refl _ _).alloc h2.lt _)) (rd_new w2 _ _) (by intro b o e; injection e with e; injection e with e; have := h2.lt; omega)).mono ?_
  rintro e w3 ⟨k, hk, rfl, h3, hg3, -⟩
  have hx : ∀ x ∈ ([5, 7, 11, 2, 3, 1, 5, 7, 16, 0, 17] : List Int), -1000 ≤ x ∧ x ≤ 1000 := by intro x hx; simp only [List.mem_cons, List.not_mem_nil, or_false] at hx; omega
  have hx3 := hx _ (List.getElem_mem hk)
  obtain ⟨x3, hxx⟩ : ∃ x, x = ([5, 7, 11, 2, 3, 1, 5, 7, 16, 0, 17] : List Int)[k] := ⟨_, rfl⟩
  rw [← hxx] at hx3 ⊢
  clear hx hxx hk
  have hb3 : Below w.heap.size w w3 := chg_low2 (hb2.alloc hb2.size _) (Nat.le_refl _) hg3
  clear hg3
  go_wp2_with fail
  go_ret2
  exact ⟨x2, x3, rfl, hx2, hx3, hb3⟩
theorem DrawCrankSpread_any (a : Option Addr) (c B : Nat) (bs : List Int) (w : World) (h : Rd w B a (bs.map (Value.int .u8))) (hB : B ≤ w.heap.size) (hb : ∀ n ∈ bs, (Lit.int .u8 n).wf = true) (hl : bs.length ≤ 1048576) (hc : bs.length ≤ c) :
    Calls Try.prog 25 #[.slice a bs.length c] w fun e w' => ∃ x y : Int, e = .returned (.tuple #[.int .i64 x, .int .i64 y]) ∧ (-1000 ≤ x ∧ x ≤ 1000) ∧ (-1000 ≤ y ∧ y ≤ 1000) ∧ Below w.heap.size w w' := by
  go_enter Try.func25, Try.ntmps25
  go_wp2_with fail
  refine (DrawRankSpread_any _ _ B bs _ h hB hb hl hc).mono ?_
  rintro e w1 ⟨x, y, rfl, hx, hy, hb1⟩
  go_wp2_with fail
  go_ret2
  exact ⟨x, y, rfl, hx, hy, hb1⟩
set_option maxHeartbeats 4000000 in
theorem allSame_yes (a : Option Addr) (c B : Nat) (L : List Int) (x : Int) (w : World) (h : Rd w B a (ints L)) (hx : ∀ k (hk : k < L.length), L[k] = x) (hl : L.length ≤ 1000) :
    Calls Try.prog 22 #[.slice a L.length c] w fun e w' => e = .returned (.bool true) ∧ Dr w w' := by
  have HX := Lib.hid hx
  clear hx
  go_enter Try.func22, Try.ntmps22
  go_wp2_with fail
  go_loopw [3] (fun i wr => ∃ k : Nat, 1 ≤ k ∧ (k ≤ L.length ∨ k = 1) ∧ i = .int .i64 k ∧ Dr w wr) (fun i _ => L.length - (intOf i).toNat)
  case atStart => exact ⟨1, Nat.le_refl _, .inr rfl, rfl, Dr.refl _⟩
  case round =>
    obtain ⟨k, hk1, hk, rfl, hd⟩ := hrel
    by_cases hlt : k < L.length
    · obtain ⟨b, o, rfl, hbB, hc0⟩ := h.at_ (show 0 < L.length by omega)
      have hall : ∀ j (hj : j < L.length), wr.cell? ⟨b, o + j, none⟩ = some (.int .i64 x) := fun j hj => by
        obtain ⟨b', o', e1, -, h2⟩ := (h.dr hd).at_ hj
        injection e1 with e1; injection e1 with e1 e2; subst e1 e2
        have h3 := HX.out j hj
        rw [h2]; simp [h3]
      have hck := hall k hlt
      have hc0' : wr.cell? ⟨b, o, none⟩ = some (.int .i64 x) := hall 0 (by omega)
      clear hall hc0
      have hL0 : 0 < L.length := by omega
      have hmx : Try.prog.follows .mixedOrders = true := by kernel_rfl
      go_wp2_with fail
      refine wp_region_vals [0, 1, 2, 3, 4, 5, 6, 7] [.slice (some ⟨b, o, none⟩) L.length c, .int .i64 k, .pointer (some ⟨b, o + k, none⟩), .int .i64 x, .slice (some ⟨b, o, none⟩) L.length c, .pointer (some ⟨b, o, none⟩), .int .i64 x, .bool false] (fun w' => Dr wr w') _ hmx (fun _ h => h) rfl rfl (by kernel_rfl) (by kernel_rfl) rfl ?steps ?rest
      case steps =>
        simp only [putsOfG, Act.put, List.getElem?_toArray, List.getElem?_cons_succ, List.getElem?_cons_zero, Option.bind_some, Nat.reduceAdd, List.setIfInBounds_toArray, List.set_cons_zero, List.set_cons_succ]
        refine StepsG.cons rfl rfl (fun wq hS => ?_) ?_
        · have c1 := drCell hS hck
          have c2 := drCell hS hc0'
          go_simp
        refine StepsG.cons rfl rfl (fun wq hS => ?_) ?_
        · have c1 := drCell hS hck
          have c2 := drCell hS hc0'
          go_simp
        refine StepsG.cons rfl rfl (fun wq hS => ?_) ?_
        · have c1 := drCell hS hck
          have c2 := drCell hS hc0'
          go_simp
        refine StepsG.cons rfl rfl (fun wq hS => ?_) ?_
        · have c1 := drCell hS hck
          have c2 := drCell hS hc0'
          go_simp
        refine StepsG.cons rfl rfl (fun wq hS => ?_) ?_
        · have c1 := drCell hS hck
          have c2 := drCell hS hc0'
          go_simp
        refine StepsG.cons rfl rfl (fun wq hS => ?_) ?_
        · have c1 := drCell hS hck
          have c2 := drCell hS hc0'
          go_simp
        refine StepsG.cons rfl rfl (fun wq hS => ?_) ?_
        · have c1 := drCell hS hck
          have c2 := drCell hS hc0'
          go_simp
        refine StepsG.cons rfl rfl (fun wq hS => ?_) ?_
        · have c1 := drCell hS hck
          have c2 := drCell hS hc0'
          go_simp
        exact StepsG.nil
      case rest =>
        intro wq hS
        simp only [putsOfG, Act.put, List.getElem?_toArray, List.getElem?_cons_succ, List.getElem?_cons_zero, Option.bind_some, Nat.reduceAdd, List.setIfInBounds_toArray, List.set_cons_zero, List.set_cons_succ]
        go_wp2_with fail
        go_roundw
        case rel => exact ⟨k + 1, by omega, .inl (by omega), by go_num, hd.trans hS⟩
        case measure => simp [intOf]; omega
    · clear h
      go_wp2_with fail
      go_ret
      exact ⟨rfl, hd⟩
end Go.Proofs.Ytcjnmconehfbgaa
