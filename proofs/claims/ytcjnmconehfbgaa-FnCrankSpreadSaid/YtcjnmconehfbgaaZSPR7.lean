/-
  Walks: how the ranks and the cranks of all parts of a number spread over remainders. Walks: CountParts, AtMostParts, JustParts of the model and of the program. Plain mathematics: the spreads of ranks and cranks, by a table. Plain mathematics of sums over squares and divisors. Walks: SquareSum, SelfCount, DivisorSum, Pentagonal of the model and of the program. Plain mathematics of counts with signs. Walks: withOnce of the program, SignedDistinct of the model and of the program. Walks: the draws of numbers: CountParts, AtMostParts, JustParts, DivisorSum, Pentagonal, SignedDistinct. A region that draws its order, of whose first operations each yields the same value in every world of a kind, guarded ones among them: they may be carried out in their text's order. Walks: the draws of a number and a divisor, whether all numbers are one.
-/
import Derived.Test.YtcjnmconehfbgaaZSPR1
import Derived.Test.YtcjnmconehfbgaaZSPR2
import Derived.Test.YtcjnmconehfbgaaZSPR3
import Derived.Test.YtcjnmconehfbgaaZSPR4
import Derived.Test.YtcjnmconehfbgaaZSPR5
import Derived.Test.YtcjnmconehfbgaaZSPR6
import Derived.Orders
namespace Go.Proofs.Ytcjnmconehfbgaa
open Go.RowKit NP
set_option maxRecDepth 8000
set_option linter.unusedVariables false
set_option linter.unusedSimpArgs false
def sprOk (n m : Int) : Bool := decide (0 ≤ n ∧ n ≤ 12 ∧ 1 ≤ m ∧ m ≤ 16)
def sprF (b : Bool) (n m : Int) : List Int := if sprOk n m then sprd m.toNat ((allQ n.toNat n.toNat n.toNat).map (spf b)) else []
theorem sprF_len (b : Bool) (n m : Int) : (sprF b n m).length ≤ 16 := by
  unfold sprF
  split
  · rename_i h
    unfold sprOk at h
    simp only [decide_eq_true_eq] at h
    rw [sprd_len]; omega
  · simp
theorem rank_isM (w : World) : IsM w (.func (.func 50) #[] #[]) (spf false) := by
  refine ⟨_, _, _, rfl, enters_of Try.func50 (by kernel_rfl) rfl, fun w1 _ L hL => ?_⟩
  have hb := valid_bd hL
  have e : dg L = pad L := dg_yes hL
  refine (drank_any (pad L) (by rw [← e]; exact dg_len L) (by rw [← e]; exact dg_bd L) w1).mono ?_
  rintro e' w2 ⟨rfl, hb2⟩
  refine ⟨?_, hb2⟩
  rw [← e, rnk_dg]
  rfl
theorem crank_isM (w : World) : IsM w (.func (.func 54) #[] #[]) (spf true) := by
  refine ⟨_, _, _, rfl, enters_of Try.func54 (by kernel_rfl) rfl, fun w1 _ L hL => ?_⟩
  exact dcrank_any L hL w1
theorem spread_no (n m : Int) (fv : Value) (h : sprOk n m = false) (w : World) :
    Calls Try.prog 49 #[.int .i64 n, .int .i64 m, fv] w fun e w' => e = .returned (.slice none 0 0) ∧ Below w.heap.size w w' := by
  unfold sprOk at h
  simp only [decide_eq_false_iff_not] at h
  by_cases h1 : n < 0
  · have d1 : decide (n < 0) = true := decide_eq_true h1
    go_enter Try.func49, Try.ntmps49
    go_wp2_with fail
    all_goals (go_ret; exact ⟨rfl, ((Below.refl _ _).alloc (Nat.le_refl _) _).alloc (by simp) _⟩)
  have d1 : decide (n < 0) = false := decide_eq_false h1
  by_cases h2 : 12 < n
  · have d2 : decide (12 < n) = true := decide_eq_true h2
    go_enter Try.func49, Try.ntmps49
    go_wp2_with fail
    all_goals (go_ret; exact ⟨rfl, ((Below.refl _ _).alloc (Nat.le_refl _) _).alloc (by simp) _⟩)
  have d2 : decide (12 < n) = false := decide_eq_false h2
  by_cases h3 : m < 1
  · have d3 : decide (m < 1) = true := decide_eq_true h3
    go_enter Try.func49, Try.ntmps49
    go_wp2_with fail
    all_goals (go_ret; exact ⟨rfl, ((Below.refl _ _).alloc (Nat.le_refl _) _).alloc (by simp) _⟩)
  have d3 : decide (m < 1) = false := decide_eq_false h3
  have h4 : 16 < m := by omega
  have d4 : decide (16 < m) = true := decide_eq_true h4
  clear h
  go_enter Try.func49, Try.ntmps49
  go_wp2_with fail
  all_goals (go_ret; exact ⟨rfl, ((Below.refl _ _).alloc (Nat.le_refl _) _).alloc (by simp) _⟩)
theorem spread_all (n m : Int) (b : Bool) (fv : Value) (w : World) (hfv : IsM w fv (spf b)) :
    Calls Try.prog 49 #[.int .i64 n, .int .i64 m, fv] w fun e w' => ∃ a' c', e = .returned (.slice a' (sprF b n m).length c') ∧ Own w' w.heap.size w'.heap.size 3 (.slice a' (sprF b n m).length c') (ints (sprF b n m)) ∧ Below w.heap.size w w' := by
  cases h : sprOk n m with
  | false =>
    refine (spread_no n m fv h w).mono ?_
    rintro e w' ⟨rfl, hb⟩
    have e0 : sprF b n m = [] := by simp [sprF, h]
    rw [e0]
    exact ⟨none, 0, rfl, Own.nil w' w.heap.size 3, hb⟩
  | true =>
    have h' := h
    unfold sprOk at h'
    simp only [decide_eq_true_eq] at h'
    have e0 : sprF b n m = sprd m.toNat ((allQ n.toNat n.toNat n.toNat).map (spf b)) := by simp [sprF, h]
    have e1 : (sprF b n m).length = m.toNat := by rw [e0, sprd_len]
    have := spread_any n.toNat m.toNat (by omega) (by omega) (by omega) fv (spf b) w hfv
    rw [Int.toNat_of_nonneg (by omega), Int.toNat_of_nonneg (by omega)] at this
    refine this.mono ?_
    rintro e w' ⟨a', c', rfl, ho, hb⟩
    rw [e1, e0]
    exact ⟨a', c', rfl, ho, hb⟩
theorem iRankSpread_any (n m : Int) (w : World) :
    Calls Try.prog 14 #[.int .i64 n, .int .i64 m] w fun e w' => ∃ a' c', e = .returned (.slice a' (sprF false n m).length c') ∧ Own w' w.heap.size w'.heap.size 3 (.slice a' (sprF false n m).length c') (ints (sprF false n m)) ∧ Below w.heap.size w w' := by
  go_enter Try.func14, Try.ntmps14
  go_wp2_with fail
  refine (spread_all n m false _ w (rank_isM w)).mono ?_
  rintro e w' ⟨a', c', rfl, ho, hb⟩
  go_wp2_with fail
  go_ret
  exact ⟨a', c', rfl, ho, hb⟩
theorem iCrankSpread_any (n m : Int) (w : World) :
    Calls Try.prog 24 #[.int .i64 n, .int .i64 m] w fun e w' => ∃ a' c', e = .returned (.slice a' (sprF true n m).length c') ∧ Own w' w.heap.size w'.heap.size 3 (.slice a' (sprF true n m).length c') (ints (sprF true n m)) ∧ Below w.heap.size w w' := by
  go_enter Try.func24, Try.ntmps24
  go_wp2_with fail
  refine (spread_all n m true _ w (crank_isM w)).mono ?_
  rintro e w' ⟨a', c', rfl, ho, hb⟩
  go_wp2_with fail
  go_ret
  exact ⟨a', c', rfl, ho, hb⟩
theorem sRankSpread_any (n m : Int) (w : World) :
    Calls Try.prog 13 #[.int .i64 n, .int .i64 m] w fun e w' => ∃ a' c', e = .returned (.slice a' (sprF false n m).length c') ∧ Own w' w.heap.size w'.heap.size 3 (.slice a' (sprF false n m).length c') (ints (sprF false n m)) ∧ Below w.heap.size w w' := by
  by_cases h1 : 0 ≤ n ∧ n ≤ 12
  · have i1 : inR n 0 12 = true := by simp [inR, h1]
    by_cases h2 : 1 ≤ m ∧ m ≤ 16
    · have i2 : inR m 1 16 = true := by simp [inR, h2]
      have h : sprOk n m = true := by unfold sprOk; simp; omega
      have e0 : sprF false n m = sprd m.toNat ((allQ n.toNat n.toNat n.toNat).map (spf false)) := by simp [sprF, h]
      have e1 : (sprF false n m).length = m.toNat := by rw [e0, sprd_len]
      have hm := sspread_any n.toNat m.toNat (by omega) (by omega) (by omega) false w
      rw [Int.toNat_of_nonneg (by omega), Int.toNat_of_nonneg (by omega), ← e0] at hm
      rw [e1]
      clear h1 h2 e0 e1 h
      go_enter Try.func13, Try.ntmps13
      go_wp2_with (go_at_call 47; refine (inRange_any _ _ _ _).mono ?_; rintro e wv ⟨rfl, rfl⟩; first | rw [i1] | rw [i2])
      refine hm.mono ?_
      rintro e w' ⟨a', c', rfl, ho, hb⟩
      go_wp2_with fail
      go_ret
      exact ⟨a', c', rfl, ho, hb⟩
    · have i2 : inR m 1 16 = false := by simp [inR]; omega
      have h : sprOk n m = false := by unfold sprOk; simp; omega
      have e0 : sprF false n m = [] := by simp [sprF, h]
      rw [e0]
      clear h1 h2 e0 h
      go_enter Try.func13, Try.ntmps13
      go_wp2_with (go_at_call 47; refine (inRange_any _ _ _ _).mono ?_; rintro e wv ⟨rfl, rfl⟩; first | rw [i1] | rw [i2])
      go_ret
      exact ⟨none, 0, rfl, Own.nil w w.heap.size 3, Below.refl _ _⟩
  · have i1 : inR n 0 12 = false := by simp [inR]; omega
    have h : sprOk n m = false := by unfold sprOk; simp; omega
    have e0 : sprF false n m = [] := by simp [sprF, h]
    rw [e0]
    clear h1 e0 h
    go_enter Try.func13, Try.ntmps13
    go_wp2_with (go_at_call 47; refine (inRange_any n 0 12 _).mono ?_; rintro e wv ⟨rfl, rfl⟩; rw [i1])
    go_ret
    exact ⟨none, 0, rfl, Own.nil w w.heap.size 3, Below.refl _ _⟩
theorem sCrankSpread_any (n m : Int) (w : World) :
    Calls Try.prog 23 #[.int .i64 n, .int .i64 m] w fun e w' => ∃ a' c', e = .returned (.slice a' (sprF true n m).length c') ∧ Own w' w.heap.size w'.heap.size 3 (.slice a' (sprF true n m).length c') (ints (sprF true n m)) ∧ Below w.heap.size w w' := by
  by_cases h1 : 0 ≤ n ∧ n ≤ 12
  · have i1 : inR n 0 12 = true := by simp [inR, h1]
    by_cases h2 : 1 ≤ m ∧ m ≤ 16
    · have i2 : inR m 1 16 = true := by simp [inR, h2]
      have h : sprOk n m = true := by unfold sprOk; simp; omega
      have e0 : sprF true n m = sprd m.toNat ((allQ n.toNat n.toNat n.toNat).map (spf true)) := by simp [sprF, h]
      have e1 : (sprF true n m).length = m.toNat := by rw [e0, sprd_len]
      have hm := sspread_any n.toNat m.toNat (by omega) (by omega) (by omega) true w
      rw [Int.toNat_of_nonneg (by omega), Int.toNat_of_nonneg (by omega), ← e0] at hm
      rw [e1]
      clear h1 h2 e0 e1 h
      go_enter Try.func23, Try.ntmps23
      go_wp2_with (go_at_call 47; refine (inRange_any _ _ _ _).mono ?_; rintro e wv ⟨rfl, rfl⟩; first | rw [i1] | rw [i2])
      refine hm.mono ?_
      rintro e w' ⟨a', c', rfl, ho, hb⟩
      go_wp2_with fail
      go_ret
      exact ⟨a', c', rfl, ho, hb⟩
    · have i2 : inR m 1 16 = false := by simp [inR]; omega
      have h : sprOk n m = false := by unfold sprOk; simp; omega
      have e0 : sprF true n m = [] := by simp [sprF, h]
      rw [e0]
      clear h1 h2 e0 h
      go_enter Try.func23, Try.ntmps23
      go_wp2_with (go_at_call 47; refine (inRange_any _ _ _ _).mono ?_; rintro e wv ⟨rfl, rfl⟩; first | rw [i1] | rw [i2])
      go_ret
      exact ⟨none, 0, rfl, Own.nil w w.heap.size 3, Below.refl _ _⟩
  · have i1 : inR n 0 12 = false := by simp [inR]; omega
    have h : sprOk n m = false := by unfold sprOk; simp; omega
    have e0 : sprF true n m = [] := by simp [sprF, h]
    rw [e0]
    clear h1 e0 h
    go_enter Try.func23, Try.ntmps23
    go_wp2_with (go_at_call 47; refine (inRange_any n 0 12 _).mono ?_; rintro e wv ⟨rfl, rfl⟩; rw [i1])
    go_ret
    exact ⟨none, 0, rfl, Own.nil w w.heap.size 3, Below.refl _ _⟩
end Go.Proofs.Ytcjnmconehfbgaa
namespace Go.Proofs.Ytcjnmconehfbgaa
open Go.RowKit NP
set_option maxRecDepth 8000
set_option linter.unusedVariables false

theorem cpF_in {n : Int} (h : 0 ≤ n ∧ n ≤ 40) : cpF n = ctZ n n := by unfold cpF; rw [if_pos h]
theorem cpF_out {n : Int} (h : ¬ (0 ≤ n ∧ n ≤ 40)) : cpF n = -1 := by unfold cpF; rw [if_neg h]
theorem amF_in {n k : Int} (h : 0 ≤ n ∧ n ≤ 40) (h2 : 0 ≤ k ∧ k ≤ 40) : amF n k = ctZ n k := by unfold amF; rw [if_pos ⟨h, h2⟩]
theorem amF_out {n k : Int} (h : ¬ ((0 ≤ n ∧ n ≤ 40) ∧ (0 ≤ k ∧ k ≤ 40))) : amF n k = -1 := by unfold amF; rw [if_neg h]
theorem jpF_in {n k : Int} (h : 0 ≤ n ∧ n ≤ 40) (h2 : 0 ≤ k ∧ k ≤ 40) : jpF n k = ctZ (n - k) k := by unfold jpF; rw [if_pos ⟨h, h2⟩]
theorem jpF_out {n k : Int} (h : ¬ ((0 ≤ n ∧ n ≤ 40) ∧ (0 ≤ k ∧ k ≤ 40))) : jpF n k = -1 := by unfold jpF; rw [if_neg h]


theorem iCountParts_any (n : Int) (w : World) :
    Calls Try.prog 21 #[.int .i64 n] w fun e w' => e = .returned (.int .i64 (cpF n)) ∧ Below w.heap.size w w' := by
  by_cases h : 0 ≤ n ∧ n ≤ 40
  · rw [cpF_in h]
    obtain ⟨k, rfl⟩ := Int.eq_ofNat_of_zero_le h.1
    have hk : k ≤ 40 := by omega
    have hk41 : k < (crow k).length := by rw [crow_len]; omega
    have hix := T_index41 (crow k) k hk41 (by omega)
    rw [crow_get, ← ctZ_nat] at hix
    have g1 : decide ((k : Int) < 0) = false := decide_eq_false (by omega)
    have g2 : decide (40 < k) = false := decide_eq_false (by omega)
    clear h
    go_enter Try.func21, Try.ntmps21
    go_wp2_with (go_at_call 53; refine (countsUpTo_any k hk _).mono ?_; rintro e w1 ⟨rfl, hb⟩)
    go_ret
    exact ⟨rfl, hb⟩
  · rw [cpF_out h]
    by_cases h1 : n < 0
    · have g1 : decide (n < 0) = true := decide_eq_true h1
      clear h h1
      go_enter Try.func21, Try.ntmps21
      go_wp2
      go_ret
      exact ⟨rfl, Below.refl _ _⟩
    · have g1 : decide (n < 0) = false := decide_eq_false h1
      have g2 : decide (40 < n) = true := decide_eq_true (by omega)
      clear h h1
      go_enter Try.func21, Try.ntmps21
      go_wp2
      go_ret
      exact ⟨rfl, Below.refl _ _⟩




end Go.Proofs.Ytcjnmconehfbgaa
namespace Go.Proofs.Ytcjnmconehfbgaa
open Go.RowKit NP
set_option linter.unusedVariables false
theorem sum_bd0 {L : List Int} {b : Int} (h : ∀ x ∈ L, 0 ≤ x ∧ x ≤ b) (hb : 0 ≤ b) : 0 ≤ sumL L ∧ sumL L ≤ b * L.length := by
  induction L with
  | nil => simp [sumL]
  | cons x r ih =>
    have h1 := h x (by simp)
    have h2 := ih fun y hy => h y (by simp [hy])
    simp only [sumL, List.length_cons]
    have e : b * ((r.length + 1 : Nat) : Int) = b * (r.length : Int) + b := by rw [Int.natCast_add, Int.mul_add]; simp
    rw [e]
    omega
theorem fits_1000 {L : List Int} (h : ∀ x ∈ L, 0 ≤ x ∧ x ≤ 1000) (hl : L.length ≤ 1000) : sumFits L := fun k hk => by
  have   := sum_bd0 (L := L.take k) (b := 1000) (fun x hx => h x (List.mem_of_mem_take hx)) (by omega)
  have e : (L.take k).length ≤ 1000 := by simp; omega
  omega
def evenT (b : Bool) (n m : Nat) : Bool := (m == 5 && n % 5 == 4) || ((m == 7 && n % 7 == 5) || (b && (m == 11 && n % 11 == 6)))
def sprT (b : Bool) (n m : Nat) (R : List Int) : Bool :=
  sumL R == cpF (n : Int) && ((List.range m).all fun r => r == 0 || (b && decide (n ≤ 1)) || R.getD r 0 == R.getD (m - r) 0) && (!(evenT b n m) || R.all fun x => x == R.getD 0 0)
def sprAll (b : Bool) : Bool := (List.range 13).all fun n => (List.range 16).all fun m => sprT b n (m + 1) (sprd (m + 1) ((allQ n n n).map (spf b)))
set_option maxRecDepth 100000 in
theorem sprAll_rank : sprAll false = true := by decide +kernel
set_option maxRecDepth 100000 in
theorem sprAll_crank : sprAll true = true := by decide +kernel
theorem sprT_ok (b : Bool) (n m : Nat) (hn : n ≤ 12) (hm : 1 ≤ m) (hm2 : m ≤ 16) : sprT b n m (sprF b n m) = true := by
  have hall : sprAll b = true := by cases b; exact sprAll_rank; exact sprAll_crank
  have e0 : sprF b n m = sprd m ((allQ n n n).map (spf b)) := by
    have h : sprOk (n : Int) (m : Int) = true := by unfold sprOk; simp; omega
    simp [sprF, h]
  rw [e0]
  unfold sprAll at hall
  have h1 := List.all_eq_true.1 hall n (by simp; omega)
  have h2 := List.all_eq_true.1 h1 (m - 1) (by simp; omega)
  rw [show m - 1 + 1 = m from by omega] at h2
  exact h2
theorem spr_sum (b : Bool) (k q : Nat) (R : List Int) (h : sprT b k q R = true) : sumL R = cpF (k : Int) := by
  unfold sprT at h
  simp only [Bool.and_eq_true, beq_iff_eq] at h
  exact h.1.1
theorem spr_even (b : Bool) (k q : Nat) (R : List Int) (h : sprT b k q R = true) : evenT b k q = true → ∀ j (h : j < R.length), R[j] = R.getD 0 0 := by
  intro he j hj
  unfold sprT at h
  simp only [Bool.and_eq_true, he, Bool.not_true, Bool.false_or, List.all_eq_true, beq_iff_eq] at h
  exact h.2 _ (List.getElem_mem hj)
theorem spr_sym0 (b : Bool) (k q : Nat) (R : List Int) (h : sprT b k q R = true) (hq : R.length = q) (hb : b = false ∨ 1 < k) : ∀ r (h1 : 1 ≤ r) (h2 : r < R.length) (h3 : R.length - r < R.length), R[r] = R[R.length - r] := by
  intro r h1 h2 h3
  unfold sprT at h
  simp only [Bool.and_eq_true, List.all_eq_true, beq_iff_eq, Bool.or_eq_true, decide_eq_true_eq] at h
  have h3' := h.1.2 r (List.mem_range.2 (by omega))
  have h4 : R.getD r 0 = R.getD (q - r) 0 := by
    rcases h3' with (h3' | h3') | h3'
    · omega
    · rcases hb with rfl | hb
      · cases h3'.1
      · omega
    · exact h3'
  have e1 : R.getD r 0 = R[r] := by simp [List.getD_eq_getElem?_getD, h2]
  have h5 : q - r < R.length := by omega
  have e2 : R.getD (q - r) 0 = R[q - r] := by simp [List.getD_eq_getElem?_getD, h5]
  rw [e1, e2] at h4
  subst hq
  exact h4
theorem spr_sym (k q : Nat) (R : List Int) (h : sprT false k q R = true) (hq : R.length = q) : ∀ r (h1 : 1 ≤ r) (h2 : r < R.length) (h3 : R.length - r < R.length), R[r] = R[R.length - r] := spr_sym0 false k q R h hq (.inl rfl)
theorem spr_symC (k q : Nat) (R : List Int) (h : sprT true k q R = true) (hq : R.length = q) : 1 < k → ∀ r (h1 : 1 ≤ r) (h2 : r < R.length) (h3 : R.length - r < R.length), R[r] = R[R.length - r] := fun hk => spr_sym0 true k q R h hq (.inr hk)
end Go.Proofs.Ytcjnmconehfbgaa
namespace Go.Proofs.Ytcjnmconehfbgaa
namespace NP
set_option linter.unusedVariables false
def sqn (n : Int) : Nat → Int
  | 0 => 0
  | m + 1 => sqn n m + ctZ (n - (m : Int) * m) m
def scs (n : Int) : Nat → Int
  | 0 => 0
  | m + 1 => scs n m + (if (n - (m : Int) * m) % 2 = 0 then ctZ ((n - (m : Int) * m) / 2) m else 0)
def isq (n : Int) : Nat := ff (fun k => decide ((k : Int) * k ≤ n)) 7
def sqF (n : Int) : Int := if 0 ≤ n ∧ n ≤ 40 then sqn n (isq n) else -1
def scF (n : Int) : Int := if 0 ≤ n ∧ n ≤ 40 then scs n (isq n) else -1
theorem sq_nn (m : Nat) : 0 ≤ (m : Int) * m := Int.mul_nonneg (by omega) (by omega)
theorem sqn_bd (n : Int) (hn : n ≤ 40) (m : Nat) : 0 ≤ sqn n m ∧ sqn n m ≤ 1099511627776 * m := by
  induction m with
  | zero => simp [sqn]
  | succ m ih =>
    have := sq_nn m
    have := ctZ_bd (n - (m : Int) * m) m (by omega)
    simp only [sqn]
    omega
theorem scs_bd (n : Int) (hn : n ≤ 40) (m : Nat) : 0 ≤ scs n m ∧ scs n m ≤ 1099511627776 * m := by
  induction m with
  | zero => simp [scs]
  | succ m ih =>
    have := sq_nn m
    have := ctZ_bd ((n - (m : Int) * m) / 2) m (by omega)
    simp only [scs]
    split <;> omega
theorem sq_lt (k : Nat) (hk : k < 7) : (k : Int) * k ≤ 36 := by
  have : ∀ k : Nat, k < 7 → (k : Int) * k ≤ 36 := by decide
  exact this k hk
theorem isq_eq {n : Int} (hn : n ≤ 40) {k : Nat} (hk : k ≤ 7) (h : ∀ j, j < k → (j : Int) * j ≤ n) (h2 : k = 7 ∨ n < (k : Int) * k) : isq n = k := by
  unfold isq
  refine ff_eq (fun j hj => decide_eq_true (h j hj)) hk ?_
  rcases h2 with h2 | h2
  · exact .inl h2
  · exact .inr (decide_eq_false (by omega))
/-- the sum of the divisors, up to m -/
def dvs (n : Int) : Nat → Int
  | 0 => 0
  | m + 1 => dvs n m + (if n % ((m : Int) + 1) = 0 then (m : Int) + 1 else 0)
def dvF (n : Int) : Int := if 1 ≤ n ∧ n ≤ 40 then dvs n n.toNat else -1
theorem dvs_bd (n : Int) (m : Nat) (hm : m ≤ 41) : 0 ≤ dvs n m ∧ dvs n m ≤ 50 * m := by
  induction m with
  | zero => simp [dvs]
  | succ m ih =>
    have := ih (by omega)
    simp only [dvs]
    split <;> omega
def pnF (k : Int) : Int := if -100 ≤ k ∧ k ≤ 100 then k * (3 * k - 1) / 2 else -1
theorem pn_bd (k : Int) (h1 : -100 ≤ k) (h2 : k ≤ 100) : 0 ≤ k * (3 * k - 1) ∧ k * (3 * k - 1) ≤ 30100 := by
  rcases Int.lt_or_le k 1 with h | h
  · have e : k * (3 * k - 1) = (-k) * (3 * (-k) + 1) := by rw [Int.mul_add, Int.mul_sub, Int.mul_one, Int.mul_one, Int.mul_neg, Int.mul_neg, Int.neg_mul]; omega
    rw [e]
    have a := Int.mul_nonneg (a := -k) (b := 3 * (-k) + 1) (by omega) (by omega)
    have b := Int.mul_le_mul (a := -k) (b := 3 * (-k) + 1) (c := 100) (d := 301) (by omega) (by omega) (by omega) (by omega)
    omega
  · have a := Int.mul_nonneg (a := k) (b := 3 * k - 1) (by omega) (by omega)
    have b := Int.mul_le_mul (a := k) (b := 3 * k - 1) (c := 100) (d := 299) (by omega) (by omega) (by omega) (by omega)
    omega
end NP
end Go.Proofs.Ytcjnmconehfbgaa
namespace Go.Proofs.Ytcjnmconehfbgaa
open Go.RowKit NP
set_option maxRecDepth 8000
set_option linter.unusedVariables false

theorem same_below {P : Program} {f : FuncId} {args : Array Value} {w : World} {v : Value} (h : Calls P f args w fun e w' => e = .returned v ∧ w = w') : Calls P f args w fun e w' => e = .returned v ∧ Below w.heap.size w w' := h.mono fun _ _ ⟨a, b⟩ => ⟨a, b ▸ Below.refl _ _⟩









end Go.Proofs.Ytcjnmconehfbgaa
namespace Go.Proofs.Ytcjnmconehfbgaa
namespace NP
set_option linter.unusedVariables false
/-- counts when a further number may come once -/
def wo (D : List Int) (p : Nat) (sg : Int) (s : Nat) : Int := if s < p then D.getD s 0 else D.getD s 0 + sg * D.getD (s - p) 0
def worow (D : List Int) (p : Nat) (sg : Int) : List Int := (List.range 41).map (wo D p sg)
def womid (D : List Int) (p : Nat) (sg : Int) (l : Nat) : List Int := (List.range 41).map fun s => if s < p + l then wo D p sg s else D.getD s 0
theorem worow_len (D : List Int) (p : Nat) (sg : Int) : (worow D p sg).length = 41 := by simp [worow]
theorem womid_len (D : List Int) (p : Nat) (sg : Int) (l : Nat) : (womid D p sg l).length = 41 := by simp [womid]
theorem womid_zero {D : List Int} (hD : D.length = 41) (p : Nat) (sg : Int) : womid D p sg 0 = D := by
  apply List.ext_getElem
  · rw [womid_len, hD]
  · intro j h1 h2
    simp only [womid, List.getElem_map, List.getElem_range]
    rw [← getD_lt h2]
    split
    · unfold wo; rw [if_pos (by omega)]
    · rfl
theorem womid_end (D : List Int) (p : Nat) (sg : Int) (l : Nat) (h : 41 ≤ p + l) : womid D p sg l = worow D p sg := by
  apply List.map_congr_left
  intro s hs
  rw [List.mem_range] at hs
  rw [if_pos (by omega)]
theorem womid_hi (D : List Int) (p : Nat) (sg : Int) (l : Nat) (h : l + p < 41) : (womid D p sg l)[l + p]'(by rw [womid_len]; exact h) = D.getD (l + p) 0 := by
  simp only [womid, List.getElem_map, List.getElem_range]
  rw [if_neg (by omega)]
theorem womid_set (D : List Int) (p : Nat) (sg : Int) (l : Nat) (hp : 1 ≤ p) (h : l + p < 41) : (womid D p sg l).set (l + p) (D.getD (l + p) 0 + sg * D.getD l 0) = womid D p sg (l + 1) := by
  apply List.ext_getElem
  · rw [List.length_set, womid_len, womid_len]
  · intro j h1 h2
    by_cases hj : l + p = j
    · subst hj
      rw [List.getElem_set_self]
      simp only [womid, List.getElem_map, List.getElem_range]
      rw [if_pos (by omega)]
      unfold wo
      rw [if_neg (by omega), Nat.add_sub_cancel]
    · rw [List.getElem_set_ne hj]
      simp only [womid, List.getElem_map, List.getElem_range]
      split <;> split <;> first | rfl | omega
theorem worow_getD (D : List Int) (p : Nat) (sg : Int) (s : Nat) (h : s < 41) : (worow D p sg).getD s 0 = wo D p sg s := by
  rw [getD_lt (by rw [worow_len]; exact h)]
  simp [worow]
/-- the different parts, none greater than d, with signs -/
def srow : Nat → List Int
  | 0 => 1 :: List.replicate 40 0
  | d + 1 => worow (srow d) (d + 1) (-1)
theorem srow_len (d : Nat) : (srow d).length = 41 := by
  cases d with
  | zero => rfl
  | succ d => exact worow_len _ _ _
theorem srow_bd (d : Nat) : ∀ s, -(2 ^ d : Int) ≤ (srow d).getD s 0 ∧ (srow d).getD s 0 ≤ 2 ^ d := by
  induction d with
  | zero =>
    intro s
    rcases Nat.lt_or_ge s 41 with h | h
    · have : ∀ s, s < 41 → -(2 ^ 0 : Int) ≤ (srow 0).getD s 0 ∧ (srow 0).getD s 0 ≤ 2 ^ 0 := by decide
      exact this s h
    · rw [getD_ge (by rw [srow_len]; exact h)]; decide
  | succ d ih =>
    intro s
    have hp : (2 : Int) ^ (d + 1) = 2 * 2 ^ d := by rw [Int.pow_succ]; omega
    have h0 : (0 : Int) < 2 ^ d := Int.pow_pos (by decide)
    rw [hp]
    rcases Nat.lt_or_ge s 41 with h | h
    · show -(2 * 2 ^ d : Int) ≤ (worow (srow d) (d + 1) (-1)).getD s 0 ∧ _
      rw [show srow (d + 1) = worow (srow d) (d + 1) (-1) from rfl, worow_getD _ _ _ _ h]
      unfold wo
      have a := ih s
      have b := ih (s - (d + 1))
      split <;> omega
    · rw [getD_ge (by rw [srow_len]; exact h)]; omega
theorem pow40 (d : Nat) (h : d ≤ 40) : (2 : Int) ^ d ≤ 1099511627776 := by
  have : ∀ d : Nat, d < 41 → (2 : Int) ^ d ≤ 1099511627776 := by decide
  exact this d (by omega)
theorem srow_bd40 (d : Nat) (h : d ≤ 40) (s : Nat) : -1099511627776 ≤ (srow d).getD s 0 ∧ (srow d).getD s 0 ≤ 1099511627776 := by
  have := srow_bd d s
  have := pow40 d h
  omega
def sdF (n : Int) : Int := if 0 ≤ n ∧ n ≤ 40 then (srow n.toNat).getD n.toNat 0 else 0
/-- what stands in the model's table of n+1 numbers when those from x up have been done -/
def smid (D : List Int) (n d x : Nat) : List Int := (List.range (n + 1)).map fun s => if x ≤ s then wo D d (-1) s else D.getD s 0
theorem smid_len (D : List Int) (n d x : Nat) : (smid D n d x).length = n + 1 := by simp [smid]
theorem smid_get (D : List Int) (n d x k : Nat) (h : k < (smid D n d x).length) : (smid D n d x)[k] = if x ≤ k then wo D d (-1) k else D.getD k 0 := by simp [smid]
theorem smid_set (D : List Int) (n d x : Nat) (hd : 1 ≤ d) (hx : d ≤ x) (hn : x ≤ n) : (smid D n d (x + 1)).set x (D.getD x 0 - D.getD (x - d) 0) = smid D n d x := by
  apply List.ext_getElem
  · rw [List.length_set, smid_len, smid_len]
  · intro j h1 h2
    by_cases hj : x = j
    · subst hj
      rw [List.getElem_set_self, smid_get, if_pos (Nat.le_refl _)]
      unfold wo
      rw [if_neg (by omega)]
      omega
    · rw [List.getElem_set_ne hj, smid_get, smid_get]
      split <;> split <;> first | rfl | omega
theorem smid_next (D : List Int) (hD : D.length = 41) (n d : Nat) (hn : n ≤ 40) : smid D n d d = smid (worow D d (-1)) n (d + 1) (n + 1) := by
  apply List.ext_getElem
  · rw [smid_len, smid_len]
  · intro j h1 h2
    rw [smid_len] at h1
    rw [smid_get, smid_get, if_neg (by omega : ¬ n + 1 ≤ j), worow_getD _ _ _ _ (by omega)]
    split
    · rfl
    · unfold wo; rw [if_pos (by omega)]
theorem smid_start (n : Nat) (hn : n ≤ 40) : (List.replicate (n + 1) (0 : Int)).set 0 1 = smid (srow 0) n 1 (n + 1) := by
  apply List.ext_getElem
  · rw [List.length_set, List.length_replicate, smid_len]
  · intro j h1 h2
    rw [smid_len] at h2
    rw [smid_get, if_neg (by omega)]
    cases j with
    | zero => rfl
    | succ j =>
      rw [List.getElem_set_ne (by omega), List.getElem_replicate]
      have : ∀ j, j < 40 → (0 : Int) = (srow 0).getD (j + 1) 0 := by decide
      exact this j (by omega)
end NP
end Go.Proofs.Ytcjnmconehfbgaa
namespace Go.Proofs.Ytcjnmconehfbgaa
open Go.RowKit NP
set_option maxRecDepth 8000
set_option linter.unusedVariables false

theorem withOnce_any (D : List Int) (hD : D.length = 41) (p : Nat) (hp : 1 ≤ p) (hp40 : p ≤ 40) (sg : Int) (hsg : sg = 1 ∨ sg = -1) (hb : ∀ s, -1099511627776 ≤ D.getD s 0 ∧ D.getD s 0 ≤ 1099511627776) (w : World) :
    Calls Try.prog 95 #[.agg (arr D), .int .i64 p, .int .i64 sg] w fun e w' => e = .returned (.agg (arr (worow D p sg))) ∧ Below w.heap.size w w' := by
  have HD := Lib.hid hD
  have hi41 : (Try.prog.info? 58).map (·.size) = some (arr D).size := by rw [arr_size, hD]; exact T_info41
  have hsz0 : (arr D).size = (arr (List.replicate 41 0)).size := by rw [arr_size, arr_size, hD]; rfl
  have HB := Lib.hid hb
  have HSG := Lib.hid hsg
  clear hD hb hsg
  have hrange : (41 : Int) - (p : Int) = ((41 - p : Nat) : Int) := by omega
  have hba := (Blk.new w 58 (arr D)).alloc (.cells (arr (List.replicate 41 0)) 58)
  have hbr : Blk ((w.alloc (.cells (arr D) 58)).alloc (.cells (arr (List.replicate 41 0)) 58)) (w.heap.size + 1) 58 (arr (List.replicate 41 0)) := by
    have e := Blk.new (w.alloc (.cells (arr D) 58)) 58 (arr (List.replicate 41 0))
    rw [World.size_alloc] at e
    exact e
  have hbm : Blk (((w.alloc (.cells (arr D) 58)).alloc (.cells (arr (List.replicate 41 0)) 58)).alloc (.cells (arr (List.replicate 41 0)) 58)) (w.heap.size + 2) 58 (arr (List.replicate 41 0)) := by
    have e := Blk.new ((w.alloc (.cells (arr D) 58)).alloc (.cells (arr (List.replicate 41 0)) 58)) 58 (arr (List.replicate 41 0))
    rw [World.size_alloc, World.size_alloc] at e
    exact e
  go_enter Try.func95, Try.ntmps95
  go_wp2_with (first
    | (refine wpList_load_row rfl 58 (.tmp 3) rfl w.heap.size rfl 58 (arr D) (0, 0) _ hba Try.underlying58 rfl hi41 ?_)
    | (refine wpList_store_row rfl 58 (.tmp 7) (.tmp 9) rfl (w.heap.size + 2) rfl (arr D) rfl 58 _ hbm hi41 hsz0 (arr_one _) ?_))
  go_loopw [12] (fun i wr => ∃ l : Nat, l ≤ 41 - p ∧ i = .int .i64 l ∧ Below w.heap.size w wr ∧ Blk wr w.heap.size 58 (arr D) ∧ Blk wr (w.heap.size + 1) 58 (arr (List.replicate 41 0)) ∧ Blk wr (w.heap.size + 2) 58 (arr (womid D p sg l))) (fun i _ => 41 - (intOf i).toNat)
  case atStart =>
    refine ⟨0, Nat.zero_le _, rfl, below_setRow' ((((Below.refl _ _).alloc (Nat.le_refl _) _).alloc (by simp) _).alloc (by simp; omega) _) (by omega) _, ?_, ?_, ?_⟩
    · exact (hba.alloc _).rowOff (by omega)
    · exact (hbr.alloc _).rowOff (by omega)
    · rw [womid_zero HD.out]; exact hbm.row
  case round =>
    obtain ⟨l, hl, rfl, hbel, hb1, hb2, hb3⟩ := hrel
    by_cases hlt : l < 41 - p
    · have hlp : l + p < 41 := by omega
      have hl41 : l < 41 := by omega
      have b1 := HB.out (l + p)
      have b2 := HB.out l
      have HSET := Lib.hid (womid_set D p sg l hp hlp)
      have hc1 : wr.cell? ⟨w.heap.size, l, none⟩ = some (.int .i64 (D.getD l 0)) := by rw [hb1.cell l, arr_get _ l (by rw [HD.out]; exact hl41), getD_lt (by rw [HD.out]; exact hl41)]
      have hc2 : wr.cell? ⟨w.heap.size + 2, l + p, none⟩ = some (.int .i64 (D.getD (l + p) 0)) := by rw [hb3.cell (l + p), arr_get _ (l + p) (by rw [womid_len]; exact hlp), womid_hi D p sg l hlp]
      have hf2 : wr.frozen? ⟨w.heap.size + 2, l + p, none⟩ = false := hb3.free (l + p)
      have hl41' : (l : Int) < 41 := by omega
      obtain ⟨q, hq⟩ : ∃ q : Nat, q = l + p := ⟨_, rfl⟩
      rw [← hq] at hf2 b1
      have hc2' : wr.cell? ⟨w.heap.size + 2, q, none⟩ = some (.int .i64 (D.getD q 0)) := by rw [hq]; exact hc2
      have HSET' : Hid ((womid D p sg l).set q (D.getD q 0 + sg * D.getD l 0) = womid D p sg (l + 1)) := Lib.hid (by rw [hq]; exact HSET.out)
      clear hc2 HSET
      have hw : IntKind.i64.wrap ((l : Int) + (p : Int)) = (q : Int) := by rw [IntWalk.i64_in _ (by omega)]; omega
      have hq41 : (q : Int) < 41 := by omega
      have hq41' : q < 41 := by omega
      clear hq
      generalize D.getD q 0 = x at *
      generalize D.getD l 0 = y at *
      obtain ⟨pr, hpr0, HPR⟩ : ∃ pr : Int, (-1099511627776 ≤ pr ∧ pr ≤ 1099511627776) ∧ Hid (sg * y = pr) := by
        rcases HSG.out with h | h
        · exact ⟨y, b2, Lib.hid (by rw [h, Int.one_mul])⟩
        · exact ⟨-y, by omega, Lib.hid (by rw [h]; omega)⟩
      have hw2 : IntKind.i64.wrap (sg * y) = pr := by rw [HPR.out]; exact IntWalk.i64_in _ (by omega)
      have hw3 : IntKind.i64.wrap (x + pr) = x + pr := IntWalk.i64_in _ (by omega)
      rw [HPR.out] at HSET'
      go_wp2
      go_still_tail 12, (by kernel_rfl)
      change wpList _ _ _ _ _ wr.drew
      have hbel' : Below w.heap.size w wr.drew := hbel.trans ((Dr.n wr 1).below _)
      have hb1' : Blk wr.drew w.heap.size 58 (arr D) := hb1
      have hb2' : Blk wr.drew (w.heap.size + 1) 58 (arr (List.replicate 41 0)) := hb2
      have hb3' : Blk wr.drew (w.heap.size + 2) 58 (arr (womid D p sg l)) := hb3
      have hf3 : wr.drew.frozen? ⟨w.heap.size + 2, q, none⟩ = false := hf2
      have hc3 : wr.drew.cell? ⟨w.heap.size + 2, q, none⟩ = some (.int .i64 x) := hc2'
      generalize wr.drew = w2 at *
      clear hbel hb1 hb2 hb3
      go_wp2
      go_roundw
      case rel =>
        refine ⟨l + 1, by omega, by go_num, hbel'.setCell (by show w.heap.size ≤ w.heap.size + 2; omega) _, hb1'.off (by show w.heap.size ≠ w.heap.size + 2; omega) _, hb2'.off (by show w.heap.size + 1 ≠ w.heap.size + 2; omega) _, ?_⟩
        have e := hb3'.set q (.int .i64 (x + pr))
        rw [arr_set, HSET'.out] at e
        exact e
      case measure => simp [intOf]; omega
    · obtain rfl : l = 41 - p := by omega
      have HE := Lib.hid (womid_end D p sg (41 - p) (by omega))
      have hi2 : (Try.prog.info? 58).map (·.size) = some (arr (womid D p sg (41 - p))).size := by rw [arr_size, womid_len]; exact T_info41
      have hsz : (arr (womid D p sg (41 - p))).size = (arr (List.replicate 41 0)).size := by rw [arr_size, arr_size, womid_len]; rfl
      go_wp2_with (first | (refine wpList_load_row rfl 58 (.tmp 7) rfl (w.heap.size + 2) rfl 58 (arr (womid D p sg (41 - p))) (0, 0) _ hb3 Try.underlying58 rfl hi2 ?_) | (refine wpList_store_row rfl 58 (.tmp 6) (.tmp 28) rfl (w.heap.size + 1) rfl (arr (womid D p sg (41 - p))) rfl 58 _ hb2 hi2 hsz (arr_one _) ?_))
      refine bodyPost_ret (results_cell_row rfl _ _ (w.heap.size + 1) 58 (arr (womid D p sg (41 - p))) (0, 0) _ rfl hb2.row Try.underlying58 rfl hi2) rfl ?_
      exact ⟨by rw [HE.out], below_setRow' hbel (by omega) _⟩



end Go.Proofs.Ytcjnmconehfbgaa
namespace Go.Proofs.Ytcjnmconehfbgaa
open Go.RowKit NP
set_option maxRecDepth 8000
set_option linter.unusedVariables false

theorem chg_low2 {a b c : World} {g : Nat} (hb : Below a.heap.size a b) (hg : a.heap.size ≤ g) (h : b.grownBy c (some g)) : Below a.heap.size a c := hb.grown h hb.size fun k hk => by injection hk with hk; omega









end Go.Proofs.Ytcjnmconehfbgaa
namespace Go.Proofs.Ytcjnmconehfbgaa
open Go.RowKit
set_option linter.unusedVariables false
/-- the slots that an operation looks at: its operands', and its guard's -/
def usesG (ops : Array Oper) (o : Oper) : List Nat :=
  (o.op.operands.toList.filterMap fun x => match x with | .tmp t => some t | _ => none) ++ (match o.guard with | none => [] | some (j, _) => ((ops[j]?).bind (·.dst)).toList)
/-- of the operations ahead of the one numbered z each edge leads back, each one that fills a slot that one of them looks at is waited for; whatever is numbered z or above waits for all of them -/
def regOkG (md : Region.Mode) (ops : Array Oper) (z : Nat) : Bool :=
  decide (z ≤ ops.size) &&
  (List.range ops.size).all fun i => match ops[i]? with
    | none => false
    | some o => (match o.op with | .defer _ => false | .select _ _ => false | _ => true) &&
      (if i < z then (o.after.toList.all fun e => !Region.binds md e || decide (e.on < i)) &&
        ((usesG ops o).all fun t => (List.range z).all fun j => match (ops[j]?).bind (·.dst) with
            | some d => !(d == t) || o.after.toList.any fun e => Region.binds md e && e.on == j
            | none => true)
      else if i = z then true else o.after.toList.any fun e => Region.binds md e && decide (z ≤ e.on) && decide (e.on < i))
/-- each operation ahead of the one numbered z is waited for by a later one, none above z -/
def regUpG (md : Region.Mode) (ops : Array Oper) (z : Nat) : Bool :=
  z == ops.size || (List.range z).all fun j => (List.range (z + 1)).any fun i => decide (j < i) && match ops[i]? with
    | none => false
    | some o => o.after.toList.any fun e => Region.binds md e && e.on == j
section
variable {P : Program} {md : Region.Mode} {ops : Array Oper} {Q : Exit → Act → World → Prop} {z : Nat} {S : World → Prop} {az : Act}
/-- the state is as the one at the end but for what isn't listed yet -/
def AgreeG (ops : Array Oper) (z : Nat) (az : Act) (listed : Array Bool) (a : Act) : Prop :=
  a.defers = az.defers ∧ a.tmps.size = az.tmps.size ∧ ∀ t, (∀ j, j < z → listed.getD j true = false → (ops[j]?).bind (·.dst) ≠ some t) → a.tmps[t]? = az.tmps[t]?
theorem AgreeG.slot {listed : Array Bool} {a : Act} {i : Nat} {o : Oper} (hok : regOkG md ops z = true) (hi : i < z) (ho : ops[i]? = some o) (hA : AgreeG ops z az listed a)
    (hp : ∀ e ∈ o.after, Region.binds md e = true → listed.getD e.on false = true) : ∀ t ∈ usesG ops o, a.tmps[t]? = az.tmps[t]? := by
  intro t ht
  unfold regOkG at hok
  simp only [Bool.and_eq_true, decide_eq_true_eq, List.all_eq_true, List.mem_range] at hok
  have h1 := hok.2 i (by omega)
  rw [ho] at h1
  simp only [hi, if_true, Bool.and_eq_true, List.all_eq_true, Array.mem_toList_iff] at h1
  have h2 := h1.2.2 t ht
  exact hA.2.2 t (fun j hj hu hd => by
      simp only [List.mem_range] at h2
      have h4 := h2 j hj
      rw [hd] at h4
      simp only [BEq.rfl, Bool.not_true, Bool.false_or, List.any_eq_true, Bool.and_eq_true, beq_iff_eq, Array.mem_toList_iff] at h4
      obtain ⟨e, he, hb, hej⟩ := h4
      have h5 := hp e he hb
      rw [hej] at h5
      rcases Nat.lt_or_ge j listed.size with h' | h'
      · simp [h'] at h5 hu; rw [hu] at h5; cases h5
      · simp [Array.getElem?_eq_none h'] at h5)
theorem AgreeG.eval {listed : Array Bool} {a : Act} {i : Nat} {o : Oper} (hok : regOkG md ops z = true) (hi : i < z) (ho : ops[i]? = some o) (hA : AgreeG ops z az listed a)
    (hp : ∀ e ∈ o.after, Region.binds md e = true → listed.getD e.on false = true) : ∀ x ∈ o.op.operands, a.eval x = az.eval x := by
  intro x hx
  cases x with
  | tmp t =>
    simp only [Act.eval]
    have h3 := hA.slot hok hi ho hp t (List.mem_append_left _ (List.mem_filterMap.2 ⟨.tmp t, by simpa using hx, rfl⟩))
    simp only [Array.getD_eq_getD_getElem?, h3]
  | const v => rfl
  | global g => rfl
  | func f => rfl
theorem AgreeG.wanted {listed : Array Bool} {a : Act} {i : Nat} {o : Oper} (hok : regOkG md ops z = true) (hi : i < z) (ho : ops[i]? = some o) (hA : AgreeG ops z az listed a)
    (hp : ∀ e ∈ o.after, Region.binds md e = true → listed.getD e.on false = true) : Region.wanted o (yielded ops a.tmps) = Region.wanted o (yielded ops az.tmps) := by
  have hs := hA.slot hok hi ho hp
  unfold Region.wanted
  cases hg : o.guard with
  | none => rfl
  | some g =>
    obtain ⟨j, b⟩ := g
    simp only
    have e : yielded ops a.tmps j = yielded ops az.tmps j := by
      unfold yielded
      cases hd : (ops[j]?).bind (·.dst) with
      | none => rfl
      | some d =>
        have h3 := hs d (List.mem_append_right _ (by simp [hg, hd]))
        simp only [Option.bind_some, h3]
    rw [e]
theorem AgreeG.put {listed : Array Bool} {a : Act} {i : Nat} {o : Oper} {v : Value} (hls : i < listed.size) (ho : ops[i]? = some o) (hA : AgreeG ops z az listed a) (hv : az.put o.dst v = az) :
    AgreeG ops z az (listed.setIfInBounds i true) (a.put o.dst v) := by
  refine ⟨?_, ?_, ?_⟩
  · rw [← hA.1]; cases o.dst <;> rfl
  · rw [← hA.2.1]; cases o.dst <;> simp [Act.put]
  · intro t ht
    have old : (o.dst ≠ some t) → a.tmps[t]? = az.tmps[t]? := fun hne => hA.2.2 t fun j hj hu hd => by
      by_cases hji : j = i
      · subst hji; rw [ho] at hd; exact hne hd
      · exact ht j hj (by rw [getD_set_ne true (Ne.symm hji)]; exact hu) hd
    cases hd : o.dst with
    | none => simp only [Act.put]; exact old (by rw [hd]; simp)
    | some d =>
      rw [hd] at hv
      simp only [Act.put] at hv ⊢
      by_cases hdt : d = t
      · subst hdt
        have h2 : (az.tmps.setIfInBounds d v)[d]? = az.tmps[d]? := by
          have := congrArg Act.tmps hv
          simp only at this
          rw [this]
        rw [← h2]
        rw [Array.getElem?_setIfInBounds, Array.getElem?_setIfInBounds, hA.2.1]
        simp
      · rw [Array.getElem?_setIfInBounds_ne hdt]
        exact old (by rw [hd]; simp; exact hdt)
theorem wp_agree {a : Act} {w : World} {o : Oper} {K : Act → World → Prop} (hsel : ∀ cs b, o.op ≠ .select cs b) (he : ∀ x ∈ o.op.operands, a.eval x = az.eval x)
    (hK : ∀ v w', az.put o.dst v = az → S w' → K (a.put o.dst v) w')
    (h : o.wp P az w (fun a' w' => a' = az ∧ S w') (fun _ _ _ => False)) : o.wp P a w K Q := by
  have e1 := execOp_congr (ρ := a.eval) (ρ' := az.eval) o hsel he
  unfold Oper.wp at *
  rw [e1]
  have hh := h
  clear h
  generalize (execOp az.eval o).run P w = r at *
  cases r with
  | ok x w' =>
    cases x <;> simp only [Oper.upon] at hh ⊢
    case value u => exact hK u w' hh.1 hh.2
    case skip => exact hK _ w' hh.1 hh.2
    case defer d =>
      have h1 := congrArg (fun a : Act => a.defers.length) hh.1
      have h2 : ∀ (b : Act) (dst : Option Tmp) (v : Value), (b.put dst v).defers = b.defers := fun b dst v => by cases dst <;> rfl
      simp only [h2, List.length_cons] at h1
      omega
    case enter f args =>
      refine Calls.mono hh fun e w'' he => ?_
      cases e with
      | returned u => exact hK u w'' he.1 he.2
      | panicked c => exact he.elim
      | outgrown => obtain ⟨_, _, hf⟩ := he; exact hf.elim
    case row row args => exact Rows.mono hh fun u w'' he => hK u w'' he.1 he.2
  | halt x w' =>
    cases x <;> simp only [Oper.upon] at hh ⊢
/-- the listed ones stay listed with all that they wait for -/
def DownG (md : Region.Mode) (ops : Array Oper) (z : Nat) (listed : Array Bool) : Prop :=
  ∀ i o, i < z → ops[i]? = some o → listed.getD i true = true → ∀ e ∈ o.after, Region.binds md e = true → listed.getD e.on false = true
theorem wpAny_fixed_go (hok : regOkG md ops z = true) (hup : regUpG md ops z = true) (listedz : Array Bool)
    (hz : ∀ j, listedz[j]? = if j < z then some true else if j < ops.size then some false else none)
    (hstep : ∀ i o, i < z → ops[i]? = some o → ∀ w, S w → if Region.wanted o (yielded ops az.tmps) = true then o.wp P az w (fun a' w' => a' = az ∧ S w') (fun _ _ _ => False) else az.put o.dst undef = az)
    (hrest : ∀ w, S w → wpAny P md ops Q (ops.size - z) listedz az w) :
    ∀ (k : Nat) (listed : Array Bool) (a : Act) (w : World), listed.size = ops.size → ((List.range z).filter fun j => !listed.getD j true).length = k →
      (∀ i, z ≤ i → i < ops.size → listed.getD i true = false) → DownG md ops z listed → AgreeG ops z az listed a → S w → wpAny P md ops Q (ops.size - z + k) listed a w := by
  have hok' := hok
  unfold regOkG at hok'
  simp only [Bool.and_eq_true, decide_eq_true_eq, List.all_eq_true, List.mem_range] at hok'
  obtain ⟨hzs, hall⟩ := hok'
  have gd : ∀ (l : Array Bool) (j : Nat), l.getD j false = true → l.getD j true = true := fun l j h => by
    rcases Nat.lt_or_ge j l.size with h' | h'
    · simp [h'] at h ⊢; exact h
    · simp [Array.getElem?_eq_none h'] at h
  -- whoever comes up is ahead of z while one of these isn't listed
  have below : ∀ (listed : Array Bool) (i : Nat), (∀ i, z ≤ i → i < ops.size → listed.getD i true = false) → DownG md ops z listed → (∃ j, j < z ∧ listed.getD j true = false) → i ∈ Region.ready md ops listed → i < z := by
    intro listed i htop hdown ⟨j, hj, hjf⟩ hi
    obtain ⟨hu, o, ho, hp⟩ := mem_ready.1 hi
    have his : i < ops.size := (Array.getElem?_eq_some_iff.1 ho).1
    by_cases hiz : i < z
    · exact hiz
    exfalso
    have hup' := hup
    unfold regUpG at hup'
    rw [Bool.or_eq_true] at hup'
    replace hup' := hup'.resolve_left (by simp; omega)
    simp only [List.all_eq_true, List.mem_range, List.any_eq_true, Bool.and_eq_true, decide_eq_true_eq] at hup'
    by_cases hie : i = z
    · subst hie
      have key : ∀ m j, i - j = m → j < i → listed.getD j false = true := by
        intro m
        induction m using Nat.strongRecOn with
        | ind m ih =>
          intro j hm hj
          obtain ⟨i', hi', hji, hE⟩ := hup' j hj
          cases ho' : ops[i']? with
          | none => rw [ho'] at hE; cases hE
          | some o' =>
            rw [ho'] at hE
            simp only [List.any_eq_true, Bool.and_eq_true, beq_iff_eq, Array.mem_toList_iff] at hE
            obtain ⟨e, he, hb, hej⟩ := hE
            by_cases h0 : i' = i
            · subst h0
              rw [ho] at ho'; injection ho' with ho'; subst ho'
              rw [← hej]; exact hp e he hb
            · have h1 := ih (i - i') (by omega) i' rfl (by omega)
              rw [← hej]; exact hdown i' o' (by omega) ho' (gd _ _ h1) e he hb
      have := gd _ _ (key _ j rfl hj)
      rw [hjf] at this; cases this
    · have h1 := hall i his
      rw [ho] at h1
      simp only [hiz, if_false, hie, Bool.and_eq_true, List.any_eq_true, decide_eq_true_eq, Array.mem_toList_iff] at h1
      obtain ⟨-, e, he, ⟨hb, hze⟩, hei⟩ := h1
      have h2 := gd _ _ (hp e he hb)
      rw [htop e.on hze (by omega)] at h2
      cases h2
  intro k
  induction k with
  | zero =>
    intro listed a w hls hk htop hdown hA hS
    have hl : ∀ j, j < z → listed.getD j true = true := fun j hj => by
      have h1 := List.length_eq_zero_iff.1 hk
      have h2 := List.filter_eq_nil_iff.1 h1 j (List.mem_range.2 hj)
      simpa using h2
    have e1 : listed = listedz := by
      apply Array.ext_getElem?
      intro j
      rw [hz j]
      by_cases hj : j < z
      · have := hl j hj
        rw [if_pos hj]
        have h' : j < listed.size := by omega
        simp [h'] at this ⊢; exact this
      · rw [if_neg hj]
        by_cases hj2 : j < ops.size
        · have := htop j (by omega) hj2
          rw [if_pos hj2]
          have h' : j < listed.size := by omega
          simp [h'] at this ⊢; exact this
        · rw [if_neg hj2]; exact Array.getElem?_eq_none (by omega)
    have e2 : a = az := by
      obtain ⟨h1, h2, h3⟩ := hA
      cases a; cases az
      simp only at h1 h2 h3
      congr
      exact Array.ext_getElem? fun t => h3 t fun j hj hu => by rw [hl j hj] at hu; cases hu
    subst e1 e2
    exact hrest w hS
  | succ k ih =>
    intro listed a w hls hk htop hdown hA hS
    obtain ⟨j0, hj0⟩ : ∃ j, j ∈ (List.range z).filter fun j => !listed.getD j true := List.exists_mem_of_length_pos (by omega)
    have hex : ∃ j, j < z ∧ listed.getD j true = false := by
      rw [List.mem_filter, List.mem_range] at hj0
      exact ⟨j0, hj0.1, by simpa using hj0.2⟩
    -- somebody comes up: the first that isn't listed
    have hne : Region.ready md ops listed ≠ [] := by
      intro h0
      have key : ∀ j, j < z → listed.getD j true = true := by
        intro j
        induction j using Nat.strongRecOn with
        | ind j ihj =>
          intro hj
          by_cases hu : listed.getD j true = true
          · exact hu
          exfalso
          have ho : ∃ o, ops[j]? = some o := ⟨ops[j]'(by omega), Array.getElem?_eq_getElem (by omega)⟩
          obtain ⟨o, ho⟩ := ho
          have h1 := hall j (by omega)
          rw [ho] at h1
          simp only [hj, if_true, Bool.and_eq_true, List.all_eq_true, Array.mem_toList_iff] at h1
          have hm : j ∈ Region.ready md ops listed := mem_ready.2 ⟨by simpa using hu, o, ho, fun e he hb => by
            have h2 := h1.2.1 e he
            simp only [hb, Bool.not_true, Bool.false_or, decide_eq_true_eq] at h2
            have h3 := ihj e.on h2 (by omega)
            have h' : e.on < listed.size := by omega
            simp [h'] at h3 ⊢; exact h3⟩
          rw [h0] at hm
          cases hm
      obtain ⟨j, hj, hf⟩ := hex
      rw [key j hj] at hf; cases hf
    rw [show ops.size - z + (k + 1) = (ops.size - z + k) + 1 from by omega]
    refine wpAny_all rfl hne fun i hi => ?_
    have hiz := below listed i htop hdown hex hi
    obtain ⟨hu, o, ho, hp⟩ := mem_ready.1 hi
    have h1 := hall i (by omega)
    rw [ho] at h1
    simp only [hiz, if_true, Bool.and_eq_true] at h1
    have hsel : ∀ cs b, o.op ≠ .select cs b := fun c b e => by simp [e] at h1
    have hst := hstep i o hiz ho w hS
    unfold wpOp
    rw [ho]
    simp only [hA.wanted hok hiz ho hp]
    suffices hnext : ∀ v w', az.put o.dst v = az → S w' → wpAny P md ops Q (ops.size - z + k) (listed.setIfInBounds i true) (a.put o.dst v) w' by
      by_cases hw : Region.wanted o (yielded ops az.tmps) = true
      · rw [if_pos hw] at hst ⊢
        exact .inl (wp_agree hsel (hA.eval hok hiz ho hp) hnext hst)
      · rw [if_neg hw] at hst ⊢
        exact hnext _ _ hst hS
    intro v w' hv hS'
    refine ih _ _ _ (by simpa using hls) ?_ ?_ ?_ (hA.put (by omega) ho hv) hS'
    · have hsplit : ((List.range z).filter fun j => !listed.getD j true).length = ((List.range z).filter fun j => !(listed.setIfInBounds i true).getD j true).length + 1 := by
        have hcount : ∀ (L : List Nat), L.Nodup → i ∈ L → (L.filter fun j => !listed.getD j true).length = (L.filter fun j => !(listed.setIfInBounds i true).getD j true).length + 1 := by
          intro L
          induction L with
          | nil => intro _ h; cases h
          | cons x L ihL =>
            intro hnd hm
            have hnd' := List.nodup_cons.1 hnd
            by_cases hx : x = i
            · subst hx
              have e1 : (x :: L).filter (fun j => !listed.getD j true) = x :: L.filter (fun j => !listed.getD j true) := List.filter_cons_of_pos (by simp only [hu]; rfl)
              have e2 : (listed.setIfInBounds x true).getD x true = true := by
                have h' : x < listed.size := by omega
                simp [h']
              have e3 : (x :: L).filter (fun j => !(listed.setIfInBounds x true).getD j true) = L.filter (fun j => !(listed.setIfInBounds x true).getD j true) := List.filter_cons_of_neg (by simp only [e2]; simp)
              rw [e1, e3, List.length_cons]
              congr 2
              refine List.filter_congr fun j hj => ?_
              rw [getD_set_ne true (fun e => hnd'.1 (by rw [e]; exact hj))]
            · have hm' : i ∈ L := (List.mem_cons.1 hm).resolve_left (Ne.symm hx)
              have := ihL hnd'.2 hm'
              have e2 : (listed.setIfInBounds i true).getD x true = listed.getD x true := getD_set_ne true (Ne.symm hx)
              by_cases hxu : listed.getD x true = true
              · rw [List.filter_cons_of_neg (by simp only [hxu]; simp), List.filter_cons_of_neg (by simp only [e2, hxu]; simp)]; exact this
              · have hxf : listed.getD x true = false := by simpa using hxu
                rw [List.filter_cons_of_pos (by simp only [hxf]; rfl), List.filter_cons_of_pos (by simp only [e2, hxf]; rfl), List.length_cons, List.length_cons]
                omega
        exact hcount _ List.nodup_range (List.mem_range.2 hiz)
      omega
    · intro j hj hjs
      rw [getD_set_ne true (by omega)]; exact htop j hj hjs
    · intro j o' hj ho' hl e he hb
      by_cases hji : j = i
      · subst hji
        rw [ho] at ho'; injection ho' with ho'; subst ho'
        exact getD_set_true (hp e he hb)
      · rw [getD_set_ne true (Ne.symm hji)] at hl
        exact getD_set_true (hdown j o' hj ho' hl e he hb)
/-- the first z operations, each of which yields its value in whatever world of the kind S; then the rest -/
theorem wpAny_fixed (z : Nat) (S : World → Prop) (az : Act) (hok : regOkG md ops z = true) (hup : regUpG md ops z = true) (a : Act) (w : World) (hA : AgreeG ops z az (Array.replicate ops.size false) a) (hS : S w)
    (listedz : Array Bool) (hz : listedz = Array.replicate z true ++ Array.replicate (ops.size - z) false)
    (hstep : ∀ i o, i < z → ops[i]? = some o → ∀ w, S w → if Region.wanted o (yielded ops az.tmps) = true then o.wp P az w (fun a' w' => a' = az ∧ S w') (fun _ _ _ => False) else az.put o.dst undef = az)
    (hrest : ∀ w, S w → wpAny P md ops Q (ops.size - z) listedz az w) : wpAny P md ops Q ops.size (Array.replicate ops.size false) a w := by
  have hzs : z ≤ ops.size := by
    unfold regOkG at hok
    simp only [Bool.and_eq_true, decide_eq_true_eq] at hok
    exact hok.1
  have h := wpAny_fixed_go (P := P) (Q := Q) (S := S) (az := az) hok hup listedz (fun j => by
    rw [hz, Array.getElem?_append]
    simp only [Array.size_replicate, Array.getElem?_replicate]
    by_cases hj : j < z
    · simp [hj]
    · simp only [hj, if_false]
      by_cases h2 : j < ops.size
      · rw [if_pos (by omega), if_pos h2]
      · rw [if_neg (by omega), if_neg h2]) hstep hrest z (Array.replicate ops.size false) a w (by simp) (by
      rw [List.filter_eq_self.2]
      · simp
      · intro j hj
        have hj := List.mem_range.1 hj
        have h' : j < ops.size := by omega
        simp [h']) (fun i _ h2 => by simp [h2]) (fun i o hi ho hl => by
        have h' : i < ops.size := by omega
        simp [h'] at hl) hA hS
  rwa [show ops.size - z + z = ops.size from by omega] at h
/-- the values of the operations from the one numbered i on, put one after another -/
def putsOfG (ops : Array Oper) : Nat → List Value → Act → Act
  | _, [], a => a
  | i, v :: vs, a => putsOfG ops (i + 1) vs (a.put ((ops[i]?).bind (·.dst)) v)
theorem putsOfG_spec (ops : Array Oper) : ∀ (vs : List Value) (i : Nat) (a : Act), (putsOfG ops i vs a).defers = a.defers ∧ (putsOfG ops i vs a).tmps.size = a.tmps.size ∧ ∀ t, (∀ j, i ≤ j → j < i + vs.length → (ops[j]?).bind (·.dst) ≠ some t) → (putsOfG ops i vs a).tmps[t]? = a.tmps[t]? := by
  intro vs
  induction vs with
  | nil => intro i a; exact ⟨rfl, rfl, fun _ _ => rfl⟩
  | cons v vs ih =>
    intro i a
    obtain ⟨h1, h2, h3⟩ := ih (i + 1) (a.put ((ops[i]?).bind (·.dst)) v)
    unfold putsOfG
    refine ⟨?_, ?_, ?_⟩
    · rw [h1]; cases (ops[i]?).bind (·.dst) <;> rfl
    · rw [h2]; cases (ops[i]?).bind (·.dst) <;> simp [Act.put]
    · intro t ht
      rw [h3 t (fun j hj hj2 => ht j (by omega) (by simp; omega))]
      have h0 := ht i (Nat.le_refl _) (by simp)
      cases hd : (ops[i]?).bind (·.dst) with
      | none => rfl
      | some d =>
        rw [hd] at h0
        simp only [Act.put]
        exact Array.getElem?_setIfInBounds_ne (fun e => h0 (by rw [e]))
def StepsG (P : Program) (ops : Array Oper) (S : World → Prop) (az : Act) (L : List Nat) : Prop :=
  ∀ i ∈ L, ∀ o, ops[i]? = some o → ∀ w, S w → if Region.wanted o (yielded ops az.tmps) = true then o.wp P az w (fun a' w' => a' = az ∧ S w') (fun _ _ _ => False) else az.put o.dst undef = az
theorem StepsG.nil : StepsG P ops S az [] := fun _ h => by cases h
theorem StepsG.one {i : Nat} {L : List Nat} {o : Oper} (ho : ops[i]? = some o) (h : ∀ w, S w → if Region.wanted o (yielded ops az.tmps) = true then o.wp P az w (fun a' w' => a' = az ∧ S w') (fun _ _ _ => False) else az.put o.dst undef = az) (hs : StepsG P ops S az L) : StepsG P ops S az (i :: L) := by
  intro j hj o' ho'
  rcases List.mem_cons.1 hj with rfl | hj
  · rw [ho] at ho'; injection ho' with ho'; subst ho'; exact h
  · exact hs j hj o' ho'
theorem StepsG.cons {i : Nat} {L : List Nat} {o : Oper} (ho : ops[i]? = some o) (hw : Region.wanted o (yielded ops az.tmps) = true) (h : ∀ w, S w → o.wp P az w (fun a' w' => a' = az ∧ S w') (fun _ _ _ => False)) (hs : StepsG P ops S az L) : StepsG P ops S az (i :: L) :=
  .one ho (fun w hS => by rw [if_pos hw]; exact h w hS) hs
theorem StepsG.skip {i : Nat} {L : List Nat} {o : Oper} (ho : ops[i]? = some o) (hw : Region.wanted o (yielded ops az.tmps) = false) (h : az.put o.dst undef = az) (hs : StepsG P ops S az L) : StepsG P ops S az (i :: L) :=
  .one ho (fun w hS => by rw [if_neg (by rw [hw]; simp)]; exact h) hs
/-- the first operations, each of which yields its value in whatever world of the kind S (vs: the values); then the rest -/
theorem wpAny_vals (zl : List Nat) (vs : List Value) (S : World → Prop) (a az : Act) (w : World) (haz : putsOfG ops 0 vs a = az) (hok : regOkG md ops vs.length = true) (hup : regUpG md ops vs.length = true) (hS : S w)
    (listedz : Array Bool) (hz : listedz = Array.replicate vs.length true ++ Array.replicate (ops.size - vs.length) false)
    (hzl : List.range vs.length = zl) (hstep : StepsG P ops S az zl)
    (hrest : ∀ w, S w → wpAny P md ops Q (ops.size - vs.length) listedz az w) : wpAny P md ops Q ops.size (Array.replicate ops.size false) a w := by
  subst hzl
  obtain ⟨h1, h2, h3⟩ := putsOfG_spec ops vs 0 a
  rw [haz] at h1 h2 h3
  have hzs : vs.length ≤ ops.size := by
    unfold regOkG at hok
    simp only [Bool.and_eq_true, decide_eq_true_eq] at hok
    exact hok.1
  refine wpAny_fixed vs.length S az hok hup a w ⟨h1.symm, h2.symm, fun t ht => (h3 t fun j _ hj => ht j (by omega) ?_).symm⟩ hS listedz hz (fun i o hi => hstep i (List.mem_range.2 hi) o) hrest
  have h' : j < ops.size := by omega
  simp [h']
/-- a drawn region, all of whose operations yield their values (vs) in whatever world of the kind S -/
theorem wp_region_vals {id : Nat} {a : Act} {w : World} (zl : List Nat) (vs : List Value) (S : World → Prop) (az : Act) (hm : P.follows .mixedOrders = true) (hS : ∀ y, Dr w y → S y) (haz : putsOfG ops 0 vs a = az) (hlen : vs.length = ops.size)
    (hok : regOkG .any ops vs.length = true) (hup : regUpG .any ops vs.length = true) (hzl : List.range vs.length = zl) (hstep : StepsG P ops S az zl) (hrest : ∀ w', S w' → Q .normal az w') : (Code.region id ops true).wp P Q a w := by
  refine wp_region_any hm ?_
  refine wpAny_vals zl vs S a az _ haz hok hup (hS _ (Dr.n w 1)) _ rfl hzl hstep fun w' hw => ?_
  rw [hlen, Nat.sub_self]
  refine ⟨?_, hrest w' hw⟩
  unfold Region.ready
  rw [List.filter_eq_nil_iff]
  intro i hi
  have h := List.mem_range.1 hi
  simp [h]
/-- the same, the last ones by hand -/
theorem wp_region_vals_rest {id : Nat} {a : Act} {w : World} (zl : List Nat) (vs : List Value) (S : World → Prop) (az : Act) (hm : P.follows .mixedOrders = true) (hS : ∀ y, Dr w y → S y) (haz : putsOfG ops 0 vs a = az)
    (hok : regOkG .any ops vs.length = true) (hup : regUpG .any ops vs.length = true) (hzl : List.range vs.length = zl) (hstep : StepsG P ops S az zl) (hrest : ∀ w', S w' → wpAny P .any ops Q (ops.size - vs.length) (Array.replicate vs.length true ++ Array.replicate (ops.size - vs.length) false) az w') : (Code.region id ops true).wp P Q a w := by
  refine wp_region_any hm ?_
  exact wpAny_vals zl vs S a az _ haz hok hup (hS _ (Dr.n w 1)) _ rfl hzl hstep hrest
end
end Go.Proofs.Ytcjnmconehfbgaa
namespace Go.Proofs.Ytcjnmconehfbgaa
open Go.RowKit NP
set_option maxRecDepth 8000
set_option linter.unusedVariables false
set_option linter.unusedSimpArgs false
theorem drCell {w w' : World} {p : Addr} {v : Value} (h : Dr w w') (hc : w.cell? p = some v) : w'.cell? p = some v := by
  obtain ⟨n, rfl⟩ := h
  exact hc
theorem DrawRankSpread_any (a : Option Addr) (c B : Nat) (bs : List Int) (w : World) (h : Rd w B a (bs.map (Value.int .u8))) (hB : B ≤ w.heap.size) (hb : ∀ n ∈ bs, (Lit.int .u8 n).wf = true) (hl : bs.length ≤ 1048576) (hc : bs.length ≤ c) :
    Calls Try.prog 18 #[.slice a bs.length c] w fun e w' => ∃ x y : Int, e = .returned (.tuple #[.int .i64 x, .int .i64 y]) ∧ (-1000 ≤ x ∧ x ≤ 1000) ∧ (-1000 ≤ y ∧ y ≤ 1000) ∧ Below w.heap.size w w' := by
  go_enter Try.func18, Try.ntmps18
  go_wp2_with fail
  refine (newReader_any _ _ B bs _ h hB hb hl hc).mono ?_
  rintro e w1 ⟨rfl, h1, hb1, -⟩
  go_wp2_with fail
  refine (one_any w.heap.size 0 _ _ _ [4, 9, 5, 12, 6, 8, 3, 1, 0, 7, 13, -1] _ _ (by simp) (by simp) (by omega) (h1.below ((Below.refl _ _).alloc h1.lt _)) (rd_new w1 _ _) (by intro b o e; injection e with e; injection e with e; have := h1.lt; omega)).mono ?_
  rintro e w2 ⟨k, hk, rfl, h2, hg2, -⟩
  have hx : ∀ x ∈ ([4, 9, 5, 12, 6, 8, 3, 1, 0, 7, 13, -1] : List Int), -1000 ≤ x ∧ x ≤ 1000 := by intro x hx; simp only [List.mem_cons, List.not_mem_nil, or_false] at hx; omega
  have hx2 := hx _ (List.getElem_mem hk)
  obtain ⟨x2, hxx⟩ : ∃ x, x = ([4, 9, 5, 12, 6, 8, 3, 1, 0, 7, 13, -1] : List Int)[k] := ⟨_, rfl⟩
  rw [← hxx] at hx2 ⊢
  clear hx hxx hk
  have hb2 : Below w.heap.size w w2 := chg_low2 (hb1.alloc hb1.size _) (Nat.le_refl _) hg2
  clear hg2
  go_wp2_with fail
  refine (one_any w.heap.size 1 _ _ _ [5, 7, 11, 2, 3, 1, 5, 7, 16, 0, 17] _ _ (by simp) (by simp) (by omega) (h2.below ((Below.refl _ _).alloc h2.lt _)) (rd_new w2 _ _) (by intro b o e; injection e with e; injection e with e; have := h2.lt; omega)).mono ?_
  rintro e w3 ⟨k, hk, rfl, h3, hg3, -⟩
  have hx : ∀ x ∈ ([5, 7, 11, 2, 3, 1, 5, 7, 16, 0, 17] : List Int), -1000 ≤ x ∧ x ≤ 1000 := by intro x hx; simp only [List.mem_cons, List.not_mem_nil, or_false] at hx; omega
  have hx3 := hx _ (List.getElem_mem hk)
  obtain ⟨x3, hxx⟩ : ∃ x, x = ([5, 7, 11, 2, 3, 1, 5, 7, 16, 0, 17] : List Int)[k] := ⟨_, rfl⟩
  rw [← hxx] at hx3 ⊢
  clear hx hxx hk
  have hb3 : Below w.heap.size w w3 := chg_low2 (hb2.alloc hb2.size _) (Nat.le_refl _) hg3
  clear hg3
  go_wp2_with fail
  go_ret2
  exact ⟨x2, x3, rfl, hx2, hx3, hb3⟩
theorem DrawCrankSpread_any (a : Option Addr) (c B : Nat) (bs : List Int) (w : World) (h : Rd w B a (bs.map (Value.int .u8))) (hB : B ≤ w.heap.size) (hb : ∀ n ∈ bs, (Lit.int .u8 n).wf = true) (hl : bs.length ≤ 1048576) (hc : bs.length ≤ c) :
    Calls Try.prog 25 #[.slice a bs.length c] w fun e w' => ∃ x y : Int, e = .returned (.tuple #[.int .i64 x, .int .i64 y]) ∧ (-1000 ≤ x ∧ x ≤ 1000) ∧ (-1000 ≤ y ∧ y ≤ 1000) ∧ Below w.heap.size w w' := by
  go_enter Try.func25, Try.ntmps25
  go_wp2_with fail
  refine (DrawRankSpread_any _ _ B bs _ h hB hb hl hc).mono ?_
  rintro e w1 ⟨x, y, rfl, hx, hy, hb1⟩
  go_wp2_with fail
  go_ret2
  exact ⟨x, y, rfl, hx, hy, hb1⟩
set_option maxHeartbeats 4000000 in
theorem allSame_yes (a : Option Addr) (c B : Nat) (L : List Int) (x : Int) (w : World) (h : Rd w B a (ints L)) (hx : ∀ k (hk : k < L.length), L[k] = x) (hl : L.length ≤ 1000) :
    Calls Try.prog 22 #[.slice a L.length c] w fun e w' => e = .returned (.bool true) ∧ Dr w w' := by
  have HX := Lib.hid hx
  clear hx
  go_enter Try.func22, Try.ntmps22
  go_wp2_with fail
  go_loopw [3] (fun i wr => ∃ k : Nat, 1 ≤ k ∧ (k ≤ L.length ∨ k = 1) ∧ i = .int .i64 k ∧ Dr w wr) (fun i _ => L.length - (intOf i).toNat)
  case atStart => exact ⟨1, Nat.le_refl _, .inr rfl, rfl, Dr.refl _⟩
  case round =>
    obtain ⟨k, hk1, hk, rfl, hd⟩ := hrel
    by_cases hlt : k < L.length
    · obtain ⟨b, o, rfl, hbB, hc0⟩ := h.at_ (show 0 < L.length by omega)
      have hall : ∀ j (hj : j < L.length), wr.cell? ⟨b, o + j, none⟩ = some (.int .i64 x) := fun j hj => by
        obtain ⟨b', o', e1, -, h2⟩ := (h.dr hd).at_ hj
        injection e1 with e1; injection e1 with e1 e2; subst e1 e2
        have h3 := HX.out j hj
        rw [h2]; simp [h3]
      have hck := hall k hlt
      have hc0' : wr.cell? ⟨b, o, none⟩ = some (.int .i64 x) := hall 0 (by omega)
      clear hall hc0
      have hL0 : 0 < L.length := by omega
      have hmx : Try.prog.follows .mixedOrders = true := by kernel_rfl
      go_wp2_with fail
      refine wp_region_vals [0, 1, 2, 3, 4, 5, 6, 7] [.slice (some ⟨b, o, none⟩) L.length c, .int .i64 k, .pointer (some ⟨b, o + k, none⟩), .int .i64 x, .slice (some ⟨b, o, none⟩) L.length c, .pointer (some ⟨b, o, none⟩), .int .i64 x, .bool false] (fun w' => Dr wr w') _ hmx (fun _ h => h) rfl rfl (by kernel_rfl) (by kernel_rfl) rfl ?steps ?rest
      case steps =>
        simp only [putsOfG, Act.put, List.getElem?_toArray, List.getElem?_cons_succ, List.getElem?_cons_zero, Option.bind_some, Nat.reduceAdd, List.setIfInBounds_toArray, List.set_cons_zero, List.set_cons_succ]
        refine StepsG.cons rfl rfl (fun wq hS => ?_) ?_
        · have c1 := drCell hS hck
          have c2 := drCell hS hc0'
          go_simp
        refine StepsG.cons rfl rfl (fun wq hS => ?_) ?_
        · have c1 := drCell hS hck
          have c2 := drCell hS hc0'
          go_simp
        refine StepsG.cons rfl rfl (fun wq hS => ?_) ?_
        · have c1 := drCell hS hck
          have c2 := drCell hS hc0'
          go_simp
        refine StepsG.cons rfl rfl (fun wq hS => ?_) ?_
        · have c1 := drCell hS hck
          have c2 := drCell hS hc0'
          go_simp
        refine StepsG.cons rfl rfl (fun wq hS => ?_) ?_
        · have c1 := drCell hS hck
          have c2 := drCell hS hc0'
          go_simp
        refine StepsG.cons rfl rfl (fun wq hS => ?_) ?_
        · have c1 := drCell hS hck
          have c2 := drCell hS hc0'
          go_simp
        refine StepsG.cons rfl rfl (fun wq hS => ?_) ?_
        · have c1 := drCell hS hck
          have c2 := drCell hS hc0'
          go_simp
        refine StepsG.cons rfl rfl (fun wq hS => ?_) ?_
        · have c1 := drCell hS hck
          have c2 := drCell hS hc0'
          go_simp
        exact StepsG.nil
      case rest =>
        intro wq hS
        simp only [putsOfG, Act.put, List.getElem?_toArray, List.getElem?_cons_succ, List.getElem?_cons_zero, Option.bind_some, Nat.reduceAdd, List.setIfInBounds_toArray, List.set_cons_zero, List.set_cons_succ]
        go_wp2_with fail
        go_roundw
        case rel => exact ⟨k + 1, by omega, .inl (by omega), by go_num, hd.trans hS⟩
        case measure => simp [intOf]; omega
    · clear h
      go_wp2_with fail
      go_ret
      exact ⟨rfl, hd⟩
end Go.Proofs.Ytcjnmconehfbgaa
