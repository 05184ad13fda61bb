/-
  Walks: how the ranks and the cranks of all parts of a number spread over remainders.
-/
import Derived.Test.YtcjnmconehfbgaaW105
import Derived.Test.YtcjnmconehfbgaaC1
namespace Go.Proofs.Ytcjnmconehfbgaa
open Go.RowKit NP
set_option maxRecDepth 8000
set_option linter.unusedVariables false
set_option linter.unusedSimpArgs false
def sprOk (n m : Int) : Bool := decide (0 ≤ n ∧ n ≤ 12 ∧ 1 ≤ m ∧ m ≤ 16)
def sprF (b : Bool) (n m : Int) : List Int := if sprOk n m then sprd m.toNat ((allQ n.toNat n.toNat n.toNat).map (spf b)) else []
theorem sprF_len (b : Bool) (n m : Int) : (sprF b n m).length ≤ 16 := by
  unfold sprF
  split
  · rename_i h
    unfold sprOk at h
    simp only [decide_eq_true_eq] at h
    rw [sprd_len]; omega
  · simp
theorem rank_isM (w : World) : IsM w (.func (.func 50) #[] #[]) (spf false) := by
  refine ⟨_, _, _, rfl, enters_of Try.func50 (by kernel_rfl) rfl, fun w1 _ L hL => ?_⟩
  have hb := valid_bd hL
  have e : dg L = pad L := dg_yes hL
  refine (drank_any (pad L) (by rw [← e]; exact dg_len L) (by rw [← e]; exact dg_bd L) w1).mono ?_
  rintro e' w2 ⟨rfl, hb2⟩
  refine ⟨?_, hb2⟩
  rw [← e, rnk_dg]
  rfl
theorem crank_isM (w : World) : IsM w (.func (.func 54) #[] #[]) (spf true) := by
  refine ⟨_, _, _, rfl, enters_of Try.func54 (by kernel_rfl) rfl, fun w1 _ L hL => ?_⟩
  exact dcrank_any L hL w1
theorem spread_no (n m : Int) (fv : Value) (h : sprOk n m = false) (w : World) :
    Calls Try.prog 49 #[.int .i64 n, .int .i64 m, fv] w fun e w' => e = .returned (.slice none 0 0) ∧ Below w.heap.size w w' := by
  unfold sprOk at h
  simp only [decide_eq_false_iff_not] at h
  by_cases h1 : n < 0
  · have d1 : decide (n < 0) = true := decide_eq_true h1
    go_enter Try.func49, Try.ntmps49
    go_wp2_with fail
    all_goals (go_ret; exact ⟨rfl, ((Below.refl _ _).alloc (Nat.le_refl _) _).alloc (by simp) _⟩)
  have d1 : decide (n < 0) = false := decide_eq_false h1
  by_cases h2 : 12 < n
  · have d2 : decide (12 < n) = true := decide_eq_true h2
    go_enter Try.func49, Try.ntmps49
    go_wp2_with fail
    all_goals (go_ret; exact ⟨rfl, ((Below.refl _ _).alloc (Nat.le_refl _) _).alloc (by simp) _⟩)
  have d2 : decide (12 < n) = false := decide_eq_false h2
  by_cases h3 : m < 1
  · have d3 : decide (m < 1) = true := decide_eq_true h3
    go_enter Try.func49, Try.ntmps49
    go_wp2_with fail
    all_goals (go_ret; exact ⟨rfl, ((Below.refl _ _).alloc (Nat.le_refl _) _).alloc (by simp) _⟩)
  have d3 : decide (m < 1) = false := decide_eq_false h3
  have h4 : 16 < m := by omega
  have d4 : decide (16 < m) = true := decide_eq_true h4
  clear h
  go_enter Try.func49, Try.ntmps49
  go_wp2_with fail
  all_goals (go_ret; exact ⟨rfl, ((Below.refl _ _).alloc (Nat.le_refl _) _).alloc (by simp) _⟩)
theorem spread_all (n m : Int) (b : Bool) (fv : Value) (w : World) (hfv : IsM w fv (spf b)) :
    Calls Try.prog 49 #[.int .i64 n, .int .i64 m, fv] w fun e w' => ∃ a' c', e = .returned (.slice a' (sprF b n m).length c') ∧ Own w' w.heap.size w'.heap.size 3 (.slice a' (sprF b n m).length c') (ints (sprF b n m)) ∧ Below w.heap.size w w' := by
  cases h : sprOk n m with
  | false =>
    refine (spread_no n m fv h w).mono ?_
    rintro e w' ⟨rfl, hb⟩
    have e0 : sprF b n m = [] := by simp [sprF, h]
    rw [e0]
    exact ⟨none, 0, rfl, Own.nil w' w.heap.size 3, hb⟩
  | true =>
    have h' := h
    unfold sprOk at h'
    simp only [decide_eq_true_eq] at h'
    have e0 : sprF b n m = sprd m.toNat ((allQ n.toNat n.toNat n.toNat).map (spf b)) := by simp [sprF, h]
    have e1 : (sprF b n m).length = m.toNat := by rw [e0, sprd_len]
    have := spread_any n.toNat m.toNat (by omega) (by omega) (by omega) fv (spf b) w hfv
    rw [Int.toNat_of_nonneg (by omega), Int.toNat_of_nonneg (by omega)] at this
    refine this.mono ?_
    rintro e w' ⟨a', c', rfl, ho, hb⟩
    rw [e1, e0]
    exact ⟨a', c', rfl, ho, hb⟩
theorem iRankSpread_any (n m : Int) (w : World) :
    Calls Try.prog 14 #[.int .i64 n, .int .i64 m] w fun e w' => ∃ a' c', e = .returned (.slice a' (sprF false n m).length c') ∧ Own w' w.heap.size w'.heap.size 3 (.slice a' (sprF false n m).length c') (ints (sprF false n m)) ∧ Below w.heap.size w w' := by
  go_enter Try.func14, Try.ntmps14
  go_wp2_with fail
  refine (spread_all n m false _ w (rank_isM w)).mono ?_
  rintro e w' ⟨a', c', rfl, ho, hb⟩
  go_wp2_with fail
  go_ret
  exact ⟨a', c', rfl, ho, hb⟩
theorem iCrankSpread_any (n m : Int) (w : World) :
    Calls Try.prog 24 #[.int .i64 n, .int .i64 m] w fun e w' => ∃ a' c', e = .returned (.slice a' (sprF true n m).length c') ∧ Own w' w.heap.size w'.heap.size 3 (.slice a' (sprF true n m).length c') (ints (sprF true n m)) ∧ Below w.heap.size w w' := by
  go_enter Try.func24, Try.ntmps24
  go_wp2_with fail
  refine (spread_all n m true _ w (crank_isM w)).mono ?_
  rintro e w' ⟨a', c', rfl, ho, hb⟩
  go_wp2_with fail
  go_ret
  exact ⟨a', c', rfl, ho, hb⟩
theorem sRankSpread_any (n m : Int) (w : World) :
    Calls Try.prog 13 #[.int .i64 n, .int .i64 m] w fun e w' => ∃ a' c', e = .returned (.slice a' (sprF false n m).length c') ∧ Own w' w.heap.size w'.heap.size 3 (.slice a' (sprF false n m).length c') (ints (sprF false n m)) ∧ Below w.heap.size w w' := by
  by_cases h1 : 0 ≤ n ∧ n ≤ 12
  · have i1 : inR n 0 12 = true := by simp [inR, h1]
    by_cases h2 : 1 ≤ m ∧ m ≤ 16
    · have i2 : inR m 1 16 = true := by simp [inR, h2]
      have h : sprOk n m = true := by unfold sprOk; simp; omega
      have e0 : sprF false n m = sprd m.toNat ((allQ n.toNat n.toNat n.toNat).map (spf false)) := by simp [sprF, h]
      have e1 : (sprF false n m).length = m.toNat := by rw [e0, sprd_len]
      have hm := sspread_any n.toNat m.toNat (by omega) (by omega) (by omega) false w
      rw [Int.toNat_of_nonneg (by omega), Int.toNat_of_nonneg (by omega), ← e0] at hm
      rw [e1]
      clear h1 h2 e0 e1 h
      go_enter Try.func13, Try.ntmps13
      go_wp2_with (go_at_call 47; refine (inRange_any _ _ _ _).mono ?_; rintro e wv ⟨rfl, rfl⟩; first | rw [i1] | rw [i2])
      refine hm.mono ?_
      rintro e w' ⟨a', c', rfl, ho, hb⟩
      go_wp2_with fail
      go_ret
      exact ⟨a', c', rfl, ho, hb⟩
    · have i2 : inR m 1 16 = false := by simp [inR]; omega
      have h : sprOk n m = false := by unfold sprOk; simp; omega
      have e0 : sprF false n m = [] := by simp [sprF, h]
      rw [e0]
      clear h1 h2 e0 h
      go_enter Try.func13, Try.ntmps13
      go_wp2_with (go_at_call 47; refine (inRange_any _ _ _ _).mono ?_; rintro e wv ⟨rfl, rfl⟩; first | rw [i1] | rw [i2])
      go_ret
      exact ⟨none, 0, rfl, Own.nil w w.heap.size 3, Below.refl _ _⟩
  · have i1 : inR n 0 12 = false := by simp [inR]; omega
    have h : sprOk n m = false := by unfold sprOk; simp; omega
    have e0 : sprF false n m = [] := by simp [sprF, h]
    rw [e0]
    clear h1 e0 h
    go_enter Try.func13, Try.ntmps13
    go_wp2_with (go_at_call 47; refine (inRange_any n 0 12 _).mono ?_; rintro e wv ⟨rfl, rfl⟩; rw [i1])
    go_ret
    exact ⟨none, 0, rfl, Own.nil w w.heap.size 3, Below.refl _ _⟩
theorem sCrankSpread_any (n m : Int) (w : World) :
    Calls Try.prog 23 #[.int .i64 n, .int .i64 m] w fun e w' => ∃ a' c', e = .returned (.slice a' (sprF true n m).length c') ∧ Own w' w.heap.size w'.heap.size 3 (.slice a' (sprF true n m).length c') (ints (sprF true n m)) ∧ Below w.heap.size w w' := by
  by_cases h1 : 0 ≤ n ∧ n ≤ 12
  · have i1 : inR n 0 12 = true := by simp [inR, h1]
    by_cases h2 : 1 ≤ m ∧ m ≤ 16
    · have i2 : inR m 1 16 = true := by simp [inR, h2]
      have h : sprOk n m = true := by unfold sprOk; simp; omega
      have e0 : sprF true n m = sprd m.toNat ((allQ n.toNat n.toNat n.toNat).map (spf true)) := by simp [sprF, h]
      have e1 : (sprF true n m).length = m.toNat := by rw [e0, sprd_len]
      have hm := sspread_any n.toNat m.toNat (by omega) (by omega) (by omega) true w
      rw [Int.toNat_of_nonneg (by omega), Int.toNat_of_nonneg (by omega), ← e0] at hm
      rw [e1]
      clear h1 h2 e0 e1 h
      go_enter Try.func23, Try.ntmps23
      go_wp2_with (go_at_call 47; refine (inRange_any _ _ _ _).mono ?_; rintro e wv ⟨rfl, rfl⟩; first | rw [i1] | rw [i2])
      refine hm.mono ?_
      rintro e w' ⟨a', c', rfl, ho, hb⟩
      go_wp2_with fail
      go_ret
      exact ⟨a', c', rfl, ho, hb⟩
    · have i2 : inR m 1 16 = false := by simp [inR]; omega
      have h : sprOk n m = false := by unfold sprOk; simp; omega
      have e0 : sprF true n m = [] := by simp [sprF, h]
      rw [e0]
      clear h1 h2 e0 h
      go_enter Try.func23, Try.ntmps23
      go_wp2_with (go_at_call 47; refine (inRange_any _ _ _ _).mono ?_; rintro e wv ⟨rfl, rfl⟩; first | rw [i1] | rw [i2])
      go_ret
      exact ⟨none, 0, rfl, Own.nil w w.heap.size 3, Below.refl _ _⟩
  · have i1 : inR n 0 12 = false := by simp [inR]; omega
    have h : sprOk n m = false := by unfold sprOk; simp; omega
    have e0 : sprF true n m = [] := by simp [sprF, h]
    rw [e0]
    clear h1 e0 h
    go_enter Try.func23, Try.ntmps23
    go_wp2_with (go_at_call 47; refine (inRange_any n 0 12 _).mono ?_; rintro e wv ⟨rfl, rfl⟩; rw [i1])
    go_ret
    exact ⟨none, 0, rfl, Own.nil w w.heap.size 3, Below.refl _ _⟩
end Go.Proofs.Ytcjnmconehfbgaa
