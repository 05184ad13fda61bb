/-
  Plain mathematics of marks set at corners.
-/
import Derived.Test.YtbbbfaollcklkaaM47
namespace Go.Proofs.Ytbbbfaollcklkaa
open Go.RowKit
namespace NP
def stM (F : List Int) (f : Nat → Bool) : List Bool := F.foldl (fun E i => E.set i.toNat (f i.toNat)) (List.replicate 16 false)
theorem foldl_setlen (F : List Int) (f : Nat → Bool) : ∀ E : List Bool, (F.foldl (fun E i => E.set i.toNat (f i.toNat)) E).length = E.length := by
  induction F with
  | nil => intro E; rfl
  | cons x R ih => intro E; rw [List.foldl_cons, ih]; simp
theorem stM_len (F : List Int) (f : Nat → Bool) : (stM F f).length = 16 := by unfold stM; rw [foldl_setlen]; simp
theorem stM_succ {F : List Int} {k : Nat} (h : k < F.length) (f : Nat → Bool) : stM (F.take (k + 1)) f = (stM (F.take k) f).set F[k].toNat (f F[k].toNat) := by
  unfold stM
  rw [List.take_succ_eq_append_getElem h, List.foldl_append]
  rfl
theorem fl_mem {p : Nat → Bool} {n : Nat} {x : Int} (h : x ∈ fl p n) : ∃ i : Nat, x = (i : Int) ∧ i < n ∧ p i = true := by
  unfold fl at h
  obtain ⟨i, hi, rfl⟩ := List.mem_map.1 h
  have := List.mem_filter.1 hi
  exact ⟨i, rfl, by simpa using this.1, this.2⟩
theorem stM_fl (p f : Nat → Bool) (n : Nat) (hn : n ≤ 16) : stM (fl p n) f = (List.range 16).map fun i => decide (i < n) && p i && f i := by
  induction n with
  | zero =>
    have e : (List.range 16).map (fun i => decide (i < 0) && p i && f i) = (List.range 16).map fun _ => false := List.map_congr_left fun i _ => by simp
    rw [e]; rfl
  | succ n ih =>
    have ih := ih (by omega)
    have e : stM (fl p (n + 1)) f = if p n then (stM (fl p n) f).set n (f n) else stM (fl p n) f := by
      rw [fl_succ]
      unfold stM
      rw [List.foldl_append]
      cases p n <;> rfl
    rw [e, ih]
    cases hp : p n with
    | false =>
      rw [if_neg (by simp)]
      apply List.map_congr_left
      intro i _
      by_cases hin : i = n
      · subst hin; simp [hp]
      · have : decide (i < n) = decide (i < n + 1) := by rw [decide_eq_decide]; omega
        rw [this]
    | true =>
      rw [if_pos rfl]
      apply List.ext_getElem
      · simp
      · intro i h1 h2
        rw [List.getElem_set]
        by_cases hin : n = i
        · subst hin; simp [hp]
        · rw [if_neg hin]
          simp only [List.getElem_map, List.getElem_range]
          have : decide (i < n) = decide (i < n + 1) := by rw [decide_eq_decide]; omega
          rw [this]
/-- the marks of parts whose corners are marked as f says -/
def mkOf (C : List Int) (f : Nat → Bool) : List Bool := (List.range C.length).map fun i => isC C i && f i
theorem mkOf_len (C : List Int) (f : Nat → Bool) : (mkOf C f).length = C.length := by simp [mkOf]
theorem mkOf_getD (C : List Int) (f : Nat → Bool) (i : Nat) : (mkOf C f).getD i false = (decide (i < C.length) && isC C i && f i) := by
  unfold mkOf
  rcases Nat.lt_or_ge i C.length with h | h
  · rw [List.getD_eq_getElem?_getD, List.getElem?_eq_getElem (by simpa using h)]; simp [h]
  · rw [List.getD_eq_getElem?_getD, List.getElem?_eq_none (by simpa using h)]; simp; omega
theorem stM_pad {C : List Int} (h : valid C = true) (f : Nat → Bool) : stM (fl (isCD (pad C)) 16) f = padB (mkOf C f) := by
  have hl := (valid_bd h).2.2.2
  rw [stM_fl _ _ 16 (Nat.le_refl _)]
  apply List.ext_getElem
  · rw [padB_len (by rw [mkOf_len]; exact hl)]; simp
  · intro i h1 h2
    have h3 := padB_getD (mkOf C f) i
    rw [List.getD_eq_getElem?_getD, List.getElem?_eq_getElem h2, Option.getD_some, mkOf_getD] at h3
    have h16 : i < 16 := by simpa using h1
    rw [h3]
    simp only [List.getElem_map, List.getElem_range]
    rw [isCD_pad h, decide_eq_true h16, Bool.true_and]
    split
    · rename_i hh; rw [decide_eq_true hh, Bool.true_and]
    · rename_i hh; rw [decide_eq_false hh]; rfl
/-- marked parts at which a function of the index tells the marks are valid -/
theorem vmk_mkOf {C : List Int} (h : valid C = true) (f : Nat → Bool) : vmk C (mkOf C f) = true := by
  refine vmk_iff.2 ⟨h, mkOf_len C f, fun i hi => ?_⟩
  unfold mkC
  rw [mkOf_getD, decide_eq_true hi, Bool.true_and]
  cases isC C i <;> simp
/-- the marks of the turned parts -/
def tnM (L : List Int) (bs : List Bool) : List Bool := mkOf (conj L) fun i => bs.getD ((conj L).getD i 0 - 1).toNat false
theorem pad_at {C : List Int} (h : valid C = true) {i : Nat} (hi : i < C.length) : ∃ hh : i < (pad C).length, (pad C)[i] = C.getD i 0 ∧ 1 ≤ C.getD i 0 ∧ C.getD i 0 ≤ 16 := by
  have hl := (valid_bd h).2.2.2
  refine ⟨by rw [pad_len hl]; omega, ?_, ?_, ?_⟩
  · rw [pad_get hl hi, List.getD_eq_getElem?_getD, List.getElem?_eq_getElem hi]; rfl
  · exact getD_pos h hi
  · rw [List.getD_eq_getElem?_getD, List.getElem?_eq_getElem hi]
    have := preS_of_valid h i hi hi
    exact this.2.1
theorem isCD_lt {C : List Int} (h : valid C = true) {i : Nat} (hc : isCD (pad C) i = true) : i < C.length := by
  rw [isCD_pad h] at hc
  split at hc
  · rename_i hh; exact hh
  · cases hc
end NP
end Go.Proofs.Ytbbbfaollcklkaa
