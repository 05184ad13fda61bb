/-
  Plain mathematics of counts: how many parts have a sum, none greater than a number.
-/
import Derived.Test.YtcjnmconehfbgaaM3
namespace Go.Proofs.Ytcjnmconehfbgaa
namespace NP
set_option linter.unusedVariables false
/-- how many parts of n, none greater than k -/
def ct : Nat → Nat → Nat
  | 0, _ => 1
  | _ + 1, 0 => 0
  | n + 1, k + 1 => ct (n + 1) k + (if k ≤ n then ct (n - k) (k + 1) else 0)
termination_by n k => n + k
decreasing_by all_goals omega
theorem ct_zero (k : Nat) : ct 0 k = 1 := by unfold ct; rfl
theorem ct_none (n : Nat) (h : 0 < n) : ct n 0 = 0 := by
  cases n with
  | zero => omega
  | succ n => unfold ct; rfl
theorem ct_rec (n k : Nat) (hk : 1 ≤ k) (h : k ≤ n) : ct n k = ct n (k - 1) + ct (n - k) k := by
  cases n with
  | zero => omega
  | succ n =>
    cases k with
    | zero => omega
    | succ k =>
      rw [ct, if_pos (by omega)]
      simp
theorem ct_big (n k : Nat) (hk : 1 ≤ k) (h : n < k) : ct n k = ct n (k - 1) := by
  cases n with
  | zero => rw [ct_zero, ct_zero]
  | succ n =>
    cases k with
    | zero => omega
    | succ k =>
      rw [ct, if_neg (by omega)]
      simp
theorem ct_pow (m : Nat) : ∀ n k, n + k = m → 1 ≤ n → ct n k + 2 ^ (n - k) ≤ 2 ^ n := by
  induction m using Nat.strongRecOn with
  | _ m ih =>
    intro n k hm hn
    cases k with
    | zero => rw [ct_none n hn]; simp
    | succ k =>
      have i1 := ih (n + k) (by omega) n k rfl hn
      rcases Nat.lt_or_ge n (k + 1) with h | h
      · rw [ct_big n (k + 1) (by omega) h, Nat.add_sub_cancel]
        have e : n - (k + 1) = n - k := by omega
        rw [e]; exact i1
      · rw [ct_rec n (k + 1) (by omega) h, Nat.add_sub_cancel]
        have e1 : n - k = n - (k + 1) + 1 := by omega
        rw [e1, Nat.pow_succ] at i1
        rcases Nat.eq_zero_or_pos (n - (k + 1)) with h0 | h0
        · rw [h0, ct_zero]
          rw [h0] at i1
          omega
        · have i2 := ih (n - (k + 1) + (k + 1)) (by omega) (n - (k + 1)) (k + 1) rfl h0
          have := Nat.two_pow_pos (n - (k + 1) - (k + 1))
          omega
theorem ct_le (n k : Nat) (h : n ≤ 40) : ct n k ≤ 1099511627776 := by
  rcases Nat.eq_zero_or_pos n with rfl | h0
  · rw [ct_zero]; decide
  · have h1 := ct_pow _ n k rfl h0
    have h2 : 2 ^ n ≤ 2 ^ 40 := Nat.pow_le_pow_right (by decide) h
    have h3 : (2 : Nat) ^ 40 = 1099511627776 := by decide
    have h4 := Nat.two_pow_pos (n - k)
    omega
/-- counts when a further number may come -/
def wv (D : List Int) (p : Nat) (s : Nat) : Int := if h : p = 0 ∨ s < p then D.getD s 0 else D.getD s 0 + wv D p (s - p)
termination_by s
decreasing_by have := h; omega
theorem wv_low (D : List Int) (p s : Nat) (h : s < p) : wv D p s = D.getD s 0 := by rw [wv, dif_pos (.inr h)]
theorem wv_high (D : List Int) (p s : Nat) (hp : 1 ≤ p) (h : p ≤ s) : wv D p s = D.getD s 0 + wv D p (s - p) := by rw [wv, dif_neg (by omega)]
def wrow (D : List Int) (p : Nat) : List Int := (List.range 41).map (wv D p)
def wmid (D : List Int) (p l : Nat) : List Int := (List.range 41).map fun s => if s < p + l then wv D p s else D.getD s 0
theorem wrow_len (D : List Int) (p : Nat) : (wrow D p).length = 41 := by simp [wrow]
theorem wmid_len (D : List Int) (p l : Nat) : (wmid D p l).length = 41 := by simp [wmid]
theorem wmid_zero {D : List Int} (hD : D.length = 41) (p : Nat) : wmid D p 0 = D := by
  apply List.ext_getElem
  · rw [wmid_len, hD]
  · intro j h1 h2
    simp only [wmid, List.getElem_map, List.getElem_range]
    rw [← getD_lt h2]
    split
    · exact wv_low D p j (by omega)
    · rfl
theorem wmid_end (D : List Int) (p l : Nat) (h : 41 ≤ p + l) : wmid D p l = wrow D p := by
  apply List.map_congr_left
  intro s hs
  rw [List.mem_range] at hs
  rw [if_pos (by omega)]
theorem wmid_lo (D : List Int) (p l : Nat) (hp : 1 ≤ p) (h : l < 41) : (wmid D p l)[l]'(by rw [wmid_len]; exact h) = wv D p l := by
  simp only [wmid, List.getElem_map, List.getElem_range]
  rw [if_pos (by omega)]
theorem wmid_hi (D : List Int) (p l : Nat) (h : l + p < 41) : (wmid D p l)[l + p]'(by rw [wmid_len]; exact h) = D.getD (l + p) 0 := by
  simp only [wmid, List.getElem_map, List.getElem_range]
  rw [if_neg (by omega)]
theorem wmid_set (D : List Int) (p l : Nat) (hp : 1 ≤ p) (h : l + p < 41) : (wmid D p l).set (l + p) (D.getD (l + p) 0 + wv D p l) = wmid D p (l + 1) := by
  apply List.ext_getElem
  · rw [List.length_set, wmid_len, wmid_len]
  · intro j h1 h2
    by_cases hj : l + p = j
    · subst hj
      rw [List.getElem_set_self]
      simp only [wmid, List.getElem_map, List.getElem_range]
      rw [if_pos (by omega), wv_high D p (l + p) hp (by omega), Nat.add_sub_cancel]
    · rw [List.getElem_set_ne hj]
      simp only [wmid, List.getElem_map, List.getElem_range]
      split <;> split <;> first | rfl | omega
/-- the counts of all parts, none greater than k -/
def crow (k : Nat) : List Int := (List.range 41).map fun s => (ct s k : Int)
theorem crow_len (k : Nat) : (crow k).length = 41 := by simp [crow]
theorem crow_getD (k s : Nat) (h : s < 41) : (crow k).getD s 0 = ct s k := by rw [getD_lt (by rw [crow_len]; exact h)]; simp [crow]
theorem crow_get (k s : Nat) (h : s < (crow k).length) : (crow k)[s] = ct s k := by simp [crow]
theorem wv_crow (k : Nat) (s : Nat) (h : s < 41) : wv (crow k) (k + 1) s = ct s (k + 1) := by
  induction s using Nat.strongRecOn with
  | _ s ih =>
    rcases Nat.lt_or_ge s (k + 1) with h1 | h1
    · rw [wv_low _ _ _ h1, crow_getD _ _ h, ct_big s (k + 1) (by omega) h1]; rfl
    · rw [wv_high _ _ _ (by omega) h1, crow_getD _ _ h, ih (s - (k + 1)) (by omega) (by omega), ct_rec s (k + 1) (by omega) h1]
      simp
theorem wrow_crow (k : Nat) : wrow (crow k) (k + 1) = crow (k + 1) := by
  apply List.map_congr_left
  intro s hs
  rw [List.mem_range] at hs
  exact wv_crow k s hs
theorem crow_zero : crow 0 = 1 :: List.replicate 40 0 := by
  have e : ∀ n, (List.range (n + 1)).map (fun s => ((ct s 0 : Nat) : Int)) = 1 :: List.replicate n 0 := by
    intro n
    induction n with
    | zero => simp [ct_zero]
    | succ n ih => rw [List.range_succ, List.map_append, ih, List.replicate_succ', List.map_cons, List.map_nil, ct_none _ (by omega)]; rfl
  exact e 40
end NP
end Go.Proofs.Ytcjnmconehfbgaa
