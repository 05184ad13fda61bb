/-
  Plain mathematics of piles in grids: what stands in the grid while it is turned, and while its rows are turned up; what the model reads.
-/
import Derived.Test.YtnheolhgdinjgaaM43
import Derived.Test.YtnheolhgdinjgaaArr5
namespace Go.Proofs.Ytnheolhgdinjgaa
namespace NP
theorem gridR_gD {LL : List (List Int)} (h : vpl LL = true) {a : Nat} (ha : a < 16) (hh : a < (gridR LL).length) : (gridR LL)[a] = pad (LL.getD a []) := by
  rcases Nat.lt_or_ge a LL.length with h1 | h1
  · rw [gridR_get h1 hh, gl_lt h1]
  · rw [gl_ge h1]
    apply Option.some.inj
    rw [← List.getElem?_eq_getElem]
    unfold gridR
    have := vpl_len h
    rw [List.getElem?_append_right (by rw [List.length_map]; exact h1), List.getElem?_replicate, if_pos (by rw [List.length_map]; omega)]
    rfl
theorem gridR_sq {LL : List (List Int)} (h : vpl LL = true) : Sq (gridR LL) := ⟨gridR_len (vpl_len h), gridR_rows (vpl_l16 h)⟩
theorem gridR_map {LL : List (List Int)} (h : vpl LL = true) : gridR LL = (List.range 16).map fun a => pad (LL.getD a []) := by
  apply List.ext_getElem
  · rw [gridR_len (vpl_len h)]; simp
  · intro a h1 h2
    rw [gridR_gD h (by simpa using h2) h1]
    simp
/-- the grid when i rows are turned, and k cells of the next -/
def accT (LL : List (List Int)) (i k : Nat) : List (List Int) := (List.range 16).map fun a => (List.range 16).map fun b => if b < i ∨ (b = i ∧ a < k) then gr LL b a else 0
theorem accT_sq (LL : List (List Int)) (i k : Nat) : Sq (accT LL i k) := by
  refine ⟨by simp [accT], fun L hL => ?_⟩
  obtain ⟨a, _, rfl⟩ := List.mem_map.1 hL
  simp
theorem accT_zero (LL : List (List Int)) : accT LL 0 0 = zsq := by
  have e : accT LL 0 0 = (List.range 16).map fun _ => (List.range 16).map fun _ => (0 : Int) := by
    unfold accT
    apply List.map_congr_left
    intro a _
    apply List.map_congr_left
    intro b _
    rw [if_neg (by omega)]
  rw [e]; rfl
theorem accT_set (LL : List (List Int)) {i k : Nat} (hh : k < (accT LL i k).length) : (accT LL i k).set k ((accT LL i k)[k].set i (gr LL i k)) = accT LL i (k + 1) := by
  apply List.ext_getElem
  · simp [accT]
  · intro a h1 h2
    have ha : a < 16 := by rw [(accT_sq LL i (k + 1)).1] at h2; exact h2
    rw [List.getElem_set]
    by_cases hka : k = a
    · subst hka
      rw [if_pos rfl]
      apply List.ext_getElem
      · simp [accT]
      · intro b h3 h4
        rw [List.getElem_set]
        have hb : b < 16 := by simpa [accT] using h4
        by_cases hib : i = b
        · subst hib; simp [accT]
        · rw [if_neg hib]
          simp only [accT, List.getElem_map, List.getElem_range]
          have : (b < i ∨ b = i ∧ k < k) ↔ (b < i ∨ b = i ∧ k < k + 1) := by omega
          simp only [this]
    · rw [if_neg hka]
      simp only [accT, List.getElem_map, List.getElem_range]
      apply List.map_congr_left
      intro b _
      have : (b < i ∨ b = i ∧ a < k) ↔ (b < i ∨ b = i ∧ a < k + 1) := by omega
      simp only [this]
theorem accT_next (LL : List (List Int)) (i : Nat) : accT LL i 16 = accT LL (i + 1) 0 := by
  unfold accT
  apply List.map_congr_left
  intro a ha
  apply List.map_congr_left
  intro b _
  have h1 : a < 16 := by simpa using ha
  have : (b < i ∨ b = i ∧ a < 16) ↔ (b < i + 1 ∨ b = i + 1 ∧ a < 0) := by omega
  simp only [this]
theorem pad_tab {L : List Int} (h : L.length ≤ 16) : pad L = (List.range 16).map fun b => L.getD b 0 := by
  apply List.ext_getElem
  · rw [pad_len h]; simp
  · intro b h1 h2
    have := pad_gD h b
    rw [List.getD_eq_getElem?_getD, List.getElem?_eq_getElem h1, Option.getD_some] at this
    rw [this]; simp
theorem accT_end {LL : List (List Int)} (h : vpl LL = true) : accT LL 16 0 = gridR (turnP LL) := by
  rw [gridR_map (vpl_turn h)]
  unfold accT
  apply List.map_congr_left
  intro a ha
  rw [pad_tab (by
    have := vpl_valid (vpl_turn h) a
    exact (valid_bd this).2.2.2)]
  apply List.map_congr_left
  intro b hb
  have h1 : b < 16 := by simpa using hb
  rw [if_pos (by omega)]
  exact (gr_turn h a b).symm
/-- the grid when k rows are turned up -/
def accU (LL : List (List Int)) (k : Nat) : List (List Int) := (List.range 16).map fun i => if i < k then pad (conj (LL.getD i [])) else pad (LL.getD i [])
theorem accU_len (LL : List (List Int)) (k : Nat) : (accU LL k).length = 16 := by simp [accU]
theorem accU_sq {LL : List (List Int)} (h : vpl LL = true) (k : Nat) : Sq (accU LL k) := by
  refine ⟨accU_len _ _, fun L hL => ?_⟩
  obtain ⟨a, _, rfl⟩ := List.mem_map.1 hL
  have hv := vpl_valid h a
  split
  · exact pad_len (valid_bd (valid_conj hv)).2.2.2
  · exact pad_len (valid_bd hv).2.2.2
theorem accU_zero {LL : List (List Int)} (h : vpl LL = true) : accU LL 0 = gridR LL := by
  rw [gridR_map h]
  unfold accU
  apply List.map_congr_left
  intro a _
  rw [if_neg (by omega)]
theorem accU_set (LL : List (List Int)) {k : Nat} (_hk : k < 16) : (accU LL k).set k (pad (conj (LL.getD k []))) = accU LL (k + 1) := by
  apply List.ext_getElem
  · simp [accU]
  · intro a h1 h2
    rw [List.getElem_set]
    by_cases hka : k = a
    · subst hka
      rw [if_pos rfl]; simp [accU]
    · rw [if_neg hka]
      simp only [accU, List.getElem_map, List.getElem_range]
      have : a < k ↔ a < k + 1 := by omega
      simp only [this]
theorem accU_end {LL : List (List Int)} (h : vpl LL = true) : accU LL 16 = gridR (upP LL) := by
  rw [gridR_map (vpl_up h)]
  unfold accU
  apply List.map_congr_left
  intro a ha
  rw [if_pos (by simpa using ha), up_getD]
/-- the sums of the first k rows of a grid -/
def prs (LL : List (List Int)) (k : Nat) : Int := sumL ((List.range k).map fun i => sumL (LL.getD i []))
theorem prs_succ (LL : List (List Int)) (k : Nat) : prs LL (k + 1) = prs LL k + sumL (LL.getD k []) := by
  unfold prs
  rw [List.range_succ, List.map_append, sumL_append]
  simp [sumL]
theorem prs_bd {LL : List (List Int)} (h : vpl LL = true) (k : Nat) : 0 ≤ prs LL k ∧ prs LL k ≤ 16 * k := by
  induction k with
  | zero => exact ⟨by simp [prs, sumL], by simp [prs, sumL]⟩
  | succ k ih =>
    have := valid_bd (vpl_valid h k)
    rw [prs_succ]
    omega
theorem s16_row {L : List Int} (h : valid L = true) : s16 (fun k => L.getD k 0) = sumL L := by
  have h1 := sum_lst (g := fun k => L.getD k 0) (fun i => (fal_of_valid h).nn i)
  rw [lst_valid h] at h1
  exact h1.symm
theorem prs_end {LL : List (List Int)} (h : vpl LL = true) : prs LL 16 = sumLL LL := by
  rw [sumLL_gr h]
  unfold prs s256
  show _ = sumL _
  congr 1
  apply List.map_congr_left
  intro a _
  exact (s16_row (vpl_valid h a)).symm
theorem take_more {LL : List (List Int)} {k : Nat} (h : LL.length ≤ k) : LL.take k = LL.take (k + 1) := by
  rw [List.take_of_length_le h, List.take_of_length_le (by omega)]
theorem row_pos {LL : List (List Int)} (h : vpl LL = true) (k : Nat) : (0 < sumL (LL.getD k [])) ↔ k < LL.length := by
  constructor
  · intro h1
    rcases Nat.lt_or_ge k LL.length with h2 | h2
    · exact h2
    · rw [gl_ge h2] at h1; simp [sumL] at h1
  · intro h1
    have h2 := ((vpl_iff.1 h).1 k h1)
    have := valid_ne_sum h2.1 h2.2.1
    omega
end NP
end Go.Proofs.Ytnheolhgdinjgaa
