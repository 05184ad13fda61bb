/-
  Plain mathematics of piles: what the model's loops make of them.
-/
import Derived.Test.YtnheolhgdinjgaaM44
namespace Go.Proofs.Ytnheolhgdinjgaa
namespace NP
theorem col_eq {g : Nat → Int} (h : Fal g) {M : List Int} (hM : ∀ i, M.getD i 0 = g i) : (M.filter fun x => decide (0 < x)) = lst g := by
  refine pos_ext (fun x hx => by simpa using (List.mem_filter.1 hx).2) (lst_pos g) (fun i => ?_)
  rw [lst_getD h, filt_getD M (fun x hx => ?_) (fun i j hij _ => by rw [hM, hM]; exact h.mono hij) i, hM]
  obtain ⟨j, hj, rfl⟩ := List.mem_iff_getElem.1 hx
  have := h.nn j
  rw [← hM, List.getD_eq_getElem?_getD, List.getElem?_eq_getElem hj] at this
  exact this
theorem map_gD (f : List Int → Int) (h0 : f [] = 0) (LL : List (List Int)) (i : Nat) : (LL.map f).getD i 0 = f (LL.getD i []) := by
  rcases Nat.lt_or_ge i LL.length with h | h
  · rw [gl_lt h, List.getD_eq_getElem?_getD, List.getElem?_eq_getElem (by simpa using h)]; simp
  · rw [gl_ge h, h0, List.getD_eq_getElem?_getD, List.getElem?_eq_none (by simpa using h)]; rfl
/-- the numbers with the index k of the rows that have one -/
def colS (LL : List (List Int)) (k : Nat) : List Int := (LL.filter fun L => decide (k < L.length)).map fun L => L.getD k 0
def turnS (LL : List (List Int)) : List (List Int) := (List.range (LL.getD 0 []).length).map (colS LL)
theorem pos_at {L : List Int} (h : valid L = true) (k : Nat) : (0 < L.getD k 0) ↔ k < L.length := by
  constructor
  · intro h1
    rcases Nat.lt_or_ge k L.length with h2 | h2
    · exact h2
    · rw [List.getD_eq_getElem?_getD, List.getElem?_eq_none h2] at h1; simp at h1
  · intro h1
    rw [List.getD_eq_getElem?_getD, List.getElem?_eq_getElem h1]
    exact valid_pos h _ (List.getElem_mem h1)
theorem colS_filt {LL : List (List Int)} (h : ∀ L ∈ LL, valid L = true) (k : Nat) : colS LL k = (LL.map fun L => L.getD k 0).filter fun x => decide (0 < x) := by
  unfold colS
  induction LL with
  | nil => rfl
  | cons L R ih =>
    have h1 := pos_at (h L (by simp)) k
    have h2 := ih fun M hM => h M (by simp [hM])
    rw [List.map_cons, List.filter_cons, List.filter_cons]
    by_cases hk : k < L.length
    · rw [if_pos (decide_eq_true hk), if_pos (decide_eq_true (h1.2 hk)), List.map_cons, h2]
    · rw [if_neg (by simpa using hk), if_neg (by have : ¬ 0 < L.getD k 0 := fun hh => hk (h1.1 hh); simpa using this), h2]
theorem colS_lst {LL : List (List Int)} (h : vpl LL = true) (k : Nat) : colS LL k = lst fun i => gr LL i k := by
  rw [colS_filt (vpl_each h)]
  exact col_eq ((pl_of h).col k) (map_gD (fun L => L.getD k 0) rfl LL)
theorem rowsM_getD (f : Nat → List Int) (n k : Nat) : ((List.range n).map f).getD k [] = if k < n then f k else [] := by
  rcases Nat.lt_or_ge k n with h | h
  · rw [if_pos h, List.getD_eq_getElem?_getD, List.getElem?_eq_getElem (by simpa using h)]; simp
  · rw [if_neg (by omega), List.getD_eq_getElem?_getD, List.getElem?_eq_none (by simpa using h)]; rfl
/-- rows told by their falling columns, as many as are not empty -/
theorem rows_pof {G : Nat → Nat → Int} (h : Pl G) (f : Nat → List Int) (n : Nat) (hf : ∀ k, k < n → f k = lst (G k)) (hn : ∀ k, k < n ↔ 0 < G k 0) : (List.range n).map f = pof G := by
  refine ne_ext (fun L hL => ?_) (pof_ne G) (fun k => ?_)
  · obtain ⟨k, hk, rfl⟩ := List.mem_map.1 hL
    have hk' : k < n := by simpa using hk
    rw [hf k hk']
    intro e
    have h1 := (lst_nil (h.row k)).1 e
    have h2 := (hn k).1 hk'
    omega
  · rw [rowsM_getD, pof_getD h]
    split
    · rename_i hk; exact hf k hk
    · rename_i hk
      have h1 := (h.row k).nn 0
      have h2 : ¬ 0 < G k 0 := fun hh => hk ((hn k).2 hh)
      exact ((lst_nil (h.row k)).2 (by omega)).symm
theorem turnS_eq {LL : List (List Int)} (h : vpl LL = true) : turnS LL = turnP LL := by
  refine rows_pof (pl_of h).turn (colS LL) _ (fun k _ => colS_lst h k) (fun k => ?_)
  exact (pos_at (vpl_valid h 0) k).symm
/-- how many numbers of each row are at least h, of those rows that have such -/
def layS (LL : List (List Int)) : List (List Int) := (List.range (gr LL 0 0).toNat).map fun (a : Nat) => (LL.map (cnt ((a : Int) + 1))).filter fun x => decide (0 < x)
theorem cnt_pos {L : List Int} (h : valid L = true) (a : Nat) : 0 < cnt ((a : Int) + 1) L ↔ (a : Int) < L.getD 0 0 := by
  have h1 := (pos_at (valid_conj h) a)
  rw [conj_gD h] at h1
  rw [h1, conj_len]
  have : L.headD 0 = L.getD 0 0 := by cases L <;> rfl
  rw [this]
  omega
theorem layS_eq {LL : List (List Int)} (h : vpl LL = true) : layS LL = layP LL := by
  have hu := pl_of (vpl_up h)
  have hg : ∀ i a, gr (upP LL) i a = cnt ((a : Int) + 1) (LL.getD i []) := fun i a => by
    show ((upP LL).getD i []).getD a 0 = _
    rw [up_getD, conj_gD (vpl_valid h i)]
  refine rows_pof hu.turn _ _ (fun a _ => ?_) (fun a => ?_)
  · exact col_eq (hu.col a) (fun i => by rw [map_gD _ rfl]; exact (hg i a).symm)
  · show _ ↔ 0 < gr (upP LL) 0 a
    rw [hg, cnt_pos (vpl_valid h 0)]
    have := (fal_of_valid (vpl_valid h 0)).nn 0
    show _ ↔ (a : Int) < gr LL 0 0
    omega
/-- columns of the first i rows -/
theorem colS_succ {LL : List (List Int)} {i : Nat} (hi : i < LL.length) (k : Nat) : colS (LL.take (i + 1)) k = colS (LL.take i) k ++ if k < LL[i].length then [LL[i].getD k 0] else [] := by
  unfold colS
  rw [List.take_succ_eq_append_getElem hi, List.filter_append, List.map_append]
  congr 1
  by_cases hk : k < LL[i].length
  · simp [hk]
  · simp [hk]
theorem colS_len (LL : List (List Int)) (k : Nat) : (colS LL k).length ≤ LL.length := by unfold colS; rw [List.length_map]; exact List.length_filter_le _ _
theorem colS_zero (LL : List (List Int)) (k : Nat) : colS (LL.take 0) k = [] := by simp [colS]
theorem turnS_take (LL : List (List Int)) (k : Nat) : (List.range (k + 1)).map (colS LL) = (List.range k).map (colS LL) ++ [colS LL k] := by
  rw [List.range_succ, List.map_append]; rfl
def layR (LL : List (List Int)) (a : Nat) : List Int := (LL.map (cnt ((a : Int) + 1))).filter fun x => decide (0 < x)
theorem layR_succ {LL : List (List Int)} {i : Nat} (hi : i < LL.length) (a : Nat) : layR (LL.take (i + 1)) a = layR (LL.take i) a ++ if 0 < cnt ((a : Int) + 1) LL[i] then [cnt ((a : Int) + 1) LL[i]] else [] := by
  unfold layR
  rw [List.take_succ_eq_append_getElem hi, List.map_append, List.filter_append]
  congr 1
  by_cases hk : 0 < cnt ((a : Int) + 1) LL[i]
  · simp [hk]
  · simp [hk]
theorem layR_len (LL : List (List Int)) (a : Nat) : (layR LL a).length ≤ LL.length := by
  unfold layR
  have := List.length_filter_le (fun x => decide (0 < x)) (LL.map (cnt ((a : Int) + 1)))
  rwa [List.length_map] at this
theorem layR_zero (LL : List (List Int)) (a : Nat) : layR (LL.take 0) a = [] := by simp [layR]
theorem layS_take (LL : List (List Int)) (k : Nat) : (List.range (k + 1)).map (layR LL) = (List.range k).map (layR LL) ++ [layR LL k] := by
  rw [List.range_succ, List.map_append]; rfl
theorem grid_gr {LL : List (List Int)} (h : vpl LL = true) (i k : Nat) : gr LL i k = ((gridR LL).getD i []).getD k 0 := by
  rcases Nat.lt_or_ge i 16 with hi | hi
  · have hh : i < (gridR LL).length := by rw [gridR_len (vpl_len h)]; exact hi
    rw [gl_lt hh, gridR_gD h hi hh, pad_gD (valid_bd (vpl_valid h i)).2.2.2]
    rfl
  · have h1 := vpl_len h
    show (LL.getD i []).getD k 0 = _
    rw [gl_ge (by omega), gl_ge (by rw [gridR_len h1]; exact hi)]
theorem gridR_inj {A B : List (List Int)} (ha : vpl A = true) (hb : vpl B = true) (h : gridR A = gridR B) : A = B :=
  vpl_ext ha hb fun i k => by rw [grid_gr ha, grid_gr hb, h]
/-- a pile is its turned one -/
def evF (LL : List (List Int)) : Bool := vpl LL && decide (turnP LL = LL)
theorem evF_no {LL : List (List Int)} (h : vpl LL = false) : evF LL = false := by simp [evF, h]
theorem evF_grid {LL : List (List Int)} (h : vpl LL = true) : decide (gridR LL = gridR (turnP LL)) = evF LL := by
  unfold evF
  rw [h, Bool.true_and]
  by_cases hh : turnP LL = LL
  · rw [hh]; simp
  · rw [decide_eq_false (fun e => hh (gridR_inj h (vpl_turn h) e).symm), decide_eq_false hh]
theorem flat_inj {A B : List (List Int)} (ha : Sq A) (hb : Sq B) (h : A.flatten = B.flatten) : A = B := by
  apply List.ext_getElem
  · rw [ha.1, hb.1]
  · intro i h1 h2
    rw [← flat_row ha.2 h1, ← flat_row hb.2 h2, h]
theorem vpl_badrow {LL : List (List Int)} {k : Nat} (hk : k < LL.length) (h : valid LL[k] = false ∨ LL[k] = []) : vpl LL = false := by
  cases hh : vpl LL with
  | false => rfl
  | true =>
    have h1 := (vpl_iff.1 hh).1 k hk
    unfold pgd at h1
    rw [gl_lt hk] at h1
    rcases h with h2 | h2
    · rw [h1.1] at h2; cases h2
    · exact absurd h2 h1.2.1
theorem vpl_badcell {LL : List (List Int)} {k m : Nat} (hk : k + 1 < LL.length) (h : (LL[k]'(by omega)).getD m 0 < LL[k + 1].getD m 0) : vpl LL = false := by
  cases hh : vpl LL with
  | false => rfl
  | true =>
    have h1 := ((vpl_iff.1 hh).1 (k + 1) hk).2.2 (by omega)
    rw [Nat.add_sub_cancel, gl_lt hk, gl_lt (by omega)] at h1
    have := (ins_iff.1 h1).2.2 m
    omega
theorem pgd_step {LL : List (List Int)} {k : Nat} (hk : k < LL.length) (h1 : valid LL[k] = true) (h2 : LL[k] ≠ []) (h3 : ∀ j (hj : k = j + 1), valid (LL[j]'(by omega)) = true ∧ ∀ m, m < LL[k].length → LL[k].getD m 0 ≤ (LL[j]'(by omega)).getD m 0) : pgd LL k := by
  unfold pgd
  rw [gl_lt hk]
  refine ⟨h1, h2, fun h0 => ?_⟩
  obtain ⟨j, rfl⟩ : ∃ j, k = j + 1 := ⟨k - 1, by omega⟩
  rw [Nat.add_sub_cancel, gl_lt (by omega)]
  obtain ⟨h4, h5⟩ := h3 j rfl
  refine ins_iff.2 ⟨h4, h1, fun i => ?_⟩
  rcases Nat.lt_or_ge i LL[j + 1].length with hi | hi
  · exact h5 i hi
  · have := (fal_of_valid h4).nn i
    rw [List.getD_eq_getElem?_getD (l := LL[j + 1]), List.getElem?_eq_none hi]
    exact this
theorem vpl_atEnd {LL : List (List Int)} (h : ∀ i, i < LL.length → pgd LL i) : vpl LL = decide (sumLL LL ≤ 16) := by
  unfold vpl
  rw [decide_eq_true h, Bool.true_and]
theorem vpl_long {LL : List (List Int)} (h : 16 < LL.length) : vpl LL = false := by
  cases hh : vpl LL with
  | false => rfl
  | true => have := vpl_len hh; omega
theorem sumLL_pbd {LL : List (List Int)} {k : Nat} (hk : k ≤ LL.length) (h : ∀ i, i < k → pgd LL i) : 0 ≤ sumLL (LL.take k) ∧ sumLL (LL.take k) ≤ 16 * k := by
  induction k with
  | zero => exact ⟨by simp [sumLL, sumL], by simp [sumLL, sumL]⟩
  | succ k ih =>
    have h1 := ih (by omega) fun i hi => h i (by omega)
    have h2 := (h k (by omega)).1
    rw [gl_lt (by omega)] at h2
    have := valid_bd h2
    rw [sumLL_succ (by omega)]
    omega
end NP
end Go.Proofs.Ytnheolhgdinjgaa
