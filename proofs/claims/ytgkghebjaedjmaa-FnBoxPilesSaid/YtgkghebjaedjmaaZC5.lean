/-
  Plain mathematics of piles: rows of parts on each other, turned, and in layers. Piles of the program: sixteen rows of sixteen in one block. Plain mathematics of piles in grids: what stands in the grid while it is turned, and while its rows are turned up; what the model reads. Plain mathematics of piles: what the model's loops make of them. Walks: the piles of the program: the sum, the list, turned, in layers.
-/
import Derived.Test.YtgkghebjaedjmaaZC1
import Derived.Test.YtgkghebjaedjmaaZC2
import Derived.Test.YtgkghebjaedjmaaZC3
import Derived.Test.YtgkghebjaedjmaaZC4
import Derived.Deep.MidRow
namespace Go.Proofs.Ytgkghebjaedjmaa
namespace NP
set_option linter.unusedVariables false
set_option linter.unusedSimpArgs false
/-- the positive ones of the first 16 numbers -/
def lst (g : Nat → Int) : List Int := ((List.range 16).map g).filter fun x => decide (0 < x)
/-- numbers fall, none below 0, and are 0 from the place 16 on -/
structure Fal (g : Nat → Int) : Prop where
  nn : ∀ i, 0 ≤ g i
  le : ∀ i, g (i + 1) ≤ g i
  z : ∀ i, 16 ≤ i → g i = 0
theorem Fal.mono {g : Nat → Int} (h : Fal g) {i j : Nat} (hij : i ≤ j) : g j ≤ g i := by
  obtain ⟨d, rfl⟩ := Nat.exists_eq_add_of_le hij
  induction d with
  | zero => exact Int.le_refl _
  | succ d ih => have := h.le (i + d); have := ih (by omega); have e : i + (d + 1) = i + d + 1 := by omega
                 rw [e]; omega
/-- what is positive stands ahead: taking the rest away changes nothing -/
theorem filt_getD (M : List Int) (hn : ∀ x ∈ M, 0 ≤ x) (hm : ∀ i j, i ≤ j → j < M.length → M.getD j 0 ≤ M.getD i 0) (i : Nat) : (M.filter fun x => decide (0 < x)).getD i 0 = M.getD i 0 := by
  induction M generalizing i with
  | nil => rfl
  | cons x R ih =>
    have hR : ∀ i j, i ≤ j → j < R.length → R.getD j 0 ≤ R.getD i 0 := fun i j h1 h2 => by
      have := hm (i + 1) (j + 1) (by omega) (by simp; omega)
      simpa using this
    have hnR : ∀ y ∈ R, 0 ≤ y := fun y hy => hn y (List.mem_cons_of_mem _ hy)
    by_cases hx : 0 < x
    · rw [List.filter_cons_of_pos (by simpa using hx)]
      cases i with
      | zero => rfl
      | succ i =>
        have := ih hnR hR i
        simpa using this
    · have hx0 : x = 0 := by have := hn x (List.mem_cons_self ..); omega
      have hall : ∀ y ∈ R, y = 0 := fun y hy => by
        obtain ⟨j, hj, rfl⟩ := List.mem_iff_getElem.1 hy
        have h1 := hm 0 (j + 1) (by omega) (by simp; omega)
        have h2 := hn R[j] (List.mem_cons_of_mem _ hy)
        simp at h1
        rw [List.getElem?_eq_getElem hj] at h1
        simp at h1
        omega
      have hf : (x :: R).filter (fun x => decide (0 < x)) = [] := by
        rw [List.filter_eq_nil_iff]
        intro y hy
        rcases List.mem_cons.1 hy with rfl | hy
        · simp; omega
        · have := hall y hy; simp; omega
      rw [hf]
      cases i with
      | zero => simp [hx0]
      | succ i =>
        show (0 : Int) = (x :: R).getD (i + 1) 0
        rcases Nat.lt_or_ge i R.length with h | h
        · have := hall R[i] (List.getElem_mem h)
          simp [List.getElem?_eq_getElem h, this]
        · simp [List.getElem?_eq_none h]
theorem map16_getD (g : Nat → Int) (hz : ∀ i, 16 ≤ i → g i = 0) (i : Nat) : ((List.range 16).map g).getD i 0 = g i := by
  rcases Nat.lt_or_ge i 16 with h | h
  · rw [getD_lt (by simp; exact h)]; simp
  · rw [getD_ge (by simp; exact h), hz i h]
theorem lst_getD {g : Nat → Int} (h : Fal g) (i : Nat) : (lst g).getD i 0 = g i := by
  unfold lst
  rw [filt_getD _ (fun x hx => by
      obtain ⟨j, -, rfl⟩ := List.mem_map.1 hx
      exact h.nn j) (fun i j hij hj => by rw [map16_getD g h.z, map16_getD g h.z]; exact h.mono hij), map16_getD g h.z]
theorem lst_pos (g : Nat → Int) : ∀ x ∈ lst g, 0 < x := fun x hx => by
  have := (List.mem_filter.1 hx).2
  simpa using this
theorem lst_len (g : Nat → Int) : (lst g).length ≤ 16 := by
  have := List.length_filter_le (fun x => decide (0 < x)) ((List.range 16).map g)
  unfold lst
  simpa using this
/-- positive numbers with the same ones at each place are the same -/
theorem pos_ext {A B : List Int} (ha : ∀ x ∈ A, 0 < x) (hb : ∀ x ∈ B, 0 < x) (h : ∀ i, A.getD i 0 = B.getD i 0) : A = B := by
  induction A generalizing B with
  | nil =>
    cases B with
    | nil => rfl
    | cons y R => have := h 0; have := hb y (List.mem_cons_self ..); simp at *; omega
  | cons x R ih =>
    cases B with
    | nil => have := h 0; have := ha x (List.mem_cons_self ..); simp at *; omega
    | cons y S =>
      have h0 := h 0
      simp at h0
      rw [h0, ih (fun z hz => ha z (List.mem_cons_of_mem _ hz)) (fun z hz => hb z (List.mem_cons_of_mem _ hz)) (fun i => by simpa using h (i + 1))]
theorem pad_gD {L : List Int} (h : L.length ≤ 16) (i : Nat) : (pad L).getD i 0 = L.getD i 0 := by
  unfold pad
  rcases Nat.lt_or_ge i L.length with h1 | h1
  · rw [getD_lt (by simp; omega), getD_lt h1, List.getElem_append_left h1]
  · rw [getD_ge h1]
    rcases Nat.lt_or_ge i 16 with h2 | h2
    · rw [getD_lt (by simp; omega), List.getElem_append_right h1]; simp
    · rw [getD_ge (by simp; omega)]
theorem list_ext16 {A B : List Int} (ha : A.length = 16) (hb : B.length = 16) (h : ∀ i, i < 16 → A.getD i 0 = B.getD i 0) : A = B := by
  apply List.ext_getElem (by omega)
  intro i h1 h2
  have := h i (by omega)
  rwa [getD_lt h1, getD_lt h2] at this
theorem pad_lst {g : Nat → Int} (h : Fal g) : pad (lst g) = (List.range 16).map g :=
  list_ext16 (pad_len (lst_len g)) (by simp) fun i _ => by rw [pad_gD (lst_len g), lst_getD h, map16_getD g h.z]
theorem fal_of_valid {L : List Int} (h : valid L = true) : Fal fun i => L.getD i 0 := by
  have hn := valid_nonneg h
  refine ⟨fun i => ?_, fun i => ?_, fun i hi => getD_ge (by have := (valid_bd h).2.2.2; omega)⟩
  · rcases Nat.lt_or_ge i L.length with h1 | h1
    · show 0 ≤ L.getD i 0
      rw [getD_lt h1]; exact hn _ (List.getElem_mem h1)
    · show 0 ≤ L.getD i 0
      rw [getD_ge h1]; exact Int.le_refl _
  · show L.getD (i + 1) 0 ≤ L.getD i 0
    rcases Nat.lt_or_ge (i + 1) L.length with h1 | h1
    · rw [getD_lt h1, getD_lt (by omega)]
      exact falls_all h (i + 1) i h1 (by omega)
    · rw [getD_ge h1]
      rcases Nat.lt_or_ge i L.length with h2 | h2
      · rw [getD_lt h2]; exact hn _ (List.getElem_mem h2)
      · rw [getD_ge h2]; exact Int.le_refl _
theorem valid_pos {L : List Int} (h : valid L = true) : ∀ x ∈ L, 0 < x := fun x hx => by
  obtain ⟨j, hj, rfl⟩ := List.mem_iff_getElem.1 hx
  have := (preS_of_valid h j hj hj).1
  omega
theorem lst_valid {L : List Int} (h : valid L = true) : lst (fun i => L.getD i 0) = L :=
  pos_ext (lst_pos _) (valid_pos h) fun i => lst_getD (fal_of_valid h) i
theorem sumL_nn {M : List Int} (h : ∀ x ∈ M, 0 ≤ x) : 0 ≤ sumL M := by
  induction M with
  | nil => exact Int.le_refl _
  | cons x R ih => have := ih (fun y hy => h y (List.mem_cons_of_mem _ hy)); have := h x (List.mem_cons_self ..); simp only [sumL]; omega
theorem sumL_mem {M : List Int} (h : ∀ x ∈ M, 0 ≤ x) {x : Int} (hx : x ∈ M) : x ≤ sumL M := by
  induction M with
  | nil => cases hx
  | cons y R ih =>
    have h1 := h y (List.mem_cons_self ..)
    have h2 := sumL_nn (M := R) (fun z hz => h z (List.mem_cons_of_mem _ hz))
    simp only [sumL]
    rcases List.mem_cons.1 hx with rfl | hx
    · omega
    · have := ih (fun z hz => h z (List.mem_cons_of_mem _ hz)) hx; omega
def s16 (g : Nat → Int) : Int := sumL ((List.range 16).map g)
theorem sumL_filter (M : List Int) (h : ∀ x ∈ M, 0 ≤ x) : sumL (M.filter fun x => decide (0 < x)) = sumL M := by
  induction M with
  | nil => rfl
  | cons x R ih =>
    have hi := ih (fun y hy => h y (List.mem_cons_of_mem _ hy))
    by_cases hx : 0 < x
    · rw [List.filter_cons_of_pos (by simpa using hx)]
      simp only [sumL, hi]
    · rw [List.filter_cons_of_neg (by simpa using hx)]
      have := h x (List.mem_cons_self ..)
      simp only [sumL, hi]
      omega
theorem sum_lst {g : Nat → Int} (h : ∀ i, 0 ≤ g i) : sumL (lst g) = s16 g := sumL_filter _ fun x hx => by
  obtain ⟨j, -, rfl⟩ := List.mem_map.1 hx
  exact h j
theorem valid_lst {g : Nat → Int} (h : Fal g) (hs : s16 g ≤ 16) : valid (lst g) = true := by
  refine valid_of_preS (fun j hj _ => ?_) (by rw [sum_lst h.nn]; exact hs)
  have h0 := lst_pos g _ (List.getElem_mem hj)
  have e : ∀ i (hi : i < (lst g).length), (lst g)[i] = g i := fun i hi => by rw [← getD_lt hi, lst_getD h]
  refine ⟨by omega, ?_, fun h1 => ?_⟩
  · have hsum := sumL_mem (M := (List.range 16).map g) (fun x hx => by
      obtain ⟨j, -, rfl⟩ := List.mem_map.1 hx
      exact h.nn j) (x := (lst g)[j]) ((List.mem_filter.1 (List.getElem_mem hj)).1)
    have : sumL ((List.range 16).map g) ≤ 16 := hs
    omega
  · rw [e j hj, e (j - 1) (by omega)]
    have := h.le (j - 1)
    have e2 : j - 1 + 1 = j := by omega
    rwa [e2] at this
/-- the number at a place of rows -/
def gr (LL : List (List Int)) (i k : Nat) : Int := (LL.getD i []).getD k 0
def sumLL (LL : List (List Int)) : Int := sumL (LL.map sumL)
def pgd (LL : List (List Int)) (i : Nat) : Prop := valid (LL.getD i []) = true ∧ LL.getD i [] ≠ [] ∧ (0 < i → ins (LL.getD (i - 1) []) (LL.getD i []) = true)
instance (LL : List (List Int)) (i : Nat) : Decidable (pgd LL i) := by unfold pgd; infer_instance
/-- rows are a pile -/
def vpl (LL : List (List Int)) : Bool := decide (∀ i, i < LL.length → pgd LL i) && decide (sumLL LL ≤ 16)
theorem vpl_iff {LL : List (List Int)} : vpl LL = true ↔ (∀ i, i < LL.length → pgd LL i) ∧ sumLL LL ≤ 16 := by
  unfold vpl
  rw [Bool.and_eq_true, decide_eq_true_eq, decide_eq_true_eq]
theorem gl_lt {LL : List (List Int)} {i : Nat} (h : i < LL.length) : LL.getD i [] = LL[i] := by rw [List.getD_eq_getElem?_getD, List.getElem?_eq_getElem h]; rfl
theorem gl_ge {LL : List (List Int)} {i : Nat} (h : LL.length ≤ i) : LL.getD i [] = [] := by rw [List.getD_eq_getElem?_getD, List.getElem?_eq_none h]; rfl
theorem valid_ne_sum {L : List Int} (h : valid L = true) (hn : L ≠ []) : 1 ≤ sumL L := by
  have := (valid_bd h).2.2.1
  have : 0 < L.length := List.length_pos_iff.2 hn
  omega
theorem pgd_sum {LL : List (List Int)} (h : ∀ i, i < LL.length → pgd LL i) : (LL.length : Int) ≤ sumLL LL := by
  have : ∀ (M : List (List Int)), (∀ L ∈ M, 1 ≤ sumL L) → (M.length : Int) ≤ sumLL M := by
    intro M
    induction M with
    | nil => intro _; exact Int.le_refl _
    | cons x R ih =>
      intro h
      have h1 := ih (fun L hL => h L (List.mem_cons_of_mem _ hL))
      have h2 := h x (List.mem_cons_self ..)
      simp [sumLL, sumL] at h1 ⊢
      omega
  refine this LL fun L hL => ?_
  obtain ⟨j, hj, rfl⟩ := List.mem_iff_getElem.1 hL
  have := h j hj
  unfold pgd at this
  rw [gl_lt hj] at this
  exact valid_ne_sum this.1 this.2.1
theorem vpl_len {LL : List (List Int)} (h : vpl LL = true) : LL.length ≤ 16 := by
  have := vpl_iff.1 h
  have := pgd_sum this.1
  omega
theorem vpl_valid {LL : List (List Int)} (h : vpl LL = true) (i : Nat) : valid (LL.getD i []) = true := by
  rcases Nat.lt_or_ge i LL.length with h1 | h1
  · exact ((vpl_iff.1 h).1 i h1).1
  · rw [gl_ge h1]; rfl
/-- the numbers of a pile fall both ways -/
structure Pl (G : Nat → Nat → Int) : Prop where
  row : ∀ i, Fal (G i)
  col : ∀ k, Fal fun i => G i k
theorem pl_of {LL : List (List Int)} (h : vpl LL = true) : Pl (gr LL) := by
  refine ⟨fun i => fal_of_valid (vpl_valid h i), fun k => ⟨fun i => (fal_of_valid (vpl_valid h i)).nn k, fun i => ?_, fun i hi => ?_⟩⟩
  · show (LL.getD (i + 1) []).getD k 0 ≤ (LL.getD i []).getD k 0
    rcases Nat.lt_or_ge (i + 1) LL.length with h1 | h1
    · have := ((vpl_iff.1 h).1 (i + 1) h1).2.2 (by omega)
      rw [Nat.add_sub_cancel] at this
      exact (ins_iff.1 this).2.2 k
    · rw [gl_ge h1]
      exact (fal_of_valid (vpl_valid h i)).nn k
  · show (LL.getD i []).getD k 0 = 0
    rw [gl_ge (by have := vpl_len h; omega)]; rfl
/-- the rows of numbers that fall both ways -/
def pilG (G : Nat → Nat → Int) : List (List Int) := ((List.range 16).map fun i => lst (G i)).filter fun L => !L.isEmpty
theorem filtE_getD (R : List (List Int)) (hm : ∀ i j, i ≤ j → R.getD i [] = [] → R.getD j [] = []) (i : Nat) : (R.filter fun L => !L.isEmpty).getD i [] = R.getD i [] := by
  induction R generalizing i with
  | nil => rfl
  | cons x S ih =>
    have hS : ∀ i j, i ≤ j → S.getD i [] = [] → S.getD j [] = [] := fun i j h1 h2 => by
      have := hm (i + 1) (j + 1) (by omega) (by simpa using h2)
      simpa using this
    cases hx : x.isEmpty with
    | false =>
      rw [List.filter_cons_of_pos (by simp [hx])]
      cases i with
      | zero => rfl
      | succ i => simpa using ih hS i
    | true =>
      have hx0 : x = [] := List.isEmpty_iff.1 hx
      have hall : ∀ j, S.getD j [] = [] := fun j => by
        have := hm 0 (j + 1) (by omega) (by simp [hx0])
        simpa using this
      have hf : (x :: S).filter (fun L => !L.isEmpty) = [] := by
        rw [List.filter_eq_nil_iff]
        intro y hy
        rcases List.mem_cons.1 hy with rfl | hy
        · simp [hx]
        · obtain ⟨j, hj, rfl⟩ := List.mem_iff_getElem.1 hy
          have := hall j
          rw [gl_lt hj] at this
          simp [this]
      rw [hf]
      cases i with
      | zero => simp [hx0]
      | succ i => have := hall i; simp at this ⊢; rw [this]
theorem lst_nil {g : Nat → Int} (h : Fal g) : lst g = [] ↔ g 0 = 0 := by
  constructor
  · intro e
    have := lst_getD h 0
    rw [e] at this
    simpa using this.symm
  · intro e
    refine pos_ext (lst_pos g) (by simp) fun i => ?_
    rw [lst_getD h]
    have h1 := h.mono (Nat.zero_le i)
    have h2 := h.nn i
    simp
    omega
theorem rows_getD (G : Nat → Nat → Int) (hz : ∀ i, 16 ≤ i → lst (G i) = []) (i : Nat) : ((List.range 16).map fun i => lst (G i)).getD i [] = lst (G i) := by
  rcases Nat.lt_or_ge i 16 with h | h
  · rw [gl_lt (by simp; exact h)]; simp
  · rw [gl_ge (by simp; exact h), hz i h]
theorem pilG_getD {G : Nat → Nat → Int} (h : Pl G) (i : Nat) : (pilG G).getD i [] = lst (G i) := by
  have hz : ∀ i, 16 ≤ i → lst (G i) = [] := fun i hi => (lst_nil (h.row i)).2 ((h.col 0).z i hi)
  unfold pilG
  rw [filtE_getD _ (fun i j hij he => ?_), rows_getD G hz]
  rw [rows_getD G hz] at he ⊢
  rw [lst_nil (h.row _)] at he ⊢
  have h1 : G j 0 ≤ G i 0 := (h.col 0).mono hij
  have h2 : 0 ≤ G j 0 := (h.col 0).nn j
  omega
theorem gr_pof {G : Nat → Nat → Int} (h : Pl G) (i k : Nat) : gr (pilG G) i k = G i k := by
  unfold gr
  rw [pilG_getD h, lst_getD (h.row i)]
theorem pilG_len (G : Nat → Nat → Int) : (pilG G).length ≤ 16 := by
  have := List.length_filter_le (fun L : List Int => !L.isEmpty) ((List.range 16).map fun i => lst (G i))
  unfold pilG
  simpa using this
theorem pilG_ne (G : Nat → Nat → Int) : ∀ L ∈ pilG G, L ≠ [] := fun L hL => by
  have := (List.mem_filter.1 hL).2
  simpa using this
/-- rows that are never empty, with the same rows at each place, are the same -/
theorem ne_ext {A B : List (List Int)} (ha : ∀ L ∈ A, L ≠ []) (hb : ∀ L ∈ B, L ≠ []) (h : ∀ i, A.getD i [] = B.getD i []) : A = B := by
  induction A generalizing B with
  | nil =>
    cases B with
    | nil => rfl
    | cons y R => have := h 0; exact absurd (by simpa using this.symm) (hb y (List.mem_cons_self ..))
  | cons x R ih =>
    cases B with
    | nil => have := h 0; exact absurd (by simpa using this) (ha x (List.mem_cons_self ..))
    | cons y S =>
      have h0 := h 0
      simp at h0
      rw [h0, ih (fun z hz => ha z (List.mem_cons_of_mem _ hz)) (fun z hz => hb z (List.mem_cons_of_mem _ hz)) (fun i => by simpa using h (i + 1))]
theorem vpl_ne {LL : List (List Int)} (h : vpl LL = true) : ∀ L ∈ LL, L ≠ [] := fun L hL => by
  obtain ⟨j, hj, rfl⟩ := List.mem_iff_getElem.1 hL
  have := ((vpl_iff.1 h).1 j hj).2.1
  rwa [gl_lt hj] at this
theorem pilG_gr {LL : List (List Int)} (h : vpl LL = true) : pilG (gr LL) = LL :=
  ne_ext (pilG_ne _) (vpl_ne h) fun i => by rw [pilG_getD (pl_of h)]; exact lst_valid (vpl_valid h i)
def s256 (G : Nat → Nat → Int) : Int := s16 fun i => s16 (G i)
theorem sumLL_filter (R : List (List Int)) : sumLL (R.filter fun L => !L.isEmpty) = sumLL R := by
  induction R with
  | nil => rfl
  | cons x S ih =>
    cases hx : x.isEmpty with
    | false => rw [List.filter_cons_of_pos (by simp [hx])]; simp [sumLL, sumL] at ih ⊢; omega
    | true => rw [List.filter_cons_of_neg (by simp [hx]), List.isEmpty_iff.1 hx]; simp [sumLL, sumL] at ih ⊢; omega
theorem sumLL_pof {G : Nat → Nat → Int} (h : Pl G) : sumLL (pilG G) = s256 G := by
  unfold pilG
  rw [sumLL_filter]
  unfold sumLL s256
  rw [List.map_map]
  show sumL ((List.range 16).map fun i => sumL (lst (G i))) = sumL ((List.range 16).map fun i => s16 (G i))
  congr 1
  apply List.map_congr_left
  intro i _
  exact sum_lst (h.row i).nn
theorem s16_nn {g : Nat → Int} (h : ∀ i, 0 ≤ g i) : 0 ≤ s16 g := sumL_nn fun x hx => by
  obtain ⟨j, -, rfl⟩ := List.mem_map.1 hx
  exact h j
theorem s16_le {g : Nat → Int} (h : ∀ i, 0 ≤ g i) {i : Nat} (hi : i < 16) : g i ≤ s16 g := sumL_mem (fun x hx => by
  obtain ⟨j, -, rfl⟩ := List.mem_map.1 hx
  exact h j) (List.mem_map.2 ⟨i, List.mem_range.2 hi, rfl⟩)
theorem vpl_pof {G : Nat → Nat → Int} (h : Pl G) (hs : s256 G ≤ 16) : vpl (pilG G) = true := by
  have hrow : ∀ i, s16 (G i) ≤ 16 := fun i => by
    rcases Nat.lt_or_ge i 16 with hi | hi
    · have h1 : s16 (G i) ≤ s256 G := s16_le (g := fun i => s16 (G i)) (fun i => s16_nn (h.row i).nn) hi
      omega
    · have hz : ∀ k, G i k = 0 := fun k => (h.col k).z i hi
      have : s16 (G i) = 0 := by
        unfold s16
        rw [List.map_congr_left (g := fun _ => (0 : Int)) (fun k _ => hz k)]
        decide
      omega
  have hv : ∀ i, valid (lst (G i)) = true := fun i => valid_lst (h.row i) (hrow i)
  refine vpl_iff.2 ⟨fun i hi => ⟨by rw [pilG_getD h]; exact hv i, ?_, fun h0 => ?_⟩, by rw [sumLL_pof h]; exact hs⟩
  · rw [gl_lt hi]
    exact pilG_ne G _ (List.getElem_mem hi)
  · rw [pilG_getD h, pilG_getD h]
    refine ins_iff.2 ⟨hv _, hv _, fun k => ?_⟩
    rw [lst_getD (h.row _), lst_getD (h.row _)]
    have := (h.col k).le (i - 1)
    have e : i - 1 + 1 = i := by omega
    rw [e] at this
    exact this
/-- rows and columns exchanged -/
def turnP (LL : List (List Int)) : List (List Int) := pilG fun a i => gr LL i a
theorem Pl.turn {G : Nat → Nat → Int} (h : Pl G) : Pl fun a i => G i a := ⟨h.col, h.row⟩
theorem sumL_addF (n : Nat) (f g : Nat → Int) : sumL ((List.range n).map fun i => f i + g i) = sumL ((List.range n).map f) + sumL ((List.range n).map g) := by
  induction n with
  | zero => rfl
  | succ n ih =>
    rw [List.range_succ, List.map_append, List.map_append, List.map_append, sumL_append, sumL_append, sumL_append, ih]
    simp [sumL]
    omega
theorem sum_swap (n m : Nat) (F : Nat → Nat → Int) : sumL ((List.range n).map fun i => sumL ((List.range m).map fun k => F i k)) = sumL ((List.range m).map fun k => sumL ((List.range n).map fun i => F i k)) := by
  induction n with
  | zero =>
    simp only [List.range_zero, List.map_nil, sumL]
    have : ∀ m, sumL ((List.range m).map fun _ => (0 : Int)) = 0 := by
      intro m
      induction m with
      | zero => rfl
      | succ m ih => rw [List.range_succ, List.map_append, sumL_append, ih]; rfl
    exact (this m).symm
  | succ n ih =>
    rw [List.range_succ, List.map_append, sumL_append, ih]
    have e : (fun k => sumL ((List.range n ++ [n]).map fun i => F i k)) = fun k => sumL ((List.range n).map fun i => F i k) + F n k := by
      funext k
      rw [List.map_append, sumL_append]
      simp [sumL]
    rw [e, sumL_addF]
    simp [sumL]
theorem s256_turn (G : Nat → Nat → Int) : s256 (fun a i => G i a) = s256 G := sum_swap 16 16 fun a i => G i a
theorem sumLL_gr {LL : List (List Int)} (h : vpl LL = true) : sumLL LL = s256 (gr LL) := by
  have := sumLL_pof (pl_of h)
  rwa [pilG_gr h] at this
theorem vpl_turn {LL : List (List Int)} (h : vpl LL = true) : vpl (turnP LL) = true :=
  vpl_pof (pl_of h).turn (by rw [s256_turn, ← sumLL_gr h]; exact (vpl_iff.1 h).2)
theorem gr_turn {LL : List (List Int)} (h : vpl LL = true) (a i : Nat) : gr (turnP LL) a i = gr LL i a := gr_pof (pl_of h).turn a i
theorem sum_turn {LL : List (List Int)} (h : vpl LL = true) : sumLL (turnP LL) = sumLL LL := by
  rw [sumLL_gr (vpl_turn h), sumLL_gr h]
  show s256 (fun a i => gr (turnP LL) a i) = _
  simp only [gr_turn h]
  exact s256_turn _
/-- piles with the same numbers are the same -/
theorem vpl_ext {A B : List (List Int)} (ha : vpl A = true) (hb : vpl B = true) (h : ∀ i k, gr A i k = gr B i k) : A = B := by
  rw [← pilG_gr ha, ← pilG_gr hb]
  congr 1
  funext i k
  exact h i k
theorem turn_turn {LL : List (List Int)} (h : vpl LL = true) : turnP (turnP LL) = LL :=
  vpl_ext (vpl_turn (vpl_turn h)) h fun i k => by rw [gr_turn (vpl_turn h), gr_turn h]
/-- each row turned up -/
def upP (LL : List (List Int)) : List (List Int) := LL.map conj
theorem up_getD (LL : List (List Int)) (i : Nat) : (upP LL).getD i [] = conj (LL.getD i []) := by
  unfold upP
  rcases Nat.lt_or_ge i LL.length with h | h
  · rw [gl_lt (by simpa using h), gl_lt h]; simp
  · rw [gl_ge (by simpa using h), gl_ge h]; rfl
theorem vpl_up {LL : List (List Int)} (h : vpl LL = true) : vpl (upP LL) = true := by
  have hv := vpl_valid h
  refine vpl_iff.2 ⟨fun i hi => ?_, ?_⟩
  · have hi' : i < LL.length := by simpa [upP] using hi
    have h1 := (vpl_iff.1 h).1 i hi'
    refine ⟨by rw [up_getD]; exact valid_conj (hv i), ?_, fun h0 => ?_⟩
    · rw [up_getD]
      intro e
      have := (conj_nil_iff (hv i)).1 (by rw [e]; rfl)
      exact h1.2.1 (List.eq_nil_of_length_eq_zero this)
    · rw [up_getD, up_getD]
      exact ins_conj_le (h1.2.2 h0)
  · have e : sumLL (upP LL) = sumLL LL := by
      unfold sumLL upP
      rw [List.map_map]
      congr 1
      apply List.map_congr_left
      intro L hL
      obtain ⟨j, hj, rfl⟩ := List.mem_iff_getElem.1 hL
      have := hv j
      rw [gl_lt hj] at this
      exact sumL_conj this
    rw [e]
    exact (vpl_iff.1 h).2
theorem sum_up {LL : List (List Int)} (h : vpl LL = true) : sumLL (upP LL) = sumLL LL := by
  unfold sumLL upP
  rw [List.map_map]
  congr 1
  apply List.map_congr_left
  intro L hL
  obtain ⟨j, hj, rfl⟩ := List.mem_iff_getElem.1 hL
  have := vpl_valid h j
  rw [gl_lt hj] at this
  exact sumL_conj this
theorem conj_gD {L : List Int} (h : valid L = true) (j : Nat) : (conj L).getD j 0 = cnt ((j : Int) + 1) L := by
  rcases Nat.lt_or_ge j (conj L).length with h1 | h1
  · rw [getD_lt h1, conj_get]
  · rw [getD_ge h1, cnt_none]
    intro x hx
    rw [conj_len] at h1
    have h2 := head_ge h x hx
    have h3 := headD_bd h
    omega
/-- the layers of a pile -/
def layP (LL : List (List Int)) : List (List Int) := turnP (upP LL)
theorem vpl_lay {LL : List (List Int)} (h : vpl LL = true) : vpl (layP LL) = true := vpl_turn (vpl_up h)
theorem sum_lay {LL : List (List Int)} (h : vpl LL = true) : sumLL (layP LL) = sumLL LL := by unfold layP; rw [sum_turn (vpl_up h), sum_up h]
theorem gr_lay {LL : List (List Int)} (h : vpl LL = true) (a i : Nat) : gr (layP LL) a i = cnt ((a : Int) + 1) (LL.getD i []) := by
  unfold layP
  rw [gr_turn (vpl_up h)]
  unfold gr
  rw [up_getD, conj_gD (vpl_valid h i)]
/-- a cube of the pile is a cube of its layers, its places moved round -/
theorem cube_lay {LL : List (List Int)} (h : vpl LL = true) (i k a : Nat) : ((k : Int) + 1 ≤ gr (layP LL) a i) ↔ ((a : Int) + 1 ≤ gr LL i k) := by
  rw [gr_lay h]
  unfold gr
  have hv := vpl_valid h i
  rcases Nat.lt_or_ge k (LL.getD i []).length with hk | hk
  · rw [getD_lt hk]
    exact cnt_ge_iff hv hk _
  · rw [getD_ge hk]
    have := (cnt_bd ((a : Int) + 1) (LL.getD i [])).2
    omega
theorem lay3 {LL : List (List Int)} (h : vpl LL = true) : layP (layP (layP LL)) = LL := by
  have h1 := vpl_lay h
  have h2 := vpl_lay h1
  have h3 := vpl_lay h2
  refine vpl_ext h3 h fun i k => ?_
  have n1 := ((pl_of h3).row i).nn k
  have n2 := ((pl_of h).row i).nn k
  have key : ∀ a : Nat, ((a : Int) + 1 ≤ gr (layP (layP (layP LL))) i k) ↔ ((a : Int) + 1 ≤ gr LL i k) := fun a => by
    rw [cube_lay h2, cube_lay h1, cube_lay h]
  obtain ⟨x, hx⟩ := Int.eq_ofNat_of_zero_le n1
  obtain ⟨y, hy⟩ := Int.eq_ofNat_of_zero_le n2
  rw [hx, hy] at key ⊢
  rcases Nat.lt_trichotomy x y with h4 | h4 | h4
  · have := (key x).2 (by omega); omega
  · rw [h4]
  · have := (key y).1 (by omega); omega
theorem take_getD {LL : List (List Int)} {k i : Nat} (h : i < k) : (LL.take k).getD i [] = LL.getD i [] := by
  rw [List.getD_eq_getElem?_getD, List.getD_eq_getElem?_getD, List.getElem?_take, if_pos h]
theorem sumLL_append (A B : List (List Int)) : sumLL (A ++ B) = sumLL A + sumLL B := by unfold sumLL; rw [List.map_append, sumL_append]
theorem sumLL_succ {LL : List (List Int)} {k : Nat} (h : k < LL.length) : sumLL (LL.take (k + 1)) = sumLL (LL.take k) + sumL LL[k] := by
  rw [List.take_succ_eq_append_getElem h, sumLL_append]
  simp [sumLL, sumL]
theorem vpl_nil : vpl [] = true := by decide
theorem pgd_take {LL : List (List Int)} {k i : Nat} (h : i < k) : pgd (LL.take k) i ↔ pgd LL i := by
  unfold pgd
  rw [take_getD h]
  constructor
  · rintro ⟨h1, h2, h3⟩
    exact ⟨h1, h2, fun h0 => by have := h3 h0; rwa [take_getD (by omega)] at this⟩
  · rintro ⟨h1, h2, h3⟩
    exact ⟨h1, h2, fun h0 => by rw [take_getD (by omega)]; exact h3 h0⟩
theorem vpl_next {LL : List (List Int)} {k : Nat} (hk : k < LL.length) (h : vpl (LL.take k) = true) (h1 : valid LL[k] = true) (h2 : LL[k] ≠ []) (h3 : 0 < k → ins (LL.getD (k - 1) []) LL[k] = true) (h4 : sumL LL[k] ≤ 16 - sumLL (LL.take k)) : vpl (LL.take (k + 1)) = true := by
  refine vpl_iff.2 ⟨fun i hi => ?_, by rw [sumLL_succ hk]; omega⟩
  have hi' : i < k + 1 := by rw [List.length_take] at hi; omega
  rw [pgd_take hi']
  rcases Nat.lt_or_ge i k with h5 | h5
  · have := (vpl_iff.1 h).1 i (by rw [List.length_take]; omega)
    rwa [pgd_take h5] at this
  · obtain rfl : i = k := by omega
    unfold pgd
    rw [gl_lt hk]
    exact ⟨h1, h2, h3⟩
theorem pgd_nn {LL : List (List Int)} (h : ∀ i, i < LL.length → pgd LL i) : 0 ≤ sumLL LL := by have := pgd_sum h; omega
theorem vpl_take {LL : List (List Int)} (h : vpl LL = true) (k : Nat) : vpl (LL.take k) = true := by
  have h0 := vpl_iff.1 h
  refine vpl_iff.2 ⟨fun i hi => ?_, ?_⟩
  · rw [List.length_take] at hi
    rw [pgd_take (by omega)]
    exact h0.1 i (by omega)
  · have e : sumLL LL = sumLL (LL.take k) + sumLL (LL.drop k) := by rw [← sumLL_append, List.take_append_drop]
    have : 0 ≤ sumLL (LL.drop k) := sumL_nn fun x hx => by
      obtain ⟨L, hL, rfl⟩ := List.mem_map.1 hx
      obtain ⟨j, hj, rfl⟩ := List.mem_iff_getElem.1 (List.mem_of_mem_drop hL)
      have := vpl_valid h j
      rw [gl_lt hj] at this
      exact (valid_bd this).1
    omega
theorem vpl_stop {LL : List (List Int)} {k : Nat} (hk : k < LL.length) (hn : ¬ (valid LL[k] = true ∧ LL[k] ≠ [] ∧ sumL LL[k] ≤ 16 - sumLL (LL.take k) ∧ (0 < k → ins (LL.getD (k - 1) []) LL[k] = true))) : vpl LL = false := by
  cases h : vpl LL with
  | false => rfl
  | true =>
    exfalso
    apply hn
    have h1 := (vpl_iff.1 h).1 k hk
    unfold pgd at h1
    rw [gl_lt hk] at h1
    have h2 := (vpl_iff.1 (vpl_take h (k + 1))).2
    rw [sumLL_succ hk] at h2
    exact ⟨h1.1, h1.2.1, by omega, h1.2.2⟩
theorem vpl_sum {LL : List (List Int)} (h : vpl LL = true) : 0 ≤ sumLL LL ∧ sumLL LL ≤ 16 ∧ (LL.length : Int) ≤ sumLL LL := by
  have h0 := vpl_iff.1 h
  have := pgd_sum h0.1
  omega
/-- a pile's rows as sixteen rows of sixteen -/
def zsq : List (List Int) := List.replicate 16 (List.replicate 16 0)
def gridR (LL : List (List Int)) : List (List Int) := LL.map pad ++ List.replicate (16 - LL.length) (List.replicate 16 0)
def gridV (LL : List (List Int)) : List (List Int) := if vpl LL then gridR LL else zsq
theorem gridR_nil : gridR [] = zsq := rfl
theorem gridR_len {LL : List (List Int)} (h : LL.length ≤ 16) : (gridR LL).length = 16 := by unfold gridR; simp; omega
theorem gridR_rows {LL : List (List Int)} (h : ∀ L ∈ LL, L.length ≤ 16) : ∀ L ∈ gridR LL, L.length = 16 := fun L hL => by
  unfold gridR at hL
  rcases List.mem_append.1 hL with h1 | h1
  · obtain ⟨M, hM, rfl⟩ := List.mem_map.1 h1
    exact pad_len (h M hM)
  · rw [(List.mem_replicate.1 h1).2]; simp
theorem gridR_set {LL : List (List Int)} {k : Nat} (hk : k < LL.length) (h16 : k < 16) : (gridR (LL.take k)).set k (pad LL[k]) = gridR (LL.take (k + 1)) := by
  unfold gridR
  have e1 : (LL.take k).length = k := by rw [List.length_take]; omega
  have e2 : (LL.take (k + 1)).length = k + 1 := by rw [List.length_take]; omega
  rw [e1, e2, List.set_append_right _ _ (by rw [List.length_map, e1]; exact Nat.le_refl _), List.length_map, e1, Nat.sub_self, show 16 - k = (16 - (k + 1)) + 1 by omega, List.replicate_succ, List.set_cons_zero, List.take_succ_eq_append_getElem hk, List.map_append]
  simp
theorem gridR_get {LL : List (List Int)} {i : Nat} (hi : i < LL.length) (h : i < (gridR LL).length) : (gridR LL)[i] = pad LL[i] := by
  apply Option.some.inj
  rw [← List.getElem?_eq_getElem]
  unfold gridR
  rw [List.getElem?_append_left (by rw [List.length_map]; exact hi)]
  simp [hi]
theorem vpl_each {LL : List (List Int)} (h : vpl LL = true) : ∀ L ∈ LL, valid L = true := fun L hL => by
  obtain ⟨j, hj, rfl⟩ := List.mem_iff_getElem.1 hL
  have := vpl_valid h j
  rwa [gl_lt hj] at this
theorem vpl_l16 {LL : List (List Int)} (h : vpl LL = true) : ∀ L ∈ LL, L.length ≤ 16 := fun L hL => (valid_bd (vpl_each h L hL)).2.2.2
theorem gridV_len (LL : List (List Int)) : (gridV LL).length = 16 := by
  unfold gridV
  split
  · rename_i h; exact gridR_len (vpl_len h)
  · rfl
theorem gridV_rows (LL : List (List Int)) : ∀ L ∈ gridV LL, L.length = 16 := by
  unfold gridV
  split
  · rename_i h; exact gridR_rows (vpl_l16 h)
  · intro L hL; rw [(List.mem_replicate.1 hL).2]; simp
end NP
end Go.Proofs.Ytgkghebjaedjmaa
namespace Go.Proofs.Ytgkghebjaedjmaa
open Go.RowKit NP
set_option maxRecDepth 100000
theorem Blk.rangeP {w : World} {g : Nat} {t : TypeId} {R : List (List Int)} (h : Blk w g t (arr R.flatten)) (hR : ∀ L ∈ R, L.length = 16) {j : Nat} (hj : j < R.length) : w.rangeAt g (16 * j) (ints R[j]) := fun i v hv => by
  have hi : i < R[j].length := by have := (List.getElem?_eq_some_iff.1 hv).1; simpa using this
  have hi16 : i < 16 := by rw [hR _ (List.getElem_mem hj)] at hi; exact hi
  rw [h.cell (16 * j + i)]
  have hg := flat_get hR hj hi16
  simp only [arr, ints, List.getElem?_toArray, List.getElem?_map] at hv ⊢
  rw [hg]
  exact hv
theorem Blk.rangeQ {w : World} {g : Nat} {t : TypeId} {vs : List Value} (h : Blk w g t vs.toArray) : w.rangeAt g 0 vs := fun j v hv => by
  rw [Nat.zero_add, h.cell j]; simpa using hv
theorem zsq_rows : ∀ L ∈ zsq, L.length = 16 := fun L hL => by rw [(List.mem_replicate.1 hL).2]; simp
theorem T_info256 : (Try.prog.info? 76).map (·.size) = some 256 := by kernel_rfl
theorem T_zc : Try.zeroCells76 = arr zsq.flatten := by kernel_rfl
end Go.Proofs.Ytgkghebjaedjmaa
namespace Go.Proofs.Ytgkghebjaedjmaa
namespace NP
theorem gridR_gD {LL : List (List Int)} (h : vpl LL = true) {a : Nat} (ha : a < 16) (hh : a < (gridR LL).length) : (gridR LL)[a] = pad (LL.getD a []) := by
  rcases Nat.lt_or_ge a LL.length with h1 | h1
  · rw [gridR_get h1 hh, gl_lt h1]
  · rw [gl_ge h1]
    apply Option.some.inj
    rw [← List.getElem?_eq_getElem]
    unfold gridR
    have := vpl_len h
    rw [List.getElem?_append_right (by rw [List.length_map]; exact h1), List.getElem?_replicate, if_pos (by rw [List.length_map]; omega)]
    rfl
theorem gridR_sq {LL : List (List Int)} (h : vpl LL = true) : Sq (gridR LL) := ⟨gridR_len (vpl_len h), gridR_rows (vpl_l16 h)⟩
theorem gridR_map {LL : List (List Int)} (h : vpl LL = true) : gridR LL = (List.range 16).map fun a => pad (LL.getD a []) := by
  apply List.ext_getElem
  · rw [gridR_len (vpl_len h)]; simp
  · intro a h1 h2
    rw [gridR_gD h (by simpa using h2) h1]
    simp
/-- the grid when i rows are turned, and k cells of the next -/
def accT (LL : List (List Int)) (i k : Nat) : List (List Int) := (List.range 16).map fun a => (List.range 16).map fun b => if b < i ∨ (b = i ∧ a < k) then gr LL b a else 0
theorem accT_sq (LL : List (List Int)) (i k : Nat) : Sq (accT LL i k) := by
  refine ⟨by simp [accT], fun L hL => ?_⟩
  obtain ⟨a, _, rfl⟩ := List.mem_map.1 hL
  simp
theorem accT_zero (LL : List (List Int)) : accT LL 0 0 = zsq := by
  have e : accT LL 0 0 = (List.range 16).map fun _ => (List.range 16).map fun _ => (0 : Int) := by
    unfold accT
    apply List.map_congr_left
    intro a _
    apply List.map_congr_left
    intro b _
    rw [if_neg (by omega)]
  rw [e]; rfl
theorem accT_set (LL : List (List Int)) {i k : Nat} (hh : k < (accT LL i k).length) : (accT LL i k).set k ((accT LL i k)[k].set i (gr LL i k)) = accT LL i (k + 1) := by
  apply List.ext_getElem
  · simp [accT]
  · intro a h1 h2
    have ha : a < 16 := by rw [(accT_sq LL i (k + 1)).1] at h2; exact h2
    rw [List.getElem_set]
    by_cases hka : k = a
    · subst hka
      rw [if_pos rfl]
      apply List.ext_getElem
      · simp [accT]
      · intro b h3 h4
        rw [List.getElem_set]
        have hb : b < 16 := by simpa [accT] using h4
        by_cases hib : i = b
        · subst hib; simp [accT]
        · rw [if_neg hib]
          simp only [accT, List.getElem_map, List.getElem_range]
          have : (b < i ∨ b = i ∧ k < k) ↔ (b < i ∨ b = i ∧ k < k + 1) := by omega
          simp only [this]
    · rw [if_neg hka]
      simp only [accT, List.getElem_map, List.getElem_range]
      apply List.map_congr_left
      intro b _
      have : (b < i ∨ b = i ∧ a < k) ↔ (b < i ∨ b = i ∧ a < k + 1) := by omega
      simp only [this]
theorem accT_next (LL : List (List Int)) (i : Nat) : accT LL i 16 = accT LL (i + 1) 0 := by
  unfold accT
  apply List.map_congr_left
  intro a ha
  apply List.map_congr_left
  intro b _
  have h1 : a < 16 := by simpa using ha
  have : (b < i ∨ b = i ∧ a < 16) ↔ (b < i + 1 ∨ b = i + 1 ∧ a < 0) := by omega
  simp only [this]
theorem pad_tab {L : List Int} (h : L.length ≤ 16) : pad L = (List.range 16).map fun b => L.getD b 0 := by
  apply List.ext_getElem
  · rw [pad_len h]; simp
  · intro b h1 h2
    have := pad_gD h b
    rw [List.getD_eq_getElem?_getD, List.getElem?_eq_getElem h1, Option.getD_some] at this
    rw [this]; simp
theorem accT_end {LL : List (List Int)} (h : vpl LL = true) : accT LL 16 0 = gridR (turnP LL) := by
  rw [gridR_map (vpl_turn h)]
  unfold accT
  apply List.map_congr_left
  intro a ha
  rw [pad_tab (by
    have := vpl_valid (vpl_turn h) a
    exact (valid_bd this).2.2.2)]
  apply List.map_congr_left
  intro b hb
  have h1 : b < 16 := by simpa using hb
  rw [if_pos (by omega)]
  exact (gr_turn h a b).symm
/-- the grid when k rows are turned up -/
def accU (LL : List (List Int)) (k : Nat) : List (List Int) := (List.range 16).map fun i => if i < k then pad (conj (LL.getD i [])) else pad (LL.getD i [])
theorem accU_len (LL : List (List Int)) (k : Nat) : (accU LL k).length = 16 := by simp [accU]
theorem accU_sq {LL : List (List Int)} (h : vpl LL = true) (k : Nat) : Sq (accU LL k) := by
  refine ⟨accU_len _ _, fun L hL => ?_⟩
  obtain ⟨a, _, rfl⟩ := List.mem_map.1 hL
  have hv := vpl_valid h a
  split
  · exact pad_len (valid_bd (valid_conj hv)).2.2.2
  · exact pad_len (valid_bd hv).2.2.2
theorem accU_zero {LL : List (List Int)} (h : vpl LL = true) : accU LL 0 = gridR LL := by
  rw [gridR_map h]
  unfold accU
  apply List.map_congr_left
  intro a _
  rw [if_neg (by omega)]
theorem accU_set (LL : List (List Int)) {k : Nat} (_hk : k < 16) : (accU LL k).set k (pad (conj (LL.getD k []))) = accU LL (k + 1) := by
  apply List.ext_getElem
  · simp [accU]
  · intro a h1 h2
    rw [List.getElem_set]
    by_cases hka : k = a
    · subst hka
      rw [if_pos rfl]; simp [accU]
    · rw [if_neg hka]
      simp only [accU, List.getElem_map, List.getElem_range]
      have : a < k ↔ a < k + 1 := by omega
      simp only [this]
theorem accU_end {LL : List (List Int)} (h : vpl LL = true) : accU LL 16 = gridR (upP LL) := by
  rw [gridR_map (vpl_up h)]
  unfold accU
  apply List.map_congr_left
  intro a ha
  rw [if_pos (by simpa using ha), up_getD]
/-- the sums of the first k rows of a grid -/
def prs (LL : List (List Int)) (k : Nat) : Int := sumL ((List.range k).map fun i => sumL (LL.getD i []))
theorem prs_succ (LL : List (List Int)) (k : Nat) : prs LL (k + 1) = prs LL k + sumL (LL.getD k []) := by
  unfold prs
  rw [List.range_succ, List.map_append, sumL_append]
  simp [sumL]
theorem prs_bd {LL : List (List Int)} (h : vpl LL = true) (k : Nat) : 0 ≤ prs LL k ∧ prs LL k ≤ 16 * k := by
  induction k with
  | zero => exact ⟨by simp [prs, sumL], by simp [prs, sumL]⟩
  | succ k ih =>
    have := valid_bd (vpl_valid h k)
    rw [prs_succ]
    omega
theorem s16_row {L : List Int} (h : valid L = true) : s16 (fun k => L.getD k 0) = sumL L := by
  have h1 := sum_lst (g := fun k => L.getD k 0) (fun i => (fal_of_valid h).nn i)
  rw [lst_valid h] at h1
  exact h1.symm
theorem prs_end {LL : List (List Int)} (h : vpl LL = true) : prs LL 16 = sumLL LL := by
  rw [sumLL_gr h]
  unfold prs s256
  show _ = sumL _
  congr 1
  apply List.map_congr_left
  intro a _
  exact (s16_row (vpl_valid h a)).symm
theorem take_more {LL : List (List Int)} {k : Nat} (h : LL.length ≤ k) : LL.take k = LL.take (k + 1) := by
  rw [List.take_of_length_le h, List.take_of_length_le (by omega)]
theorem row_pos {LL : List (List Int)} (h : vpl LL = true) (k : Nat) : (0 < sumL (LL.getD k [])) ↔ k < LL.length := by
  constructor
  · intro h1
    rcases Nat.lt_or_ge k LL.length with h2 | h2
    · exact h2
    · rw [gl_ge h2] at h1; simp [sumL] at h1
  · intro h1
    have h2 := ((vpl_iff.1 h).1 k h1)
    have := valid_ne_sum h2.1 h2.2.1
    omega
end NP
end Go.Proofs.Ytgkghebjaedjmaa
namespace Go.Proofs.Ytgkghebjaedjmaa
namespace NP
theorem col_eq {g : Nat → Int} (h : Fal g) {M : List Int} (hM : ∀ i, M.getD i 0 = g i) : (M.filter fun x => decide (0 < x)) = lst g := by
  refine pos_ext (fun x hx => by simpa using (List.mem_filter.1 hx).2) (lst_pos g) (fun i => ?_)
  rw [lst_getD h, filt_getD M (fun x hx => ?_) (fun i j hij _ => by rw [hM, hM]; exact h.mono hij) i, hM]
  obtain ⟨j, hj, rfl⟩ := List.mem_iff_getElem.1 hx
  have := h.nn j
  rw [← hM, List.getD_eq_getElem?_getD, List.getElem?_eq_getElem hj] at this
  exact this
theorem map_gD (f : List Int → Int) (h0 : f [] = 0) (LL : List (List Int)) (i : Nat) : (LL.map f).getD i 0 = f (LL.getD i []) := by
  rcases Nat.lt_or_ge i LL.length with h | h
  · rw [gl_lt h, List.getD_eq_getElem?_getD, List.getElem?_eq_getElem (by simpa using h)]; simp
  · rw [gl_ge h, h0, List.getD_eq_getElem?_getD, List.getElem?_eq_none (by simpa using h)]; rfl
/-- the numbers with the index k of the rows that have one -/
def colS (LL : List (List Int)) (k : Nat) : List Int := (LL.filter fun L => decide (k < L.length)).map fun L => L.getD k 0
def turnS (LL : List (List Int)) : List (List Int) := (List.range (LL.getD 0 []).length).map (colS LL)
theorem pos_at {L : List Int} (h : valid L = true) (k : Nat) : (0 < L.getD k 0) ↔ k < L.length := by
  constructor
  · intro h1
    rcases Nat.lt_or_ge k L.length with h2 | h2
    · exact h2
    · rw [List.getD_eq_getElem?_getD, List.getElem?_eq_none h2] at h1; simp at h1
  · intro h1
    rw [List.getD_eq_getElem?_getD, List.getElem?_eq_getElem h1]
    exact valid_pos h _ (List.getElem_mem h1)
theorem colS_filt {LL : List (List Int)} (h : ∀ L ∈ LL, valid L = true) (k : Nat) : colS LL k = (LL.map fun L => L.getD k 0).filter fun x => decide (0 < x) := by
  unfold colS
  induction LL with
  | nil => rfl
  | cons L R ih =>
    have h1 := pos_at (h L (by simp)) k
    have h2 := ih fun M hM => h M (by simp [hM])
    rw [List.map_cons, List.filter_cons, List.filter_cons]
    by_cases hk : k < L.length
    · rw [if_pos (decide_eq_true hk), if_pos (decide_eq_true (h1.2 hk)), List.map_cons, h2]
    · rw [if_neg (by simpa using hk), if_neg (by have : ¬ 0 < L.getD k 0 := fun hh => hk (h1.1 hh); simpa using this), h2]
theorem colS_lst {LL : List (List Int)} (h : vpl LL = true) (k : Nat) : colS LL k = lst fun i => gr LL i k := by
  rw [colS_filt (vpl_each h)]
  exact col_eq ((pl_of h).col k) (map_gD (fun L => L.getD k 0) rfl LL)
theorem rowsM_getD (f : Nat → List Int) (n k : Nat) : ((List.range n).map f).getD k [] = if k < n then f k else [] := by
  rcases Nat.lt_or_ge k n with h | h
  · rw [if_pos h, List.getD_eq_getElem?_getD, List.getElem?_eq_getElem (by simpa using h)]; simp
  · rw [if_neg (by omega), List.getD_eq_getElem?_getD, List.getElem?_eq_none (by simpa using h)]; rfl
/-- rows told by their falling columns, as many as are not empty -/
theorem rows_pof {G : Nat → Nat → Int} (h : Pl G) (f : Nat → List Int) (n : Nat) (hf : ∀ k, k < n → f k = lst (G k)) (hn : ∀ k, k < n ↔ 0 < G k 0) : (List.range n).map f = pilG G := by
  refine ne_ext (fun L hL => ?_) (pilG_ne G) (fun k => ?_)
  · obtain ⟨k, hk, rfl⟩ := List.mem_map.1 hL
    have hk' : k < n := by simpa using hk
    rw [hf k hk']
    intro e
    have h1 := (lst_nil (h.row k)).1 e
    have h2 := (hn k).1 hk'
    omega
  · rw [rowsM_getD, pilG_getD h]
    split
    · rename_i hk; exact hf k hk
    · rename_i hk
      have h1 := (h.row k).nn 0
      have h2 : ¬ 0 < G k 0 := fun hh => hk ((hn k).2 hh)
      exact ((lst_nil (h.row k)).2 (by omega)).symm
theorem turnS_eq {LL : List (List Int)} (h : vpl LL = true) : turnS LL = turnP LL := by
  refine rows_pof (pl_of h).turn (colS LL) _ (fun k _ => colS_lst h k) (fun k => ?_)
  exact (pos_at (vpl_valid h 0) k).symm
/-- how many numbers of each row are at least h, of those rows that have such -/
def layS (LL : List (List Int)) : List (List Int) := (List.range (gr LL 0 0).toNat).map fun (a : Nat) => (LL.map (cnt ((a : Int) + 1))).filter fun x => decide (0 < x)
theorem cnt_pos {L : List Int} (h : valid L = true) (a : Nat) : 0 < cnt ((a : Int) + 1) L ↔ (a : Int) < L.getD 0 0 := by
  have h1 := (pos_at (valid_conj h) a)
  rw [conj_gD h] at h1
  rw [h1, conj_len]
  have : L.headD 0 = L.getD 0 0 := by cases L <;> rfl
  rw [this]
  omega
theorem layS_eq {LL : List (List Int)} (h : vpl LL = true) : layS LL = layP LL := by
  have hu := pl_of (vpl_up h)
  have hg : ∀ i a, gr (upP LL) i a = cnt ((a : Int) + 1) (LL.getD i []) := fun i a => by
    show ((upP LL).getD i []).getD a 0 = _
    rw [up_getD, conj_gD (vpl_valid h i)]
  refine rows_pof hu.turn _ _ (fun a _ => ?_) (fun a => ?_)
  · exact col_eq (hu.col a) (fun i => by rw [map_gD _ rfl]; exact (hg i a).symm)
  · show _ ↔ 0 < gr (upP LL) 0 a
    rw [hg, cnt_pos (vpl_valid h 0)]
    have := (fal_of_valid (vpl_valid h 0)).nn 0
    show _ ↔ (a : Int) < gr LL 0 0
    omega
/-- columns of the first i rows -/
theorem colS_succ {LL : List (List Int)} {i : Nat} (hi : i < LL.length) (k : Nat) : colS (LL.take (i + 1)) k = colS (LL.take i) k ++ if k < LL[i].length then [LL[i].getD k 0] else [] := by
  unfold colS
  rw [List.take_succ_eq_append_getElem hi, List.filter_append, List.map_append]
  congr 1
  by_cases hk : k < LL[i].length
  · simp [hk]
  · simp [hk]
theorem colS_len (LL : List (List Int)) (k : Nat) : (colS LL k).length ≤ LL.length := by unfold colS; rw [List.length_map]; exact List.length_filter_le _ _
theorem colS_zero (LL : List (List Int)) (k : Nat) : colS (LL.take 0) k = [] := by simp [colS]
theorem turnS_take (LL : List (List Int)) (k : Nat) : (List.range (k + 1)).map (colS LL) = (List.range k).map (colS LL) ++ [colS LL k] := by
  rw [List.range_succ, List.map_append]; rfl
def layR (LL : List (List Int)) (a : Nat) : List Int := (LL.map (cnt ((a : Int) + 1))).filter fun x => decide (0 < x)
theorem layR_succ {LL : List (List Int)} {i : Nat} (hi : i < LL.length) (a : Nat) : layR (LL.take (i + 1)) a = layR (LL.take i) a ++ if 0 < cnt ((a : Int) + 1) LL[i] then [cnt ((a : Int) + 1) LL[i]] else [] := by
  unfold layR
  rw [List.take_succ_eq_append_getElem hi, List.map_append, List.filter_append]
  congr 1
  by_cases hk : 0 < cnt ((a : Int) + 1) LL[i]
  · simp [hk]
  · simp [hk]
theorem layR_len (LL : List (List Int)) (a : Nat) : (layR LL a).length ≤ LL.length := by
  unfold layR
  have := List.length_filter_le (fun x => decide (0 < x)) (LL.map (cnt ((a : Int) + 1)))
  rwa [List.length_map] at this
theorem layR_zero (LL : List (List Int)) (a : Nat) : layR (LL.take 0) a = [] := by simp [layR]
theorem layS_take (LL : List (List Int)) (k : Nat) : (List.range (k + 1)).map (layR LL) = (List.range k).map (layR LL) ++ [layR LL k] := by
  rw [List.range_succ, List.map_append]; rfl
theorem grid_gr {LL : List (List Int)} (h : vpl LL = true) (i k : Nat) : gr LL i k = ((gridR LL).getD i []).getD k 0 := by
  rcases Nat.lt_or_ge i 16 with hi | hi
  · have hh : i < (gridR LL).length := by rw [gridR_len (vpl_len h)]; exact hi
    rw [gl_lt hh, gridR_gD h hi hh, pad_gD (valid_bd (vpl_valid h i)).2.2.2]
    rfl
  · have h1 := vpl_len h
    show (LL.getD i []).getD k 0 = _
    rw [gl_ge (by omega), gl_ge (by rw [gridR_len h1]; exact hi)]
theorem gridR_inj {A B : List (List Int)} (ha : vpl A = true) (hb : vpl B = true) (h : gridR A = gridR B) : A = B :=
  vpl_ext ha hb fun i k => by rw [grid_gr ha, grid_gr hb, h]
/-- a pile is its turned one -/
def evF (LL : List (List Int)) : Bool := vpl LL && decide (turnP LL = LL)
theorem evF_no {LL : List (List Int)} (h : vpl LL = false) : evF LL = false := by simp [evF, h]
theorem evF_grid {LL : List (List Int)} (h : vpl LL = true) : decide (gridR LL = gridR (turnP LL)) = evF LL := by
  unfold evF
  rw [h, Bool.true_and]
  by_cases hh : turnP LL = LL
  · rw [hh]; simp
  · rw [decide_eq_false (fun e => hh (gridR_inj h (vpl_turn h) e).symm), decide_eq_false hh]
theorem flat_inj {A B : List (List Int)} (ha : Sq A) (hb : Sq B) (h : A.flatten = B.flatten) : A = B := by
  apply List.ext_getElem
  · rw [ha.1, hb.1]
  · intro i h1 h2
    rw [← flat_row ha.2 h1, ← flat_row hb.2 h2, h]
theorem vpl_badrow {LL : List (List Int)} {k : Nat} (hk : k < LL.length) (h : valid LL[k] = false ∨ LL[k] = []) : vpl LL = false := by
  cases hh : vpl LL with
  | false => rfl
  | true =>
    have h1 := (vpl_iff.1 hh).1 k hk
    unfold pgd at h1
    rw [gl_lt hk] at h1
    rcases h with h2 | h2
    · rw [h1.1] at h2; cases h2
    · exact absurd h2 h1.2.1
theorem vpl_badcell {LL : List (List Int)} {k m : Nat} (hk : k + 1 < LL.length) (h : (LL[k]'(by omega)).getD m 0 < LL[k + 1].getD m 0) : vpl LL = false := by
  cases hh : vpl LL with
  | false => rfl
  | true =>
    have h1 := ((vpl_iff.1 hh).1 (k + 1) hk).2.2 (by omega)
    rw [Nat.add_sub_cancel, gl_lt hk, gl_lt (by omega)] at h1
    have := (ins_iff.1 h1).2.2 m
    omega
theorem pgd_step {LL : List (List Int)} {k : Nat} (hk : k < LL.length) (h1 : valid LL[k] = true) (h2 : LL[k] ≠ []) (h3 : ∀ j (hj : k = j + 1), valid (LL[j]'(by omega)) = true ∧ ∀ m, m < LL[k].length → LL[k].getD m 0 ≤ (LL[j]'(by omega)).getD m 0) : pgd LL k := by
  unfold pgd
  rw [gl_lt hk]
  refine ⟨h1, h2, fun h0 => ?_⟩
  obtain ⟨j, rfl⟩ : ∃ j, k = j + 1 := ⟨k - 1, by omega⟩
  rw [Nat.add_sub_cancel, gl_lt (by omega)]
  obtain ⟨h4, h5⟩ := h3 j rfl
  refine ins_iff.2 ⟨h4, h1, fun i => ?_⟩
  rcases Nat.lt_or_ge i LL[j + 1].length with hi | hi
  · exact h5 i hi
  · have := (fal_of_valid h4).nn i
    rw [List.getD_eq_getElem?_getD (l := LL[j + 1]), List.getElem?_eq_none hi]
    exact this
theorem vpl_atEnd {LL : List (List Int)} (h : ∀ i, i < LL.length → pgd LL i) : vpl LL = decide (sumLL LL ≤ 16) := by
  unfold vpl
  rw [decide_eq_true h, Bool.true_and]
theorem vpl_long {LL : List (List Int)} (h : 16 < LL.length) : vpl LL = false := by
  cases hh : vpl LL with
  | false => rfl
  | true => have := vpl_len hh; omega
theorem sumLL_pbd {LL : List (List Int)} {k : Nat} (hk : k ≤ LL.length) (h : ∀ i, i < k → pgd LL i) : 0 ≤ sumLL (LL.take k) ∧ sumLL (LL.take k) ≤ 16 * k := by
  induction k with
  | zero => exact ⟨by simp [sumLL, sumL], by simp [sumLL, sumL]⟩
  | succ k ih =>
    have h1 := ih (by omega) fun i hi => h i (by omega)
    have h2 := (h k (by omega)).1
    rw [gl_lt (by omega)] at h2
    have := valid_bd h2
    rw [sumLL_succ (by omega)]
    omega
end NP
end Go.Proofs.Ytgkghebjaedjmaa
namespace Go.Proofs.Ytgkghebjaedjmaa
open Go.RowKit NP
set_option maxRecDepth 100000
set_option linter.unusedVariables false
set_option linter.unusedSimpArgs false
theorem T_indexP (R : List (List Int)) (hR : Sq R) (k : Nat) (hk : k < R.length) (w : World) : (Instr.index 76 (.agg (arr R.flatten)) (.int .i64 k)).run Try.prog w = .ok (.agg (arr R[k])) w := by
  rw [run_index_agg 76 60 _ 16 16 Try.underlying76 Try.underlying60 rfl T_info35 (arr R.flatten) k (by have := hR.1; omega) .i64 w, arr_flat_row hR.2 hk]
theorem T_indexG {LL : List (List Int)} (h : vpl LL = true) (k : Nat) (hk : k < 16) (w : World) : (Instr.index 76 (.agg (arr (gridR LL).flatten)) (.int .i64 k)).run Try.prog w = .ok (.agg (arr (pad (LL.getD k [])))) w := by
  have hh : k < (gridR LL).length := by rw [gridR_len (vpl_len h)]; exact hk
  rw [T_indexP _ (gridR_sq h) k hh, gridR_gD h hk hh]
theorem psum_any (LL : List (List Int)) (hv : vpl LL = true) (w : World) :
    Calls Try.prog 62 #[.agg (arr (gridR LL).flatten)] w fun e w' => e = .returned (.int .i64 (sumLL LL)) ∧ Below w.heap.size w w' := by
  have hi256 : (Try.prog.info? 76).map (·.size) = some (arr (gridR LL).flatten).size := by rw [arr_size, sq_len (gridR_sq hv)]; exact T_info256
  have hA0 := (Below.refl w.heap.size w).alloc (Nat.le_refl _) (.cells (arr (gridR LL).flatten) 76)
  have hb := Blk.new w 76 (arr (gridR LL).flatten)
  have HV := Lib.hid hv
  have HX := Lib.hid (T_indexG hv)
  have HB := Lib.hid (prs_bd hv)
  have HS := Lib.hid (prs_succ LL)
  have HE := Lib.hid (prs_end hv)
  have hu := Try.underlying60
  clear hv
  obtain ⟨G, hG⟩ : ∃ G, G = arr (gridR LL).flatten := ⟨_, rfl⟩
  rw [← hG] at hi256 hA0 hb HX ⊢
  clear hG
  go_enter Try.func62, Try.ntmps62
  go_wp2_with (refine wpList_load_row rfl 76 (.tmp 1) rfl w.heap.size rfl 76 G (0, 0) _ hb Try.underlying76 rfl hi256 ?_)
  go_loopw [3, 7] (fun s i wr => ∃ k : Nat, k ≤ 16 ∧ i = .int .i64 k ∧ s = .int .i64 (prs LL k) ∧ Below w.heap.size w wr) (fun _ i _ => 16 - (intOf i).toNat)
  case atStart => exact ⟨0, Nat.zero_le _, rfl, rfl, hA0⟩
  case round =>
    obtain ⟨k, hk, rfl, rfl, hbel⟩ := hrel
    clear hA0 hb
    by_cases hlt : k < 16
    · have hlt' : (k : Int) < 16 := by omega
      have hix := HX.out k hlt
      have hvk := vpl_valid HV.out k
      have hb1 := HB.out k
      have hbs := valid_bd hvk
      have HN := Lib.hid (HS.out k)
      have HPS : Hid (sumL (pad (LL.getD k [])) = sumL (LL.getD k [])) := Lib.hid (sumL_pad _)
      have HPF := Lib.hid (pad_fits hvk)
      have HPL := Lib.hid (pad_len hbs.2.2.2)
      obtain ⟨L, hL⟩ : ∃ L, L = LL.getD k [] := ⟨_, rfl⟩
      rw [← hL] at hix hbs HN HPS HPF HPL
      have hsz : (arr (pad L)).size = (arr (List.replicate 16 0)).size := by rw [arr_size, arr_size, HPL.out]; rfl
      have hi16 : (Try.prog.info? 60).map (·.size) = some (arr (pad L)).size := by rw [arr_size, HPL.out]; exact T_info35
      have hbz := Blk.new wr 60 (arr (List.replicate 16 0))
      have hbz2 := hbz.row (vs := arr (pad L))
      have hbel2 := below_setRow' (hbel.alloc hbel.size (.cells (arr (List.replicate 16 0)) 60)) hbel.size (arr (pad L))
      have hwsz := hbel.size
      clear hL hvk hbel
      go_wp2_with (first
        | (refine wpList_store_row rfl 60 (.tmp 5) (.tmp 9) rfl wr.heap.size rfl (arr (pad L)) rfl 60 _ hbz hi16 hsz (arr_one _) ?_)
        | (refine wpList_load_row rfl 60 (.tmp 5) rfl wr.heap.size rfl 60 (arr (pad L)) (0, 0) _ hbz2 hu rfl hi16 ?_)
        | (go_at_call 88; refine (dsum_any (pad L) HPL.out HPF.out _).mono ?_; rintro e w9 ⟨rfl, hb9⟩; rw [HPS.out]))
      go_roundw
      case rel => exact ⟨k + 1, by omega, by go_num, by rw [HN.out], hbel2.trans (hb9.mono hbel2.size)⟩
      case measure => simp [intOf]; omega
    · obtain rfl : k = 16 := by omega
      go_wp2
      go_ret
      exact ⟨ret_i64 HE.out, hbel⟩
theorem T_intsP : (Try.prog.info? 30).map (fun i => (i.zero, i.size, i.bytes)) = some (some (.slice none 0 0), 1, 24) := by kernel_rfl
set_option maxHeartbeats 1000000 in
theorem plist_any (LL : List (List Int)) (hv : vpl LL = true) (w : World) :
    Calls Try.prog 85 #[.agg (arr (gridR LL).flatten)] w fun e w' => ∃ a' c' us, e = .returned (.slice a' LL.length c') ∧ OwnLL w' w.heap.size w'.heap.size 30 3 (.slice a' LL.length c') us LL ∧ Below w.heap.size w w' := by
  obtain ⟨i1, hj, hy0, hy1, hy2⟩ := info_parts T_intsP
  have hi256 : (Try.prog.info? 76).map (·.size) = some (arr (gridR LL).flatten).size := by rw [arr_size, sq_len (gridR_sq hv)]; exact T_info256
  have hA0 := (Below.refl w.heap.size w).alloc (Nat.le_refl _) (.cells (arr (gridR LL).flatten) 76)
  have hb := Blk.new w 76 (arr (gridR LL).flatten)
  have HV := Lib.hid hv
  have HX := Lib.hid (T_indexG hv)
  have hu := Try.underlying60
  have hlen := vpl_len hv
  have HPOS := Lib.hid (row_pos hv)
  clear hv
  obtain ⟨G, hG⟩ : ∃ G, G = arr (gridR LL).flatten := ⟨_, rfl⟩
  rw [← hG] at hi256 hA0 hb HX ⊢
  clear hG
  go_enter Try.func85, Try.ntmps85
  go_wp2_with (refine wpList_load_row rfl 76 (.tmp 1) rfl w.heap.size rfl 76 G (0, 0) _ hb Try.underlying76 rfl hi256 ?_)
  go_loopw [3, 7] (fun v i wr => ∃ k : Nat, k ≤ 16 ∧ i = .int .i64 k ∧ Below w.heap.size w wr ∧ ∃ vs, OwnLL wr w.heap.size wr.heap.size 30 3 v vs (LL.take k)) (fun _ i _ => 16 - (intOf i).toNat)
  case atStart => exact ⟨0, Nat.zero_le _, rfl, hA0, [], (OwnLL.nil _ _ _ _)⟩
  case round =>
    obtain ⟨k, hk, rfl, hbel, vs, hLL⟩ := hrel
    clear hA0 hb
    have hvl := hLL.len
    have htl : (LL.take k).length ≤ 16 := by rw [List.length_take]; omega
    have hvs : vs.length ≤ 16 := by omega
    clear hvl htl
    by_cases hlt : k < 16
    · have hlt' : (k : Int) < 16 := by omega
      have hix := HX.out k hlt
      have hvk := vpl_valid HV.out k
      have hbs := valid_bd hvk
      have HPS : Hid (sumL (pad (LL.getD k [])) = sumL (LL.getD k [])) := Lib.hid (sumL_pad _)
      have HPF := Lib.hid (pad_fits hvk)
      have HPL := Lib.hid (pad_len hbs.2.2.2)
      have HPK := Lib.hid (HPOS.out k)
      have HVK := Lib.hid hvk
      have HTK : Hid (k < LL.length → LL.take (k + 1) = LL.take k ++ [LL.getD k []]) := Lib.hid (fun h => by rw [gl_lt h, List.take_succ_eq_append_getElem h])
      have HO := Lib.hid hLL
      obtain ⟨L, hL⟩ : ∃ L, L = LL.getD k [] := ⟨_, rfl⟩
      rw [← hL] at hix hbs HPS HPF HPL HPK HVK HTK
      have hsz : (arr (pad L)).size = (arr (List.replicate 16 0)).size := by rw [arr_size, arr_size, HPL.out]; rfl
      have hi16 : (Try.prog.info? 60).map (·.size) = some (arr (pad L)).size := by rw [arr_size, HPL.out]; exact T_info35
      have hbz := Blk.new wr 60 (arr (List.replicate 16 0))
      have hbz2 := hbz.row (vs := arr (pad L))
      have hbB : Below wr.heap.size wr ((wr.alloc (.cells (arr (List.replicate 16 0)) 60)).setRow wr.heap.size (arr (pad L))) := below_setRow' ((Below.refl wr.heap.size wr).alloc (Nat.le_refl _) (.cells (arr (List.replicate 16 0)) 60)) (Nat.le_refl _) (arr (pad L))
      have hwsz := hbel.size
      obtain ⟨s, hs⟩ : ∃ s, s = sumL L := ⟨_, rfl⟩
      rw [← hs] at hbs HPS HPK
      clear hL hvk hLL hs
      by_cases hp : 0 < s
      · have HKL := Lib.hid (HPK.out.1 hp)
        go_wp2_with (first
          | (refine wpList_store_row rfl 60 (.tmp 5) (.tmp 9) rfl wr.heap.size rfl (arr (pad L)) rfl 60 _ hbz hi16 hsz (arr_one _) ?_)
          | (refine wpList_load_row rfl 60 (.tmp 5) rfl wr.heap.size rfl 60 (arr (pad L)) (0, 0) _ hbz4 hu rfl hi16 ?_)
          | (refine wpList_load_row rfl 60 (.tmp 5) rfl wr.heap.size rfl 60 (arr (pad L)) (0, 0) _ hbz2 hu rfl hi16 ?_)
          | (go_at_call 88; refine (dsum_any (pad L) HPL.out HPF.out _).mono ?_; rintro e w9 ⟨rfl, hb9⟩; rw [HPS.out]; have hbz4 := hbz2.below hb9 hbz2.lt)
          | (go_at_call 76; refine (list_any L HVK.out _).mono ?_; rintro e w2 ⟨u, rfl, hu2, hb2⟩; have hB2 := hbB.trans (hb9.mono hbB.size); replace hB2 := hB2.trans (hb2.mono hB2.size); have hL2 := Lib.hid (HO.out.below hB2); have hz9 := (hbB.trans (hb9.mono hbB.size)).size; have hz2 := hb2.size; have HU := Lib.hid hu2; clear hu2)
          | (at_builtin; refine wpList_append_o _ rfl (.tmp 13) (.tmp 16) 43 rfl w.heap.size w2.heap.size 30 i1 (.slice none 0 0) 24 Try.underlying43 hj hy0 hy1 hy2 rfl _ vs rfl (hL2.out.more.outer.alloc _) (w2.heap.size + 1) (some ⟨w2.heap.size, 0, none⟩) 1 1 [.slice u L.length L.length] rfl (Rd.one w2 _ _) rfl (by intro u hu; rw [List.mem_singleton.1 hu]; rfl) (by unfold maxLen; omega) (by omega) (by rw [World.size_alloc]; omega) ?_; intro v' w6 ho6 hg6 hat6))
        go_roundw
        case rel =>
          refine ⟨k + 1, by omega, by go_num, below_push (hbel.trans (hB2.mono hwsz)) (Nat.le_refl _) hg6 HO.out.outer.base, vs ++ [.slice u L.length L.length], ?_⟩
          rw [HTK.out HKL.out]
          have e1 := (hL2.out.below ((Below.refl _ _).alloc (by omega) (.cells #[.slice u L.length L.length] 30)))
          exact e1.append (HU.out.alloc (.cells #[.slice u L.length L.length] 30)) hz9 (by omega) (by simpa using ho6) hg6 hat6
        case measure => simp [intOf] <;> omega
      · have hp' : s ≤ 0 := by omega
        have HKL : Hid (LL.take k = LL.take (k + 1)) := Lib.hid (take_more (by have : ¬ k < LL.length := fun hh => hp (HPK.out.2 hh); omega))
        clear hp
        go_wp2_with (first
          | (refine wpList_store_row rfl 60 (.tmp 5) (.tmp 9) rfl wr.heap.size rfl (arr (pad L)) rfl 60 _ hbz hi16 hsz (arr_one _) ?_)
          | (refine wpList_load_row rfl 60 (.tmp 5) rfl wr.heap.size rfl 60 (arr (pad L)) (0, 0) _ hbz2 hu rfl hi16 ?_)
          | (go_at_call 88; refine (dsum_any (pad L) HPL.out HPF.out _).mono ?_; rintro e w9 ⟨rfl, hb9⟩; rw [HPS.out]))
        go_roundw
        case rel => exact ⟨k + 1, by omega, by go_num, hbel.trans ((hbB.trans (hb9.mono hbB.size)).mono hwsz), vs, by rw [← HKL.out]; exact (HO.out.below (hbB.trans (hb9.mono hbB.size))).more⟩
        case measure => simp [intOf]; omega
    · obtain rfl : k = 16 := by omega
      rw [List.take_of_length_le hlen] at hLL
      obtain ⟨a', c', rfl⟩ := hLL.form
      have HO := Lib.hid hLL
      clear hLL
      go_wp2
      go_ret
      exact ⟨a', c', vs, rfl, HO.out, hbel⟩
end Go.Proofs.Ytgkghebjaedjmaa
