/-
  Plain mathematics of united and added parts: conjugates turn one into the other. Plain mathematics of orders: rows trimmed of zeros, meets, dominance and conjugates, ranks and cranks. Walks of the model: inside, dominance, meets, joins. Plain mathematics of orders: the promises of inside, dominance and joins. Plain mathematics of piles: rows of parts on each other, turned, and in layers. Arrays of arrays: sixteen rows of sixteen numbers as one row of cells. Plain mathematics of piles in grids: what stands in the grid while it is turned, and while its rows are turned up; what the model reads. Plain mathematics of piles: what the model's loops make of them.
-/
import Derived.Test.YtnheolhgdinjgaaZe1
import Derived.Test.YtnheolhgdinjgaaZe2
namespace Go.Proofs.Ytnheolhgdinjgaa
namespace NP
set_option linter.unusedVariables false
theorem mono_split {A B : List Int} (h : mono (A ++ B)) : mono A ∧ mono B ∧ ∀ x ∈ A, ∀ y ∈ B, y ≤ x := by
  induction A with
  | nil => exact ⟨trivial, h, fun x hx => by simp at hx⟩
  | cons x r ih =>
    obtain ⟨h1, h2⟩ := h
    obtain ⟨h3, h4, h5⟩ := ih h2
    refine ⟨⟨fun y hy => h1 y (List.mem_append_left _ hy), h3⟩, h4, fun z hz y hy => ?_⟩
    rcases List.mem_cons.1 hz with rfl | hz
    · exact h1 y (List.mem_append_right _ hy)
    · exact h5 z hz y hy
theorem mono_head {D : List Int} (h : mono D) (i : Nat) (hi : i < D.length) : D[i] ≤ D[0]'(by omega) := by
  match D, h with
  | [], _ => simp at hi
  | y :: t, h =>
    match i, hi with
    | 0, _ => exact Int.le_refl _
    | i + 1, hi => exact h.1 _ (List.getElem_mem _)
theorem insK_mono {M : List Int} (h : mono M) (x : Int) : mono (insK M x) := by
  have hs := ff_spec (fun (j : Nat) => decide (x ≤ M.getD j 0)) M.length
  have e := List.take_append_drop (posOf x M) M
  rw [← e] at h
  obtain ⟨h1, h2, h3⟩ := mono_split h
  have hd : ∀ y ∈ M.drop (posOf x M), y ≤ x := fun y hy => by
    obtain ⟨i, hi, rfl⟩ := List.getElem_of_mem hy
    simp at hi
    rcases hs.2.2 with hs2 | hs2
    · have : posOf x M = M.length := hs2
      omega
    · have hp : posOf x M < M.length := by omega
      have hx : ¬ x ≤ M.getD (posOf x M) 0 := of_decide_eq_false hs2
      rw [getD_lt hp] at hx
      have h4 := mono_head h2 i (by simp; omega)
      simp at h4
      rw [List.getElem_drop]
      omega
  unfold insK
  refine mono_append h1 ⟨hd, h2⟩ fun a ha b hb => ?_
  rcases List.mem_cons.1 hb with rfl | hb
  · obtain ⟨i, hi, rfl⟩ := List.getElem_of_mem ha
    simp at hi
    have := of_decide_eq_true (hs.2.1 i (by unfold posOf at hi; omega))
    rw [getD_lt (by omega)] at this
    rw [List.getElem_take]
    exact this
  · exact h3 a ha b hb
theorem insK_eqc (M : List Int) (x k : Int) : eqc k (insK M x) = eqc k M + (if x = k then 1 else 0) := by
  have e : eqc k M = eqc k (M.take (posOf x M)) + eqc k (M.drop (posOf x M)) := by rw [← eqc_append, List.take_append_drop]
  unfold insK
  rw [eqc_append, eqc_cons, e]
  omega
theorem insK_sum (M : List Int) (x : Int) : sumL (insK M x) = sumL M + x := by
  have e : sumL M = sumL (M.take (posOf x M)) + sumL (M.drop (posOf x M)) := by rw [← sumL_append, List.take_append_drop]
  unfold insK
  rw [sumL_append, sumL, e]
  omega
theorem fold_facts (L : List Int) : ∀ M, mono M → mono (L.foldl insK M) ∧ (∀ k, eqc k (L.foldl insK M) = eqc k M + eqc k L) ∧ sumL (L.foldl insK M) = sumL M + sumL L := by
  induction L with
  | nil => intro M h; exact ⟨h, fun k => by simp [eqc], by simp [sumL]⟩
  | cons x r ih =>
    intro M h
    obtain ⟨h1, h2, h3⟩ := ih (insK M x) (insK_mono h x)
    refine ⟨h1, fun k => ?_, ?_⟩
    · rw [List.foldl_cons, h2, insK_eqc, eqc_cons]; omega
    · rw [List.foldl_cons, h3, insK_sum, sumL]; omega
theorem mrg_mono (L : List Int) : mono (mrg L) := (fold_facts L [] trivial).1
theorem mrg_eqc (L : List Int) (k : Int) : eqc k (mrg L) = eqc k L := by have := (fold_facts L [] trivial).2.1 k; unfold mrg; simpa [eqc] using this
theorem mrg_sum (L : List Int) : sumL (mrg L) = sumL L := by have := (fold_facts L [] trivial).2.2; unfold mrg; simpa [sumL] using this
theorem mrg_len (L : List Int) : (mrg L).length = L.length := by have := (fold_ins L []).1; unfold mrg; simpa using this
theorem mrg_mem {L : List Int} {y : Int} (h : y ∈ mrg L) : y ∈ L := by
  rcases (fold_ins L []).2 y h with h | h
  · exact h
  · simp at h
theorem cnt_eqc {A B : List Int} (h : ∀ k, eqc k A = eqc k B) (hl : A.length = B.length) (t : Int) : cnt t A = cnt t B := by
  induction A generalizing B with
  | nil =>
    have : B = [] := List.eq_nil_of_length_eq_zero (by simp at hl; omega)
    subst this; rfl
  | cons x r ih =>
    have hx : x ∈ B := eqc_mem (by rw [← h x]; exact eqc_pos (by simp))
    obtain ⟨b1, b2, rfl⟩ := List.append_of_mem hx
    have h2 := ih (B := b1 ++ b2) (fun k => by
      have := h k
      rw [eqc_cons, eqc_append, eqc_cons] at this
      rw [eqc_append]; omega) (by simp at hl ⊢; omega)
    rw [cnt, h2, cnt_append, cnt_append, cnt]
    omega
theorem mono_get {L : List Int} (h : mono L) (j : Nat) (hj : j + 1 < L.length) : L[j + 1] ≤ L[j] := by
  induction L generalizing j with
  | nil => simp at hj
  | cons x r ih =>
    match j with
    | 0 => simp; exact h.1 _ (List.getElem_mem _)
    | j + 1 => simpa using ih h.2 j (by simp at hj; omega)
theorem valid_mono {M : List Int} (h : mono M) (h1 : ∀ x ∈ M, 1 ≤ x) (hs : sumL M ≤ 16) : valid M = true := by
  refine valid_of_preS (fun j hj _ => ?_) hs
  have hb := (elem_le_sum (fun x hx => by have := h1 x hx; omega) hj).1
  refine ⟨h1 _ (List.getElem_mem hj), by omega, fun h0 => ?_⟩
  have := mono_get h (j - 1) (by omega)
  simp only [show j - 1 + 1 = j by omega] at this
  exact this
def uni (P Q : List Int) : List Int := mrg (P ++ Q)
theorem valid_ge1 {L : List Int} (h : valid L = true) : ∀ x ∈ L, 1 ≤ x := fun x hx => by
  obtain ⟨k, hk, rfl⟩ := List.getElem_of_mem hx
  exact (preS_of_valid h k hk hk).1
theorem uni_ge1 {P Q : List Int} (h : two P Q = true) : ∀ x ∈ uni P Q, 1 ≤ x := fun x hx => by
  obtain ⟨hp, hq, _⟩ := two_out h
  rcases List.mem_append.1 (mrg_mem hx) with hx | hx
  · exact valid_ge1 hp x hx
  · exact valid_ge1 hq x hx
theorem valid_uni {P Q : List Int} (h : two P Q = true) : valid (uni P Q) = true :=
  valid_mono (mrg_mono _) (uni_ge1 h) (by unfold uni; rw [mrg_sum, sumL_append]; exact (two_out h).2.2)
theorem um_uni {P Q : List Int} (h : two P Q = true) : (um (fun i => P.getD i 0) (fun i => Q.getD i 0) 16).1 = pad (uni P Q) :=
  um_end h (mrg_mono _) (fun k => by unfold uni; rw [mrg_eqc, eqc_append]) (by unfold uni; rw [mrg_len]; simp) (uni_ge1 h)
def uniF (P Q : List Int) : List Int := if two P Q then uni P Q else []
theorem uniF_yes {P Q : List Int} (h : two P Q = true) : uniF P Q = uni P Q := by simp [uniF, h]
theorem uniF_no {P Q : List Int} (h : two P Q = false) : uniF P Q = [] := by simp [uniF, h]
theorem uniF_len (P Q : List Int) : (uniF P Q).length ≤ 16 := by
  unfold uniF
  split
  · rename_i h
    exact (valid_bd (valid_uni h)).2.2.2
  · simp
/-- parts with the same numbers at all places are the same -/
theorem valid_ext {A B : List Int} (hA : valid A = true) (hB : valid B = true) (h : ∀ j, A.getD j 0 = B.getD j 0) : A = B := by
  have hl : A.length = B.length := by
    rcases Nat.lt_trichotomy A.length B.length with h1 | h1 | h1
    · have := h A.length
      rw [getD_ge (Nat.le_refl _)] at this
      have := getD_pos hB h1
      omega
    · exact h1
    · have := h B.length
      rw [getD_ge (L := B) (Nat.le_refl _)] at this
      have := getD_pos hA h1
      omega
  apply List.ext_getElem hl
  intro j h1 h2
  have := h j
  rwa [getD_lt h1, getD_lt h2] at this
theorem conj_getD {L : List Int} (h : valid L = true) (j : Nat) : (conj L).getD j 0 = cnt ((j : Int) + 1) L := by
  rcases Nat.lt_or_ge j (conj L).length with h1 | h1
  · rw [getD_lt h1, conj_get]
  · rw [getD_ge h1]
    rw [conj_len] at h1
    exact (cnt_none fun x hx => by have := head_ge h x hx; omega).symm
theorem two_conj {P Q : List Int} (h : two P Q = true) : two (conj P) (conj Q) = true := by
  obtain ⟨hp, hq, hs⟩ := two_out h
  unfold two
  rw [valid_conj hp, valid_conj hq, sumL_conj hp, sumL_conj hq, decide_eq_true hs]
  rfl
theorem cnt_uni (P Q : List Int) (t : Int) : cnt t (uni P Q) = cnt t P + cnt t Q := by
  rw [← cnt_append]
  exact cnt_eqc (fun k => by unfold uni; rw [mrg_eqc]) (by unfold uni; rw [mrg_len]) t
theorem conj_uni {P Q : List Int} (h : two P Q = true) : conj (uni P Q) = adp (conj P) (conj Q) := by
  obtain ⟨hp, hq, hs⟩ := two_out h
  refine valid_ext (valid_conj (valid_uni h)) (valid_adp (two_conj h)) fun j => ?_
  rw [conj_getD (valid_uni h), adp_getD, conj_getD hp, conj_getD hq, cnt_uni]
theorem conj_adp {P Q : List Int} (h : two P Q = true) : conj (adp P Q) = uni (conj P) (conj Q) := by
  obtain ⟨hp, hq, hs⟩ := two_out h
  have h2 := two_conj h
  have e := conj_uni h2
  rw [conj_conj hp, conj_conj hq] at e
  rw [← e, conj_conj (valid_uni h2)]
theorem adp_comm (P Q : List Int) : adp P Q = adp Q P := by
  unfold adp
  rw [Nat.max_comm]
  apply List.map_congr_left
  intro i _
  omega
theorem two_comm (P Q : List Int) : two P Q = two Q P := by
  unfold two
  rw [Int.add_comm (sumL P), Bool.and_comm (valid P)]
theorem uni_len (P Q : List Int) : (uni P Q).length = P.length + Q.length := by unfold uni; rw [mrg_len]; simp
end NP
end Go.Proofs.Ytnheolhgdinjgaa
namespace Go.Proofs.Ytnheolhgdinjgaa
namespace NP
set_option linter.unusedVariables false
/-- the first n values that are above 0 -/
def tr (f : Nat → Int) (n : Nat) : List Int := ((List.range n).map f).filter fun x => decide (0 < x)
def sf (f : Nat → Int) : Nat → Int
  | 0 => 0
  | n + 1 => sf f n + f n
theorem tr_succ (f : Nat → Int) (n : Nat) : tr f (n + 1) = tr f n ++ if 0 < f n then [f n] else [] := by
  unfold tr
  rw [List.range_succ, List.map_append, List.filter_append]
  congr 1
  simp only [List.map_cons, List.map_nil, List.filter_cons, List.filter_nil, decide_eq_true_eq]
theorem tr_len (f : Nat → Int) (n : Nat) : (tr f n).length ≤ n := by
  have h := List.length_filter_le (fun x => decide (0 < x)) ((List.range n).map f)
  simpa [tr] using h
theorem tr_full {f : Nat → Int} {n : Nat} (h : ∀ i, i < n → 0 < f i) : tr f n = (List.range n).map f := by
  unfold tr
  rw [List.filter_eq_self]
  intro x hx
  simp only [List.mem_map, List.mem_range] at hx
  obtain ⟨i, hi, rfl⟩ := hx
  simpa using h i hi
theorem map_getD (f : Nat → Int) (n j : Nat) : ((List.range n).map f).getD j 0 = if j < n then f j else 0 := by
  by_cases h : j < n
  · rw [if_pos h, List.getD_eq_getElem?_getD, List.getElem?_eq_getElem (by simpa using h)]
    simp
  · rw [if_neg h, List.getD_eq_getElem?_getD, List.getElem?_eq_none (by simp; omega)]
    rfl
theorem fall_le {f : Nat → Int} (hf : ∀ i, f (i + 1) ≤ f i) {i j : Nat} (h : i ≤ j) : f j ≤ f i := by
  induction j with
  | zero => obtain rfl : i = 0 := by omega
            exact Int.le_refl _
  | succ j ih =>
    by_cases e : i = j + 1
    · rw [e]; exact Int.le_refl _
    · exact Int.le_trans (hf j) (ih (by omega))
theorem tr_getD {f : Nat → Int} (hf : ∀ i, f (i + 1) ≤ f i) (h0 : ∀ i, 0 ≤ f i) (n j : Nat) : (tr f n).getD j 0 = if j < n then f j else 0 := by
  induction n with
  | zero => rfl
  | succ n ih =>
    by_cases h : 0 < f n
    · rw [tr_full (fun i hi => Int.lt_of_lt_of_le h (fall_le hf (by omega))), map_getD]
    · rw [tr_succ, if_neg h, List.append_nil, ih]
      have := h0 n
      by_cases h1 : j < n
      · rw [if_pos h1, if_pos (by omega)]
      · rw [if_neg h1]
        by_cases h2 : j = n
        · subst h2; rw [if_pos (by omega)]; omega
        · rw [if_neg (by omega)]
theorem tr_pos {f : Nat → Int} {n : Nat} {x : Int} (h : x ∈ tr f n) : 0 < x := by
  unfold tr at h
  rw [List.mem_filter] at h
  simpa using h.2
theorem sum_tr {f : Nat → Int} (h0 : ∀ i, 0 ≤ f i) (n : Nat) : sumL (tr f n) = sf f n := by
  induction n with
  | zero => rfl
  | succ n ih =>
    rw [tr_succ, sumL_append, ih, sf]
    have := h0 n
    by_cases h : 0 < f n
    · rw [if_pos h]; simp [sumL]
    · rw [if_neg h]; simp [sumL]; omega
theorem sf_le {f : Nat → Int} (h0 : ∀ i, 0 ≤ f i) {i n : Nat} (h : i < n) : f i ≤ sf f n ∧ 0 ≤ sf f n := by
  induction n with
  | zero => omega
  | succ n ih =>
    have h1 := h0 n
    have hn : 0 ≤ sf f n := by
      clear ih h h1
      induction n with
      | zero => exact Int.le_refl _
      | succ n ih => have := h0 n; rw [sf]; omega
    rw [sf]
    by_cases e : i = n
    · subst e; omega
    · have := ih (by omega); omega
theorem valid_tr {f : Nat → Int} (hf : ∀ i, f (i + 1) ≤ f i) (h0 : ∀ i, 0 ≤ f i) {n : Nat} (hs : sf f n ≤ 16) : valid (tr f n) = true := by
  apply valid_of_preS
  · intro j hj _
    have e := tr_getD hf h0 n j
    have hp := tr_pos (List.getElem_mem hj)
    rw [getD_lt hj] at e
    have hjn : j < n := by have := tr_len f n; omega
    rw [if_pos hjn] at e
    have hb := sf_le h0 hjn
    refine ⟨by omega, by omega, fun h1 => ?_⟩
    have e2 := tr_getD hf h0 n (j - 1)
    rw [getD_lt (by omega), if_pos (by omega)] at e2
    have := hf (j - 1)
    rw [show j - 1 + 1 = j by omega] at this
    omega
  · rw [sum_tr h0]; exact hs
theorem pad_tr {f : Nat → Int} (hf : ∀ i, f (i + 1) ≤ f i) (h0 : ∀ i, 0 ≤ f i) : pad (tr f 16) = (List.range 16).map f := by
  have hl := tr_len f 16
  apply List.ext_getElem
  · rw [pad_len hl]; simp
  · intro j h1 h2
    have e := pad_getD hl j
    rw [getD_lt h1, tr_getD hf h0] at e
    simp at h2
    rw [e, if_pos h2]
    simp
theorem tr_more {f : Nat → Int} {n m : Nat} (h : n ≤ m) (hz : ∀ i, n ≤ i → f i = 0) : tr f m = tr f n := by
  induction m with
  | zero => obtain rfl : n = 0 := by omega
            rfl
  | succ m ih =>
    by_cases e : n = m + 1
    · rw [e]
    · rw [tr_succ, ih (by omega), hz m (by omega), if_neg (by omega), List.append_nil]
theorem tr_self {L : List Int} (hv : valid L = true) {n : Nat} (h : L.length ≤ n) : tr (fun i => L.getD i 0) n = L := by
  rw [tr_more h (fun i hi => getD_ge hi), tr_full (fun i hi => by have := getD_pos hv hi; omega)]
  apply List.ext_getElem
  · simp
  · intro j h1 h2
    rw [List.getElem_map, List.getElem_range, getD_lt h2]
theorem tr_congr {f g : Nat → Int} {n : Nat} (h : ∀ i, i < n → f i = g i) : tr f n = tr g n := by
  unfold tr
  rw [List.map_congr_left fun i hi => h i (by simpa using hi)]
theorem getD_fall' {L : List Int} (hv : valid L = true) (i : Nat) : L.getD (i + 1) 0 ≤ L.getD i 0 := getD_fall hv (i + 1) (by omega)

/-! what both have, and what has both -/
def lo2 (P Q : List Int) (i : Nat) : Int := min (P.getD i 0) (Q.getD i 0)
def hi2 (P Q : List Int) (i : Nat) : Int := max (P.getD i 0) (Q.getD i 0)
def cutL (P Q : List Int) : List Int := tr (lo2 P Q) 16
def cutH (P Q : List Int) : List Int := tr (hi2 P Q) 16
section
variable {P Q : List Int}
theorem lo2_fall (hp : valid P = true) (hq : valid Q = true) (i : Nat) : lo2 P Q (i + 1) ≤ lo2 P Q i := by
  have := getD_fall' hp i; have := getD_fall' hq i; unfold lo2; omega
theorem hi2_fall (hp : valid P = true) (hq : valid Q = true) (i : Nat) : hi2 P Q (i + 1) ≤ hi2 P Q i := by
  have := getD_fall' hp i; have := getD_fall' hq i; unfold hi2; omega
theorem lo2_nn (hp : valid P = true) (hq : valid Q = true) (i : Nat) : 0 ≤ lo2 P Q i := by
  have := getD_nn hp i; have := getD_nn hq i; unfold lo2; omega
theorem hi2_nn (hp : valid P = true) (hq : valid Q = true) (i : Nat) : 0 ≤ hi2 P Q i := by
  have := getD_nn hp i; have := getD_nn hq i; unfold hi2; omega
theorem sf_sumTo (L : List Int) (n : Nat) : sf (fun i => L.getD i 0) n = sumTo L n := by
  induction n with
  | zero => rfl
  | succ n ih => rw [sf, sumTo, ih]
theorem sf_cut (P Q : List Int) (n : Nat) : sf (lo2 P Q) n + sf (hi2 P Q) n = sumTo P n + sumTo Q n := by
  induction n with
  | zero => rfl
  | succ n ih => rw [sf, sf, sumTo, sumTo]; unfold lo2 hi2 at *; omega
theorem sf_lo_le (hp : valid P = true) (hq : valid Q = true) (n : Nat) : sf (lo2 P Q) n ≤ sumTo P n := by
  induction n with
  | zero => exact Int.le_refl _
  | succ n ih => rw [sf, sumTo]; have : lo2 P Q n ≤ P.getD n 0 := by unfold lo2; omega
                 omega
end
/-- the cut rows fit -/
def cutOk (P Q : List Int) : Bool := valid P && valid Q && decide (sf (hi2 P Q) 16 ≤ 16)
def cutLF (P Q : List Int) : List Int := if cutOk P Q then cutL P Q else []
def cutHF (P Q : List Int) : List Int := if cutOk P Q then cutH P Q else []
theorem cutOk_out {P Q : List Int} (h : cutOk P Q = true) : valid P = true ∧ valid Q = true ∧ sf (hi2 P Q) 16 ≤ 16 := by
  unfold cutOk at h
  simp only [Bool.and_eq_true, decide_eq_true_eq] at h
  exact ⟨h.1.1, h.1.2, h.2⟩
theorem valid_cutL {P Q : List Int} (hp : valid P = true) (hq : valid Q = true) : valid (cutL P Q) = true := by
  have h1 := sf_lo_le hp hq 16
  rw [sumTo_all P 16 (valid_bd hp).2.2.2] at h1
  exact valid_tr (lo2_fall hp hq) (lo2_nn hp hq) (by have := (valid_bd hp).2.1; omega)
theorem valid_cutH {P Q : List Int} (h : cutOk P Q = true) : valid (cutH P Q) = true := by
  obtain ⟨hp, hq, hs⟩ := cutOk_out h
  exact valid_tr (hi2_fall hp hq) (hi2_nn hp hq) hs

/-- are the rows of Q inside of those of P -/
def ins (P Q : List Int) : Bool := valid P && valid Q && (List.range 16).all fun i => decide (Q.getD i 0 ≤ P.getD i 0)
theorem ins_iff {P Q : List Int} : ins P Q = true ↔ valid P = true ∧ valid Q = true ∧ ∀ i, Q.getD i 0 ≤ P.getD i 0 := by
  unfold ins
  simp only [Bool.and_eq_true, List.all_eq_true, List.mem_range, decide_eq_true_eq]
  constructor
  · rintro ⟨⟨hp, hq⟩, h⟩
    refine ⟨hp, hq, fun i => ?_⟩
    rcases Nat.lt_or_ge i 16 with hi | hi
    · exact h i hi
    · rw [getD_ge (Nat.le_trans (valid_bd hq).2.2.2 hi)]; exact (getD_nn hp i).1
  · rintro ⟨hp, hq, h⟩
    exact ⟨⟨hp, hq⟩, fun i _ => h i⟩

/-! first sums -/
def mf (P Q : List Int) (k : Nat) : Int := min (sumTo P k) (sumTo Q k)
def mi (P Q : List Int) (i : Nat) : Int := mf P Q (i + 1) - mf P Q i
def mt (P Q : List Int) : List Int := tr (mi P Q) 16
theorem sf_mi (P Q : List Int) (n : Nat) : sf (mi P Q) n = mf P Q n := by
  induction n with
  | zero => simp [sf, mf, sumTo]
  | succ n ih => rw [sf, ih]; unfold mi; omega
section
variable {P Q : List Int}
theorem mi_fall (hp : valid P = true) (hq : valid Q = true) (i : Nat) : mi P Q (i + 1) ≤ mi P Q i := by
  have := getD_fall' hp i; have := getD_fall' hq i; unfold mi mf; simp only [sumTo]; omega
theorem mi_nn (hp : valid P = true) (hq : valid Q = true) (i : Nat) : 0 ≤ mi P Q i := by
  have := getD_nn hp i; have := getD_nn hq i; unfold mi mf; simp only [sumTo]; omega
theorem mf_end (hp : valid P = true) (hq : valid Q = true) : mf P Q 16 = min (sumL P) (sumL Q) := by
  unfold mf; rw [sumTo_all P 16 (valid_bd hp).2.2.2, sumTo_all Q 16 (valid_bd hq).2.2.2]
theorem valid_mt (hp : valid P = true) (hq : valid Q = true) : valid (mt P Q) = true := by
  refine valid_tr (mi_fall hp hq) (mi_nn hp hq) ?_
  rw [sf_mi, mf_end hp hq]
  have := (valid_bd hp).2.1
  omega
theorem pad_mt (hp : valid P = true) (hq : valid Q = true) : pad (mt P Q) = (List.range 16).map (mi P Q) := pad_tr (mi_fall hp hq) (mi_nn hp hq)
theorem sum_mt (hp : valid P = true) (hq : valid Q = true) : sumL (mt P Q) = min (sumL P) (sumL Q) := by
  unfold mt
  rw [sum_tr (mi_nn hp hq), sf_mi, mf_end hp hq]
theorem sumTo_mt (hp : valid P = true) (hq : valid Q = true) {k : Nat} (hk : k ≤ 16) : sumTo (mt P Q) k = mf P Q k := by
  induction k with
  | zero => simp [sumTo, mf]
  | succ k ih =>
    rw [sumTo, ih (by omega)]
    unfold mt
    rw [tr_getD (mi_fall hp hq) (mi_nn hp hq), if_pos (by omega)]
    unfold mi
    omega
theorem eq_of_sumTo (hp : valid P = true) (hq : valid Q = true) (h : ∀ k, k ≤ 16 → sumTo P k = sumTo Q k) : P = Q := by
  refine valid_ext hp hq fun j => ?_
  rcases Nat.lt_or_ge j 16 with hj | hj
  · have h1 := h j (by omega)
    have h2 := h (j + 1) (by omega)
    simp only [sumTo] at h2
    omega
  · rw [getD_ge (Nat.le_trans (valid_bd hp).2.2.2 hj), getD_ge (Nat.le_trans (valid_bd hq).2.2.2 hj)]
theorem mt_right (hp : valid P = true) (hq : valid Q = true) : mt P Q = Q ↔ ∀ k, k ≤ 16 → sumTo Q k ≤ sumTo P k := by
  constructor
  · intro h k hk
    have := sumTo_mt hp hq hk
    rw [h] at this
    unfold mf at this
    omega
  · intro h
    refine eq_of_sumTo (valid_mt hp hq) hq fun k hk => ?_
    rw [sumTo_mt hp hq hk]
    have := h k hk
    unfold mf
    omega
theorem mt_comm (P Q : List Int) : mt P Q = mt Q P := by
  unfold mt
  refine tr_congr fun i _ => ?_
  unfold mi mf
  omega
end
/-- P dominates Q -/
def dom (P Q : List Int) : Bool := valid P && valid Q && decide (sumL P = sumL Q) && (List.range 17).all fun k => decide (sumTo Q k ≤ sumTo P k)
theorem dom_iff {P Q : List Int} : dom P Q = true ↔ valid P = true ∧ valid Q = true ∧ sumL P = sumL Q ∧ ∀ k, k ≤ 16 → sumTo Q k ≤ sumTo P k := by
  unfold dom
  simp only [Bool.and_eq_true, List.all_eq_true, List.mem_range, decide_eq_true_eq]
  constructor
  · rintro ⟨⟨⟨hp, hq⟩, hs⟩, h⟩; exact ⟨hp, hq, hs, fun k hk => h k (by omega)⟩
  · rintro ⟨hp, hq, hs, h⟩; exact ⟨⟨⟨hp, hq⟩, hs⟩, fun k hk => h k (by omega)⟩

/-! the other way round -/
def csum (j : Nat) (L : List Int) : Int := sumL ((List.range j).map fun (t : Nat) => cnt ((t : Int) + 1) L)
theorem csum_cons (j : Nat) (x : Int) (r : List Int) : csum j (x :: r) = tsum j x + csum j r := by
  unfold csum
  induction j with
  | zero => rfl
  | succ j ih =>
    have e2 : tsum (j + 1) x = tsum j x + if (j : Int) + 1 ≤ x then 1 else 0 := by
      simp [tsum, List.range_succ, sumL_append, sumL]
    rw [List.range_succ, List.map_append, sumL_append, ih, List.map_append, sumL_append, e2]
    simp [cnt, sumL]; omega
theorem csum_nil (j : Nat) : csum j [] = 0 := by
  unfold csum
  induction j with
  | zero => rfl
  | succ j ih => rw [List.range_succ, List.map_append, sumL_append, ih]; simp [cnt, sumL]
theorem sumTo_conj {L : List Int} (hv : valid L = true) (j : Nat) : sumTo (conj L) j = csum j L := by
  unfold csum
  induction j with
  | zero => rfl
  | succ j ih => rw [sumTo, ih, conj_getD hv, List.range_succ, List.map_append, sumL_append]; simp [sumL]
theorem tsum_full (n : Nat) (x : Int) (h : (n : Int) ≤ x) : tsum n x = n := by
  induction n with
  | zero => simp [tsum, sumL]
  | succ n ih =>
    have e2 : tsum (n + 1) x = tsum n x + if (n : Int) + 1 ≤ x then 1 else 0 := by
      simp [tsum, List.range_succ, sumL_append, sumL]
    rw [e2, ih (by omega), if_pos (by omega)]
    omega
theorem cells_le (j : Nat) : ∀ (L : List Int) (k : Nat), (∀ x ∈ L, 0 ≤ x) → sumL (L.take k) + csum j L ≤ sumL L + (k : Int) * (j : Int)
  | [], k, _ => by
    rw [csum_nil]
    have : (0 : Int) ≤ (k : Int) * (j : Int) := Int.mul_nonneg (by omega) (by omega)
    simp [sumL]; exact this
  | x :: r, 0, h => by
    have ih := cells_le j r 0 fun y hy => h y (by simp [hy])
    have h1 := (tsum_le j x (h x (by simp))).1
    rw [csum_cons]
    simp [sumL] at ih ⊢
    omega
  | x :: r, k + 1, h => by
    have ih := cells_le j r k fun y hy => h y (by simp [hy])
    have h1 := (tsum_le j x (h x (by simp))).2
    rw [csum_cons]
    have e : ((k + 1 : Nat) : Int) * (j : Int) = (k : Int) * (j : Int) + (j : Int) := by rw [Int.natCast_add, Int.add_mul]; simp
    rw [e]
    simp only [List.take_succ_cons, sumL]
    omega
theorem cells_eq (j : Nat) : ∀ (L : List Int), mono L → (∀ x ∈ L, 0 ≤ x) → sumL (L.take (cnt ((j : Int) + 1) L).toNat) + csum j L = sumL L + cnt ((j : Int) + 1) L * (j : Int)
  | [], _, _ => by simp [csum_nil, cnt, sumL]
  | x :: r, hm, h => by
    by_cases hx : (j : Int) + 1 ≤ x
    · have ih := cells_eq j r hm.2 fun y hy => h y (by simp [hy])
      have hc := cnt_bd ((j : Int) + 1) r
      have e : cnt ((j : Int) + 1) (x :: r) = cnt ((j : Int) + 1) r + 1 := by rw [cnt, if_pos hx]; omega
      rw [e, csum_cons, tsum_full j x (by omega), show (cnt ((j : Int) + 1) r + 1).toNat = (cnt ((j : Int) + 1) r).toNat + 1 by omega, List.take_succ_cons, Int.add_mul]
      simp only [sumL]
      omega
    · have e : cnt ((j : Int) + 1) (x :: r) = 0 := cnt_none fun y hy => by
        rcases List.mem_cons.1 hy with rfl | hy
        · omega
        · have := hm.1 y hy; omega
      rw [e]
      have h2 : csum j (x :: r) = sumL (x :: r) := csum_eq j _ fun y hy => ⟨h y hy, by
        rcases List.mem_cons.1 hy with rfl | hy
        · omega
        · have := hm.1 y hy; omega⟩
      rw [h2]
      simp [sumL]
theorem dual {P Q : List Int} (hp : valid P = true) (hq : valid Q = true) (hs : sumL P = sumL Q) (h : ∀ k, k ≤ 16 → sumTo Q k ≤ sumTo P k) (j : Nat) : sumTo (conj P) j ≤ sumTo (conj Q) j := by
  rw [sumTo_conj hp, sumTo_conj hq]
  have hc := cnt_bd ((j : Int) + 1) Q
  have h1 := cells_eq j Q (mono_valid hq) (valid_nonneg hq)
  have h2 := cells_le j P (cnt ((j : Int) + 1) Q).toNat (valid_nonneg hp)
  have h3 := h (cnt ((j : Int) + 1) Q).toNat (by have := (valid_bd hq).2.2.2; omega)
  rw [sumTo_take, sumTo_take] at h3
  rw [show (((cnt ((j : Int) + 1) Q).toNat : Nat) : Int) = cnt ((j : Int) + 1) Q by omega] at h2
  omega
theorem dom_conj {P Q : List Int} (hp : valid P = true) (hq : valid Q = true) : dom (conj Q) (conj P) = dom P Q := by
  have key : ∀ {P Q : List Int}, dom P Q = true → dom (conj Q) (conj P) = true := by
    intro P Q h
    obtain ⟨hp, hq, hs, hk⟩ := dom_iff.1 h
    exact dom_iff.2 ⟨valid_conj hq, valid_conj hp, by rw [sumL_conj hp, sumL_conj hq, hs], fun k _ => dual hp hq hs hk k⟩
  rw [Bool.eq_iff_iff]
  refine ⟨fun h => ?_, key⟩
  have := key h
  rwa [conj_conj hp, conj_conj hq] at this
theorem conj_inj {P Q : List Int} (hp : valid P = true) (hq : valid Q = true) : conj P = conj Q ↔ P = Q :=
  ⟨fun h => by rw [← conj_conj hp, h, conj_conj hq], fun h => by rw [h]⟩
theorem pad_inj {P Q : List Int} (hp : valid P = true) (hq : valid Q = true) : pad P = pad Q ↔ P = Q :=
  ⟨fun h => valid_ext hp hq fun j => by rw [← pad_getD (valid_bd hp).2.2.2, h, pad_getD (valid_bd hq).2.2.2], fun h => by rw [h]⟩
/-- what is above both -/
def jn (P Q : List Int) : List Int := conj (mt (conj P) (conj Q))
theorem valid_jn {P Q : List Int} (hp : valid P = true) (hq : valid Q = true) : valid (jn P Q) = true := valid_conj (valid_mt (valid_conj hp) (valid_conj hq))
/-- the program's question: they are their own bounds -/
theorem dom_bounds {P Q : List Int} (hp : valid P = true) (hq : valid Q = true) : dom P Q = (decide (mt P Q = Q) && decide (jn P Q = P)) := by
  have h2 : jn P Q = P ↔ ∀ k, k ≤ 16 → sumTo (conj P) k ≤ sumTo (conj Q) k := by
    rw [← mt_right (valid_conj hq) (valid_conj hp), mt_comm, ← conj_inj (valid_jn hp hq) hp]
    unfold jn
    rw [conj_conj (valid_mt (valid_conj hp) (valid_conj hq))]
  rw [Bool.eq_iff_iff, Bool.and_eq_true, decide_eq_true_eq, decide_eq_true_eq, dom_iff, mt_right hp hq, h2]
  constructor
  · rintro ⟨_, _, hs, h⟩; exact ⟨h, fun k _ => dual hp hq hs h k⟩
  · rintro ⟨h, h'⟩
    refine ⟨hp, hq, ?_, h⟩
    have a1 := h 16 (by omega)
    have a2 := h' 16 (by omega)
    rw [sumTo_all _ 16 (valid_bd hp).2.2.2, sumTo_all _ 16 (valid_bd hq).2.2.2] at a1
    rw [sumTo_all _ 16 (valid_bd (valid_conj hp)).2.2.2, sumTo_all _ 16 (valid_bd (valid_conj hq)).2.2.2, sumL_conj hp, sumL_conj hq] at a2
    omega
theorem ins_bounds {P Q : List Int} (hp : valid P = true) (hq : valid Q = true) : ins P Q = (decide ((List.range 16).map (lo2 P Q) = pad Q) && decide ((List.range 16).map (hi2 P Q) = pad P)) := by
  rw [Bool.eq_iff_iff, Bool.and_eq_true, decide_eq_true_eq, decide_eq_true_eq, ins_iff]
  have hpl := (valid_bd hp).2.2.2
  have hql := (valid_bd hq).2.2.2
  constructor
  · rintro ⟨_, _, h⟩
    constructor
    · apply List.ext_getElem
      · rw [pad_len hql]; simp
      · intro j h1 h2
        rw [← getD_lt h2, pad_getD hql]
        simp only [List.getElem_map, List.getElem_range]
        have := h j
        unfold lo2; omega
    · apply List.ext_getElem
      · rw [pad_len hpl]; simp
      · intro j h1 h2
        rw [← getD_lt h2, pad_getD hpl]
        simp only [List.getElem_map, List.getElem_range]
        have := h j
        unfold hi2; omega
  · rintro ⟨h, _⟩
    refine ⟨hp, hq, fun i => ?_⟩
    rcases Nat.lt_or_ge i 16 with hi | hi
    · have e := congrArg (fun l => l.getD i 0) h
      rw [map_getD, if_pos hi, pad_getD hql] at e
      unfold lo2 at e
      omega
    · rw [getD_ge (by omega)]; exact (getD_nn hp i).1

/-! ranks and cranks -/
def rnk (L : List Int) : Int := if valid L then L.headD 0 - L.length else 0
def crk (L : List Int) : Int := if valid L then (if eqc 1 L = 0 then L.headD 0 else cnt (eqc 1 L + 1) L - eqc 1 L) else 0
theorem rnk_yes {L : List Int} (h : valid L = true) : rnk L = L.headD 0 - L.length := by simp [rnk, h]
theorem rnk_no {L : List Int} (h : valid L = false) : rnk L = 0 := by simp [rnk, h]
theorem crk_yes {L : List Int} (h : valid L = true) : crk L = if eqc 1 L = 0 then L.headD 0 else cnt (eqc 1 L + 1) L - eqc 1 L := by simp [crk, h]
theorem crk_no {L : List Int} (h : valid L = false) : crk L = 0 := by simp [crk, h]
end NP
end Go.Proofs.Ytnheolhgdinjgaa
namespace Go.Proofs.Ytnheolhgdinjgaa
namespace NP
theorem head_le_sum {L : List Int} (h : valid L = true) : 0 ≤ L.headD 0 ∧ L.headD 0 ≤ sumL L ∧ (0 < L.length → 1 ≤ L.headD 0) := by
  cases L with
  | nil => simp [sumL]
  | cons x r =>
    have h0 := valid_nonneg h
    have h1 := (elem_le_sum h0 (q := 0) (by simp)).1
    have h2 := valid_ge1 h x (by simp)
    simp at h1 ⊢
    omega
theorem rnk_facts {P : List Int} (h : valid P = true) : rnk (conj P) = -rnk P ∧ rnk P < max (sumL P) 1 ∧ -rnk P < max (sumL P) 1 ∧ -16 ≤ rnk P ∧ rnk P ≤ 16 := by
  have hb := valid_bd h
  have h1 := head_le_sum h
  have hc := head_conj h
  have hcb := headD_bd (valid_conj h)
  rw [rnk_yes h, rnk_yes (valid_conj h), conj_len]
  by_cases h0 : 0 < P.length
  · have := h1.2.2 h0
    omega
  · obtain rfl : P = [] := List.eq_nil_of_length_eq_zero (by omega)
    simp [conj, sumL]
    omega
end NP
end Go.Proofs.Ytnheolhgdinjgaa
namespace Go.Proofs.Ytnheolhgdinjgaa
namespace NP
theorem cnt_le_sum {L : List Int} (h : ∀ x ∈ L, 1 ≤ x) (t : Int) : cnt t L ≤ sumL L ∧ 0 ≤ sumL L := by
  induction L with
  | nil => simp [cnt, sumL]
  | cons x r ih =>
    have h1 := ih fun y hy => h y (by simp [hy])
    have h2 := h x (by simp)
    rw [cnt, sumL]
    split <;> omega
theorem eqc_le_sum {L : List Int} (h : ∀ x ∈ L, 1 ≤ x) (t : Int) : eqc t L ≤ sumL L := by
  induction L with
  | nil => simp [eqc, sumL]
  | cons x r ih =>
    have h1 := ih fun y hy => h y (by simp [hy])
    have h2 := h x (by simp)
    rw [eqc_cons, sumL]
    split <;> omega
theorem crk_facts {P : List Int} (h : valid P = true) (h0 : 0 < P.length) : crk P ≤ sumL P ∧ -crk P ≤ sumL P ∧ (P[P.length - 1]'(by omega) = 1 ∨ crk P = P[0]) ∧ -16 ≤ crk P ∧ crk P ≤ 16 ∧ 1 ≤ P[P.length - 1]'(by omega) ∧ P[P.length - 1]'(by omega) ≤ 16 := by
  have hb := valid_bd h
  have h1 := head_le_sum h
  have hg := valid_ge1 h
  have hc := cnt_le_sum hg (eqc 1 P + 1)
  have hcb := cnt_bd (eqc 1 P + 1) P
  have he := eqc_le_sum hg 1
  have heb := eqc_bd 1 P
  have hl := hg _ (List.getElem_mem (show P.length - 1 < P.length by omega))
  have hl2 := preS_of_valid h (P.length - 1) (by omega) (by omega)
  have h0' : P.headD 0 = P[0] := headD_get P h0
  rw [crk_yes h]
  by_cases hz : eqc 1 P = 0
  · rw [if_pos hz]
    refine ⟨h1.2.1, by omega, .inr h0', by omega, by omega, hl, hl2.2.1⟩
  · rw [if_neg hz]
    have hm : (1 : Int) ∈ P := eqc_mem (by omega)
    obtain ⟨q, hq, e⟩ := List.mem_iff_getElem.1 hm
    have hf := falls_all h (P.length - 1) q (by omega) (by omega)
    refine ⟨by omega, by omega, .inl (by omega), by omega, by omega, hl, hl2.2.1⟩
end NP
end Go.Proofs.Ytnheolhgdinjgaa
namespace Go.Proofs.Ytnheolhgdinjgaa
open Go.RowKit NP
set_option maxRecDepth 8000
set_option linter.unusedVariables false
set_option linter.unusedSimpArgs false
theorem ins_no {P Q : List Int} {k : Nat} (h : P.getD k 0 < Q.getD k 0) : ins P Q = false := by
  cases hh : ins P Q with
  | false => rfl
  | true => have := (ins_iff.1 hh).2.2 k; omega
theorem sumTo_bd {L : List Int} (hv : valid L = true) (k : Nat) : 0 ≤ sumTo L k ∧ sumTo L k ≤ 16 := by
  rw [sumTo_take]
  have := valid_bd (valid_take hv k)
  omega
theorem dom_no {P Q : List Int} {k : Nat} (hk : k ≤ 16) (h : sumTo P k < sumTo Q k) : dom P Q = false := by
  cases hh : dom P Q with
  | false => rfl
  | true => have := (dom_iff.1 hh).2.2.2 k hk; omega
theorem dom_yes {P Q : List Int} (hp : valid P = true) (hq : valid Q = true) {n : Nat} (h1 : P.length ≤ n) (h2 : Q.length ≤ n) (h : ∀ j, j ≤ n → sumTo Q j ≤ sumTo P j) : dom P Q = (sumL P == sumL Q) := by
  rw [Bool.eq_iff_iff, dom_iff, beq_iff_eq]
  constructor
  · rintro ⟨_, _, hs, _⟩; exact hs
  · intro hs
    refine ⟨hp, hq, hs, fun k _ => ?_⟩
    rcases Nat.lt_or_ge k n with hk | hk
    · exact h k (by omega)
    · rw [sumTo_all P k (by omega), sumTo_all Q k (by omega), hs]; exact Int.le_refl _
theorem mt_at {P Q : List Int} {n : Nat} (h1 : P.length ≤ n) (h2 : Q.length ≤ n) (hn : n ≤ 16) : tr (mi P Q) n = mt P Q := by
  unfold NP.mt
  refine (tr_more hn fun i hi => ?_).symm
  unfold mi mf
  simp only [sumTo]
  rw [getD_ge (by omega), getD_ge (by omega)]
  omega
def oneS' (P Q : List Int) : Bool := valid P && valid Q && (sumL P == sumL Q)
def mtF (P Q : List Int) : List Int := if oneS' P Q then mt P Q else []
def jnF (P Q : List Int) : List Int := if oneS' P Q then jn P Q else []
theorem oneS_out {P Q : List Int} (h : oneS' P Q = true) : valid P = true ∧ valid Q = true ∧ sumL P = sumL Q := by
  unfold oneS' at h
  simp only [Bool.and_eq_true, beq_iff_eq] at h
  exact ⟨h.1.1, h.1.2, h.2⟩
theorem mtF_yes {P Q : List Int} (h : oneS' P Q = true) : mtF P Q = mt P Q := by simp [mtF, h]
theorem mtF_no {P Q : List Int} (h : oneS' P Q = false) : mtF P Q = [] := by simp [mtF, h]
theorem jnF_yes {P Q : List Int} (h : oneS' P Q = true) : jnF P Q = jn P Q := by simp [jnF, h]
theorem jnF_no {P Q : List Int} (h : oneS' P Q = false) : jnF P Q = [] := by simp [jnF, h]
theorem mtF_len (P Q : List Int) : (mtF P Q).length ≤ 16 := by
  cases h : oneS' P Q with
  | true => rw [mtF_yes h]; obtain ⟨h1, h2, _⟩ := oneS_out h; exact (valid_bd (valid_mt h1 h2)).2.2.2
  | false => rw [mtF_no h]; simp
theorem jnF_len (P Q : List Int) : (jnF P Q).length ≤ 16 := by
  cases h : oneS' P Q with
  | true => rw [jnF_yes h]; obtain ⟨h1, h2, _⟩ := oneS_out h; exact (valid_bd (valid_jn h1 h2)).2.2.2
  | false => rw [jnF_no h]; simp



end Go.Proofs.Ytnheolhgdinjgaa
namespace Go.Proofs.Ytnheolhgdinjgaa
open NP
set_option linter.unusedVariables false
theorem ins_conj_le {P Q : List Int} (h : ins P Q = true) : ins (conj P) (conj Q) = true := by
  obtain ⟨hp, hq, hk⟩ := ins_iff.1 h
  refine ins_iff.2 ⟨valid_conj hp, valid_conj hq, fun j => ?_⟩
  rw [conj_getD hp, conj_getD hq]
  have hb := cnt_bd ((j : Int) + 1) Q
  have hb2 := cnt_bd ((j : Int) + 1) P
  obtain ⟨m, hm⟩ := Int.eq_ofNat_of_zero_le hb.1
  rw [hm]
  by_cases h0 : m = 0
  · subst h0; simpa using hb2.1
  · have hl : m - 1 < Q.length := by have := hb.2; omega
    have h1 := (cnt_ge_iff hq hl ((j : Int) + 1)).1 (by rw [hm]; omega)
    have h2 := hk (m - 1)
    rw [getD_lt hl] at h2
    have hlp : m - 1 < P.length := by
      rcases Nat.lt_or_ge (m - 1) P.length with h3 | h3
      · exact h3
      · rw [getD_ge h3] at h2; omega
    rw [getD_lt hlp] at h2
    have h3 := (cnt_ge_iff hp hlp ((j : Int) + 1)).2 (by omega)
    omega
theorem ins_conj {P Q : List Int} (hp : valid P = true) (hq : valid Q = true) : ins (conj P) (conj Q) = ins P Q := by
  rw [Bool.eq_iff_iff]
  refine ⟨fun h => ?_, ins_conj_le⟩
  have := ins_conj_le h
  rwa [conj_conj hp, conj_conj hq] at this
theorem ins_sum {P Q : List Int} (h : ins P Q = true) : sumL Q ≤ sumL P := by
  obtain ⟨hp, hq, hk⟩ := ins_iff.1 h
  have key : ∀ n, sumTo Q n ≤ sumTo P n := by
    intro n
    induction n with
    | zero => exact Int.le_refl _
    | succ n ih => have := hk n; rw [sumTo, sumTo]; omega
  have := key 16
  rwa [sumTo_all Q 16 (valid_bd hq).2.2.2, sumTo_all P 16 (valid_bd hp).2.2.2] at this
theorem dom_self {P : List Int} (hp : valid P = true) : dom P P = true := dom_iff.2 ⟨hp, hp, rfl, fun _ _ => Int.le_refl _⟩
theorem dom_anti {P Q : List Int} (h : dom P Q = true) : dom Q P = decide (P = Q) := by
  obtain ⟨hp, hq, hs, hk⟩ := dom_iff.1 h
  rw [Bool.eq_iff_iff, decide_eq_true_eq]
  constructor
  · intro h2
    have hk2 := (dom_iff.1 h2).2.2.2
    exact eq_of_sumTo hp hq fun k hk' => by have := hk k hk'; have := hk2 k hk'; omega
  · rintro rfl; exact dom_self hp
theorem dom_ne {P Q : List Int} (hp : valid P = true) (h : dom P Q = false) : decide (P = Q) = false := by
  rw [decide_eq_false_iff_not]
  rintro rfl
  rw [dom_self hp] at h
  cases h
theorem oneS_conj {P Q : List Int} (h : oneS' P Q = true) : oneS' (conj P) (conj Q) = true := by
  obtain ⟨hp, hq, hs⟩ := oneS_out h
  unfold oneS'
  rw [valid_conj hp, valid_conj hq, sumL_conj hp, sumL_conj hq, hs]
  simp
theorem dom_mt {P Q : List Int} (hp : valid P = true) (hq : valid Q = true) (hs : sumL P = sumL Q) : dom P (NP.mt P Q) = true := by
  refine dom_iff.2 ⟨hp, valid_mt hp hq, ?_, fun k hk => ?_⟩
  · rw [sum_mt hp hq]; omega
  · rw [sumTo_mt hp hq hk]; unfold mf; omega
theorem jn_facts {P Q : List Int} (h : oneS' P Q = true) : dom (jn P Q) P = true ∧ dom (jn P Q) Q = true ∧ oneS' P (jn P Q) = true ∧ mtF P (jn P Q) = P ∧ mtF (conj P) (conj Q) = conj (jn P Q) := by
  obtain ⟨hp, hq, hs⟩ := oneS_out h
  have hj := valid_jn hp hq
  have hcs : sumL (conj P) = sumL (conj Q) := by rw [sumL_conj hp, sumL_conj hq, hs]
  have hcj : conj (jn P Q) = NP.mt (conj P) (conj Q) := conj_conj (valid_mt (valid_conj hp) (valid_conj hq))
  have d1 : dom (jn P Q) P = true := by rw [← dom_conj hj hp, hcj]; exact dom_mt (valid_conj hp) (valid_conj hq) hcs
  have d2 : dom (jn P Q) Q = true := by rw [← dom_conj hj hq, hcj, mt_comm]; exact dom_mt (valid_conj hq) (valid_conj hp) hcs.symm
  have ho : oneS' P (jn P Q) = true := by
    unfold oneS'
    rw [hp, hj, (dom_iff.1 d1).2.2.1]
    simp
  refine ⟨d1, d2, ho, ?_, ?_⟩
  · rw [mtF_yes ho, mt_comm]
    exact (mt_right hj hp).2 (dom_iff.1 d1).2.2.2
  · rw [mtF_yes (oneS_conj h), hcj]
theorem oneS_comm (P Q : List Int) : oneS' P Q = oneS' Q P := by
  unfold oneS'
  rw [Bool.eq_iff_iff]
  simp only [Bool.and_eq_true, beq_iff_eq]
  constructor
  · rintro ⟨⟨a, b⟩, c⟩; exact ⟨⟨b, a⟩, c.symm⟩
  · rintro ⟨⟨a, b⟩, c⟩; exact ⟨⟨b, a⟩, c.symm⟩
end Go.Proofs.Ytnheolhgdinjgaa
namespace Go.Proofs.Ytnheolhgdinjgaa
namespace NP
set_option linter.unusedVariables false
set_option linter.unusedSimpArgs false
/-- the positive ones of the first 16 numbers -/
def lst (g : Nat → Int) : List Int := ((List.range 16).map g).filter fun x => decide (0 < x)
/-- numbers fall, none below 0, and are 0 from the place 16 on -/
structure Fal (g : Nat → Int) : Prop where
  nn : ∀ i, 0 ≤ g i
  le : ∀ i, g (i + 1) ≤ g i
  z : ∀ i, 16 ≤ i → g i = 0
theorem Fal.mono {g : Nat → Int} (h : Fal g) {i j : Nat} (hij : i ≤ j) : g j ≤ g i := by
  obtain ⟨d, rfl⟩ := Nat.exists_eq_add_of_le hij
  induction d with
  | zero => exact Int.le_refl _
  | succ d ih => have := h.le (i + d); have := ih (by omega); have e : i + (d + 1) = i + d + 1 := by omega
                 rw [e]; omega
/-- what is positive stands ahead: taking the rest away changes nothing -/
theorem filt_getD (M : List Int) (hn : ∀ x ∈ M, 0 ≤ x) (hm : ∀ i j, i ≤ j → j < M.length → M.getD j 0 ≤ M.getD i 0) (i : Nat) : (M.filter fun x => decide (0 < x)).getD i 0 = M.getD i 0 := by
  induction M generalizing i with
  | nil => rfl
  | cons x R ih =>
    have hR : ∀ i j, i ≤ j → j < R.length → R.getD j 0 ≤ R.getD i 0 := fun i j h1 h2 => by
      have := hm (i + 1) (j + 1) (by omega) (by simp; omega)
      simpa using this
    have hnR : ∀ y ∈ R, 0 ≤ y := fun y hy => hn y (List.mem_cons_of_mem _ hy)
    by_cases hx : 0 < x
    · rw [List.filter_cons_of_pos (by simpa using hx)]
      cases i with
      | zero => rfl
      | succ i =>
        have := ih hnR hR i
        simpa using this
    · have hx0 : x = 0 := by have := hn x (List.mem_cons_self ..); omega
      have hall : ∀ y ∈ R, y = 0 := fun y hy => by
        obtain ⟨j, hj, rfl⟩ := List.mem_iff_getElem.1 hy
        have h1 := hm 0 (j + 1) (by omega) (by simp; omega)
        have h2 := hn R[j] (List.mem_cons_of_mem _ hy)
        simp at h1
        rw [List.getElem?_eq_getElem hj] at h1
        simp at h1
        omega
      have hf : (x :: R).filter (fun x => decide (0 < x)) = [] := by
        rw [List.filter_eq_nil_iff]
        intro y hy
        rcases List.mem_cons.1 hy with rfl | hy
        · simp; omega
        · have := hall y hy; simp; omega
      rw [hf]
      cases i with
      | zero => simp [hx0]
      | succ i =>
        show (0 : Int) = (x :: R).getD (i + 1) 0
        rcases Nat.lt_or_ge i R.length with h | h
        · have := hall R[i] (List.getElem_mem h)
          simp [List.getElem?_eq_getElem h, this]
        · simp [List.getElem?_eq_none h]
theorem map16_getD (g : Nat → Int) (hz : ∀ i, 16 ≤ i → g i = 0) (i : Nat) : ((List.range 16).map g).getD i 0 = g i := by
  rcases Nat.lt_or_ge i 16 with h | h
  · rw [getD_lt (by simp; exact h)]; simp
  · rw [getD_ge (by simp; exact h), hz i h]
theorem lst_getD {g : Nat → Int} (h : Fal g) (i : Nat) : (lst g).getD i 0 = g i := by
  unfold lst
  rw [filt_getD _ (fun x hx => by
      obtain ⟨j, -, rfl⟩ := List.mem_map.1 hx
      exact h.nn j) (fun i j hij hj => by rw [map16_getD g h.z, map16_getD g h.z]; exact h.mono hij), map16_getD g h.z]
theorem lst_pos (g : Nat → Int) : ∀ x ∈ lst g, 0 < x := fun x hx => by
  have := (List.mem_filter.1 hx).2
  simpa using this
theorem lst_len (g : Nat → Int) : (lst g).length ≤ 16 := by
  have := List.length_filter_le (fun x => decide (0 < x)) ((List.range 16).map g)
  unfold lst
  simpa using this
/-- positive numbers with the same ones at each place are the same -/
theorem pos_ext {A B : List Int} (ha : ∀ x ∈ A, 0 < x) (hb : ∀ x ∈ B, 0 < x) (h : ∀ i, A.getD i 0 = B.getD i 0) : A = B := by
  induction A generalizing B with
  | nil =>
    cases B with
    | nil => rfl
    | cons y R => have := h 0; have := hb y (List.mem_cons_self ..); simp at *; omega
  | cons x R ih =>
    cases B with
    | nil => have := h 0; have := ha x (List.mem_cons_self ..); simp at *; omega
    | cons y S =>
      have h0 := h 0
      simp at h0
      rw [h0, ih (fun z hz => ha z (List.mem_cons_of_mem _ hz)) (fun z hz => hb z (List.mem_cons_of_mem _ hz)) (fun i => by simpa using h (i + 1))]
theorem pad_gD {L : List Int} (h : L.length ≤ 16) (i : Nat) : (pad L).getD i 0 = L.getD i 0 := by
  unfold pad
  rcases Nat.lt_or_ge i L.length with h1 | h1
  · rw [getD_lt (by simp; omega), getD_lt h1, List.getElem_append_left h1]
  · rw [getD_ge h1]
    rcases Nat.lt_or_ge i 16 with h2 | h2
    · rw [getD_lt (by simp; omega), List.getElem_append_right h1]; simp
    · rw [getD_ge (by simp; omega)]
theorem list_ext16 {A B : List Int} (ha : A.length = 16) (hb : B.length = 16) (h : ∀ i, i < 16 → A.getD i 0 = B.getD i 0) : A = B := by
  apply List.ext_getElem (by omega)
  intro i h1 h2
  have := h i (by omega)
  rwa [getD_lt h1, getD_lt h2] at this
theorem pad_lst {g : Nat → Int} (h : Fal g) : pad (lst g) = (List.range 16).map g :=
  list_ext16 (pad_len (lst_len g)) (by simp) fun i _ => by rw [pad_gD (lst_len g), lst_getD h, map16_getD g h.z]
theorem fal_of_valid {L : List Int} (h : valid L = true) : Fal fun i => L.getD i 0 := by
  have hn := valid_nonneg h
  refine ⟨fun i => ?_, fun i => ?_, fun i hi => getD_ge (by have := (valid_bd h).2.2.2; omega)⟩
  · rcases Nat.lt_or_ge i L.length with h1 | h1
    · show 0 ≤ L.getD i 0
      rw [getD_lt h1]; exact hn _ (List.getElem_mem h1)
    · show 0 ≤ L.getD i 0
      rw [getD_ge h1]; exact Int.le_refl _
  · show L.getD (i + 1) 0 ≤ L.getD i 0
    rcases Nat.lt_or_ge (i + 1) L.length with h1 | h1
    · rw [getD_lt h1, getD_lt (by omega)]
      exact falls_all h (i + 1) i h1 (by omega)
    · rw [getD_ge h1]
      rcases Nat.lt_or_ge i L.length with h2 | h2
      · rw [getD_lt h2]; exact hn _ (List.getElem_mem h2)
      · rw [getD_ge h2]; exact Int.le_refl _
theorem valid_pos {L : List Int} (h : valid L = true) : ∀ x ∈ L, 0 < x := fun x hx => by
  obtain ⟨j, hj, rfl⟩ := List.mem_iff_getElem.1 hx
  have := (preS_of_valid h j hj hj).1
  omega
theorem lst_valid {L : List Int} (h : valid L = true) : lst (fun i => L.getD i 0) = L :=
  pos_ext (lst_pos _) (valid_pos h) fun i => lst_getD (fal_of_valid h) i
theorem sumL_nn {M : List Int} (h : ∀ x ∈ M, 0 ≤ x) : 0 ≤ sumL M := by
  induction M with
  | nil => exact Int.le_refl _
  | cons x R ih => have := ih (fun y hy => h y (List.mem_cons_of_mem _ hy)); have := h x (List.mem_cons_self ..); simp only [sumL]; omega
theorem sumL_mem {M : List Int} (h : ∀ x ∈ M, 0 ≤ x) {x : Int} (hx : x ∈ M) : x ≤ sumL M := by
  induction M with
  | nil => cases hx
  | cons y R ih =>
    have h1 := h y (List.mem_cons_self ..)
    have h2 := sumL_nn (M := R) (fun z hz => h z (List.mem_cons_of_mem _ hz))
    simp only [sumL]
    rcases List.mem_cons.1 hx with rfl | hx
    · omega
    · have := ih (fun z hz => h z (List.mem_cons_of_mem _ hz)) hx; omega
def s16 (g : Nat → Int) : Int := sumL ((List.range 16).map g)
theorem sumL_filter (M : List Int) (h : ∀ x ∈ M, 0 ≤ x) : sumL (M.filter fun x => decide (0 < x)) = sumL M := by
  induction M with
  | nil => rfl
  | cons x R ih =>
    have hi := ih (fun y hy => h y (List.mem_cons_of_mem _ hy))
    by_cases hx : 0 < x
    · rw [List.filter_cons_of_pos (by simpa using hx)]
      simp only [sumL, hi]
    · rw [List.filter_cons_of_neg (by simpa using hx)]
      have := h x (List.mem_cons_self ..)
      simp only [sumL, hi]
      omega
theorem sum_lst {g : Nat → Int} (h : ∀ i, 0 ≤ g i) : sumL (lst g) = s16 g := sumL_filter _ fun x hx => by
  obtain ⟨j, -, rfl⟩ := List.mem_map.1 hx
  exact h j
theorem valid_lst {g : Nat → Int} (h : Fal g) (hs : s16 g ≤ 16) : valid (lst g) = true := by
  refine valid_of_preS (fun j hj _ => ?_) (by rw [sum_lst h.nn]; exact hs)
  have h0 := lst_pos g _ (List.getElem_mem hj)
  have e : ∀ i (hi : i < (lst g).length), (lst g)[i] = g i := fun i hi => by rw [← getD_lt hi, lst_getD h]
  refine ⟨by omega, ?_, fun h1 => ?_⟩
  · have hsum := sumL_mem (M := (List.range 16).map g) (fun x hx => by
      obtain ⟨j, -, rfl⟩ := List.mem_map.1 hx
      exact h.nn j) (x := (lst g)[j]) ((List.mem_filter.1 (List.getElem_mem hj)).1)
    have : sumL ((List.range 16).map g) ≤ 16 := hs
    omega
  · rw [e j hj, e (j - 1) (by omega)]
    have := h.le (j - 1)
    have e2 : j - 1 + 1 = j := by omega
    rwa [e2] at this
/-- the number at a place of rows -/
def gr (LL : List (List Int)) (i k : Nat) : Int := (LL.getD i []).getD k 0
def sumLL (LL : List (List Int)) : Int := sumL (LL.map sumL)
def pgd (LL : List (List Int)) (i : Nat) : Prop := valid (LL.getD i []) = true ∧ LL.getD i [] ≠ [] ∧ (0 < i → ins (LL.getD (i - 1) []) (LL.getD i []) = true)
instance (LL : List (List Int)) (i : Nat) : Decidable (pgd LL i) := by unfold pgd; infer_instance
/-- rows are a pile -/
def vpl (LL : List (List Int)) : Bool := decide (∀ i, i < LL.length → pgd LL i) && decide (sumLL LL ≤ 16)
theorem vpl_iff {LL : List (List Int)} : vpl LL = true ↔ (∀ i, i < LL.length → pgd LL i) ∧ sumLL LL ≤ 16 := by
  unfold vpl
  rw [Bool.and_eq_true, decide_eq_true_eq, decide_eq_true_eq]
theorem gl_lt {LL : List (List Int)} {i : Nat} (h : i < LL.length) : LL.getD i [] = LL[i] := by rw [List.getD_eq_getElem?_getD, List.getElem?_eq_getElem h]; rfl
theorem gl_ge {LL : List (List Int)} {i : Nat} (h : LL.length ≤ i) : LL.getD i [] = [] := by rw [List.getD_eq_getElem?_getD, List.getElem?_eq_none h]; rfl
theorem valid_ne_sum {L : List Int} (h : valid L = true) (hn : L ≠ []) : 1 ≤ sumL L := by
  have := (valid_bd h).2.2.1
  have : 0 < L.length := List.length_pos_iff.2 hn
  omega
theorem pgd_sum {LL : List (List Int)} (h : ∀ i, i < LL.length → pgd LL i) : (LL.length : Int) ≤ sumLL LL := by
  have : ∀ (M : List (List Int)), (∀ L ∈ M, 1 ≤ sumL L) → (M.length : Int) ≤ sumLL M := by
    intro M
    induction M with
    | nil => intro _; exact Int.le_refl _
    | cons x R ih =>
      intro h
      have h1 := ih (fun L hL => h L (List.mem_cons_of_mem _ hL))
      have h2 := h x (List.mem_cons_self ..)
      simp [sumLL, sumL] at h1 ⊢
      omega
  refine this LL fun L hL => ?_
  obtain ⟨j, hj, rfl⟩ := List.mem_iff_getElem.1 hL
  have := h j hj
  unfold pgd at this
  rw [gl_lt hj] at this
  exact valid_ne_sum this.1 this.2.1
theorem vpl_len {LL : List (List Int)} (h : vpl LL = true) : LL.length ≤ 16 := by
  have := vpl_iff.1 h
  have := pgd_sum this.1
  omega
theorem vpl_valid {LL : List (List Int)} (h : vpl LL = true) (i : Nat) : valid (LL.getD i []) = true := by
  rcases Nat.lt_or_ge i LL.length with h1 | h1
  · exact ((vpl_iff.1 h).1 i h1).1
  · rw [gl_ge h1]; rfl
/-- the numbers of a pile fall both ways -/
structure Pl (G : Nat → Nat → Int) : Prop where
  row : ∀ i, Fal (G i)
  col : ∀ k, Fal fun i => G i k
theorem pl_of {LL : List (List Int)} (h : vpl LL = true) : Pl (gr LL) := by
  refine ⟨fun i => fal_of_valid (vpl_valid h i), fun k => ⟨fun i => (fal_of_valid (vpl_valid h i)).nn k, fun i => ?_, fun i hi => ?_⟩⟩
  · show (LL.getD (i + 1) []).getD k 0 ≤ (LL.getD i []).getD k 0
    rcases Nat.lt_or_ge (i + 1) LL.length with h1 | h1
    · have := ((vpl_iff.1 h).1 (i + 1) h1).2.2 (by omega)
      rw [Nat.add_sub_cancel] at this
      exact (ins_iff.1 this).2.2 k
    · rw [gl_ge h1]
      exact (fal_of_valid (vpl_valid h i)).nn k
  · show (LL.getD i []).getD k 0 = 0
    rw [gl_ge (by have := vpl_len h; omega)]; rfl
/-- the rows of numbers that fall both ways -/
def pilG (G : Nat → Nat → Int) : List (List Int) := ((List.range 16).map fun i => lst (G i)).filter fun L => !L.isEmpty
theorem filtE_getD (R : List (List Int)) (hm : ∀ i j, i ≤ j → R.getD i [] = [] → R.getD j [] = []) (i : Nat) : (R.filter fun L => !L.isEmpty).getD i [] = R.getD i [] := by
  induction R generalizing i with
  | nil => rfl
  | cons x S ih =>
    have hS : ∀ i j, i ≤ j → S.getD i [] = [] → S.getD j [] = [] := fun i j h1 h2 => by
      have := hm (i + 1) (j + 1) (by omega) (by simpa using h2)
      simpa using this
    cases hx : x.isEmpty with
    | false =>
      rw [List.filter_cons_of_pos (by simp [hx])]
      cases i with
      | zero => rfl
      | succ i => simpa using ih hS i
    | true =>
      have hx0 : x = [] := List.isEmpty_iff.1 hx
      have hall : ∀ j, S.getD j [] = [] := fun j => by
        have := hm 0 (j + 1) (by omega) (by simp [hx0])
        simpa using this
      have hf : (x :: S).filter (fun L => !L.isEmpty) = [] := by
        rw [List.filter_eq_nil_iff]
        intro y hy
        rcases List.mem_cons.1 hy with rfl | hy
        · simp [hx]
        · obtain ⟨j, hj, rfl⟩ := List.mem_iff_getElem.1 hy
          have := hall j
          rw [gl_lt hj] at this
          simp [this]
      rw [hf]
      cases i with
      | zero => simp [hx0]
      | succ i => have := hall i; simp at this ⊢; rw [this]
theorem lst_nil {g : Nat → Int} (h : Fal g) : lst g = [] ↔ g 0 = 0 := by
  constructor
  · intro e
    have := lst_getD h 0
    rw [e] at this
    simpa using this.symm
  · intro e
    refine pos_ext (lst_pos g) (by simp) fun i => ?_
    rw [lst_getD h]
    have h1 := h.mono (Nat.zero_le i)
    have h2 := h.nn i
    simp
    omega
theorem rows_getD (G : Nat → Nat → Int) (hz : ∀ i, 16 ≤ i → lst (G i) = []) (i : Nat) : ((List.range 16).map fun i => lst (G i)).getD i [] = lst (G i) := by
  rcases Nat.lt_or_ge i 16 with h | h
  · rw [gl_lt (by simp; exact h)]; simp
  · rw [gl_ge (by simp; exact h), hz i h]
theorem pilG_getD {G : Nat → Nat → Int} (h : Pl G) (i : Nat) : (pilG G).getD i [] = lst (G i) := by
  have hz : ∀ i, 16 ≤ i → lst (G i) = [] := fun i hi => (lst_nil (h.row i)).2 ((h.col 0).z i hi)
  unfold pilG
  rw [filtE_getD _ (fun i j hij he => ?_), rows_getD G hz]
  rw [rows_getD G hz] at he ⊢
  rw [lst_nil (h.row _)] at he ⊢
  have h1 : G j 0 ≤ G i 0 := (h.col 0).mono hij
  have h2 : 0 ≤ G j 0 := (h.col 0).nn j
  omega
theorem gr_pof {G : Nat → Nat → Int} (h : Pl G) (i k : Nat) : gr (pilG G) i k = G i k := by
  unfold gr
  rw [pilG_getD h, lst_getD (h.row i)]
theorem pilG_len (G : Nat → Nat → Int) : (pilG G).length ≤ 16 := by
  have := List.length_filter_le (fun L : List Int => !L.isEmpty) ((List.range 16).map fun i => lst (G i))
  unfold pilG
  simpa using this
theorem pilG_ne (G : Nat → Nat → Int) : ∀ L ∈ pilG G, L ≠ [] := fun L hL => by
  have := (List.mem_filter.1 hL).2
  simpa using this
/-- rows that are never empty, with the same rows at each place, are the same -/
theorem ne_ext {A B : List (List Int)} (ha : ∀ L ∈ A, L ≠ []) (hb : ∀ L ∈ B, L ≠ []) (h : ∀ i, A.getD i [] = B.getD i []) : A = B := by
  induction A generalizing B with
  | nil =>
    cases B with
    | nil => rfl
    | cons y R => have := h 0; exact absurd (by simpa using this.symm) (hb y (List.mem_cons_self ..))
  | cons x R ih =>
    cases B with
    | nil => have := h 0; exact absurd (by simpa using this) (ha x (List.mem_cons_self ..))
    | cons y S =>
      have h0 := h 0
      simp at h0
      rw [h0, ih (fun z hz => ha z (List.mem_cons_of_mem _ hz)) (fun z hz => hb z (List.mem_cons_of_mem _ hz)) (fun i => by simpa using h (i + 1))]
theorem vpl_ne {LL : List (List Int)} (h : vpl LL = true) : ∀ L ∈ LL, L ≠ [] := fun L hL => by
  obtain ⟨j, hj, rfl⟩ := List.mem_iff_getElem.1 hL
  have := ((vpl_iff.1 h).1 j hj).2.1
  rwa [gl_lt hj] at this
theorem pilG_gr {LL : List (List Int)} (h : vpl LL = true) : pilG (gr LL) = LL :=
  ne_ext (pilG_ne _) (vpl_ne h) fun i => by rw [pilG_getD (pl_of h)]; exact lst_valid (vpl_valid h i)
def s256 (G : Nat → Nat → Int) : Int := s16 fun i => s16 (G i)
theorem sumLL_filter (R : List (List Int)) : sumLL (R.filter fun L => !L.isEmpty) = sumLL R := by
  induction R with
  | nil => rfl
  | cons x S ih =>
    cases hx : x.isEmpty with
    | false => rw [List.filter_cons_of_pos (by simp [hx])]; simp [sumLL, sumL] at ih ⊢; omega
    | true => rw [List.filter_cons_of_neg (by simp [hx]), List.isEmpty_iff.1 hx]; simp [sumLL, sumL] at ih ⊢; omega
theorem sumLL_pof {G : Nat → Nat → Int} (h : Pl G) : sumLL (pilG G) = s256 G := by
  unfold pilG
  rw [sumLL_filter]
  unfold sumLL s256
  rw [List.map_map]
  show sumL ((List.range 16).map fun i => sumL (lst (G i))) = sumL ((List.range 16).map fun i => s16 (G i))
  congr 1
  apply List.map_congr_left
  intro i _
  exact sum_lst (h.row i).nn
theorem s16_nn {g : Nat → Int} (h : ∀ i, 0 ≤ g i) : 0 ≤ s16 g := sumL_nn fun x hx => by
  obtain ⟨j, -, rfl⟩ := List.mem_map.1 hx
  exact h j
theorem s16_le {g : Nat → Int} (h : ∀ i, 0 ≤ g i) {i : Nat} (hi : i < 16) : g i ≤ s16 g := sumL_mem (fun x hx => by
  obtain ⟨j, -, rfl⟩ := List.mem_map.1 hx
  exact h j) (List.mem_map.2 ⟨i, List.mem_range.2 hi, rfl⟩)
theorem vpl_pof {G : Nat → Nat → Int} (h : Pl G) (hs : s256 G ≤ 16) : vpl (pilG G) = true := by
  have hrow : ∀ i, s16 (G i) ≤ 16 := fun i => by
    rcases Nat.lt_or_ge i 16 with hi | hi
    · have h1 : s16 (G i) ≤ s256 G := s16_le (g := fun i => s16 (G i)) (fun i => s16_nn (h.row i).nn) hi
      omega
    · have hz : ∀ k, G i k = 0 := fun k => (h.col k).z i hi
      have : s16 (G i) = 0 := by
        unfold s16
        rw [List.map_congr_left (g := fun _ => (0 : Int)) (fun k _ => hz k)]
        decide
      omega
  have hv : ∀ i, valid (lst (G i)) = true := fun i => valid_lst (h.row i) (hrow i)
  refine vpl_iff.2 ⟨fun i hi => ⟨by rw [pilG_getD h]; exact hv i, ?_, fun h0 => ?_⟩, by rw [sumLL_pof h]; exact hs⟩
  · rw [gl_lt hi]
    exact pilG_ne G _ (List.getElem_mem hi)
  · rw [pilG_getD h, pilG_getD h]
    refine ins_iff.2 ⟨hv _, hv _, fun k => ?_⟩
    rw [lst_getD (h.row _), lst_getD (h.row _)]
    have := (h.col k).le (i - 1)
    have e : i - 1 + 1 = i := by omega
    rw [e] at this
    exact this
/-- rows and columns exchanged -/
def turnP (LL : List (List Int)) : List (List Int) := pilG fun a i => gr LL i a
theorem Pl.turn {G : Nat → Nat → Int} (h : Pl G) : Pl fun a i => G i a := ⟨h.col, h.row⟩
theorem sumL_addF (n : Nat) (f g : Nat → Int) : sumL ((List.range n).map fun i => f i + g i) = sumL ((List.range n).map f) + sumL ((List.range n).map g) := by
  induction n with
  | zero => rfl
  | succ n ih =>
    rw [List.range_succ, List.map_append, List.map_append, List.map_append, sumL_append, sumL_append, sumL_append, ih]
    simp [sumL]
    omega
theorem sum_swap (n m : Nat) (F : Nat → Nat → Int) : sumL ((List.range n).map fun i => sumL ((List.range m).map fun k => F i k)) = sumL ((List.range m).map fun k => sumL ((List.range n).map fun i => F i k)) := by
  induction n with
  | zero =>
    simp only [List.range_zero, List.map_nil, sumL]
    have : ∀ m, sumL ((List.range m).map fun _ => (0 : Int)) = 0 := by
      intro m
      induction m with
      | zero => rfl
      | succ m ih => rw [List.range_succ, List.map_append, sumL_append, ih]; rfl
    exact (this m).symm
  | succ n ih =>
    rw [List.range_succ, List.map_append, sumL_append, ih]
    have e : (fun k => sumL ((List.range n ++ [n]).map fun i => F i k)) = fun k => sumL ((List.range n).map fun i => F i k) + F n k := by
      funext k
      rw [List.map_append, sumL_append]
      simp [sumL]
    rw [e, sumL_addF]
    simp [sumL]
theorem s256_turn (G : Nat → Nat → Int) : s256 (fun a i => G i a) = s256 G := sum_swap 16 16 fun a i => G i a
theorem sumLL_gr {LL : List (List Int)} (h : vpl LL = true) : sumLL LL = s256 (gr LL) := by
  have := sumLL_pof (pl_of h)
  rwa [pilG_gr h] at this
theorem vpl_turn {LL : List (List Int)} (h : vpl LL = true) : vpl (turnP LL) = true :=
  vpl_pof (pl_of h).turn (by rw [s256_turn, ← sumLL_gr h]; exact (vpl_iff.1 h).2)
theorem gr_turn {LL : List (List Int)} (h : vpl LL = true) (a i : Nat) : gr (turnP LL) a i = gr LL i a := gr_pof (pl_of h).turn a i
theorem sum_turn {LL : List (List Int)} (h : vpl LL = true) : sumLL (turnP LL) = sumLL LL := by
  rw [sumLL_gr (vpl_turn h), sumLL_gr h]
  show s256 (fun a i => gr (turnP LL) a i) = _
  simp only [gr_turn h]
  exact s256_turn _
/-- piles with the same numbers are the same -/
theorem vpl_ext {A B : List (List Int)} (ha : vpl A = true) (hb : vpl B = true) (h : ∀ i k, gr A i k = gr B i k) : A = B := by
  rw [← pilG_gr ha, ← pilG_gr hb]
  congr 1
  funext i k
  exact h i k
theorem turn_turn {LL : List (List Int)} (h : vpl LL = true) : turnP (turnP LL) = LL :=
  vpl_ext (vpl_turn (vpl_turn h)) h fun i k => by rw [gr_turn (vpl_turn h), gr_turn h]
/-- each row turned up -/
def upP (LL : List (List Int)) : List (List Int) := LL.map conj
theorem up_getD (LL : List (List Int)) (i : Nat) : (upP LL).getD i [] = conj (LL.getD i []) := by
  unfold upP
  rcases Nat.lt_or_ge i LL.length with h | h
  · rw [gl_lt (by simpa using h), gl_lt h]; simp
  · rw [gl_ge (by simpa using h), gl_ge h]; rfl
theorem vpl_up {LL : List (List Int)} (h : vpl LL = true) : vpl (upP LL) = true := by
  have hv := vpl_valid h
  refine vpl_iff.2 ⟨fun i hi => ?_, ?_⟩
  · have hi' : i < LL.length := by simpa [upP] using hi
    have h1 := (vpl_iff.1 h).1 i hi'
    refine ⟨by rw [up_getD]; exact valid_conj (hv i), ?_, fun h0 => ?_⟩
    · rw [up_getD]
      intro e
      have := (conj_nil_iff (hv i)).1 (by rw [e]; rfl)
      exact h1.2.1 (List.eq_nil_of_length_eq_zero this)
    · rw [up_getD, up_getD]
      exact ins_conj_le (h1.2.2 h0)
  · have e : sumLL (upP LL) = sumLL LL := by
      unfold sumLL upP
      rw [List.map_map]
      congr 1
      apply List.map_congr_left
      intro L hL
      obtain ⟨j, hj, rfl⟩ := List.mem_iff_getElem.1 hL
      have := hv j
      rw [gl_lt hj] at this
      exact sumL_conj this
    rw [e]
    exact (vpl_iff.1 h).2
theorem sum_up {LL : List (List Int)} (h : vpl LL = true) : sumLL (upP LL) = sumLL LL := by
  unfold sumLL upP
  rw [List.map_map]
  congr 1
  apply List.map_congr_left
  intro L hL
  obtain ⟨j, hj, rfl⟩ := List.mem_iff_getElem.1 hL
  have := vpl_valid h j
  rw [gl_lt hj] at this
  exact sumL_conj this
theorem conj_gD {L : List Int} (h : valid L = true) (j : Nat) : (conj L).getD j 0 = cnt ((j : Int) + 1) L := by
  rcases Nat.lt_or_ge j (conj L).length with h1 | h1
  · rw [getD_lt h1, conj_get]
  · rw [getD_ge h1, cnt_none]
    intro x hx
    rw [conj_len] at h1
    have h2 := head_ge h x hx
    have h3 := headD_bd h
    omega
/-- the layers of a pile -/
def layP (LL : List (List Int)) : List (List Int) := turnP (upP LL)
theorem vpl_lay {LL : List (List Int)} (h : vpl LL = true) : vpl (layP LL) = true := vpl_turn (vpl_up h)
theorem sum_lay {LL : List (List Int)} (h : vpl LL = true) : sumLL (layP LL) = sumLL LL := by unfold layP; rw [sum_turn (vpl_up h), sum_up h]
theorem gr_lay {LL : List (List Int)} (h : vpl LL = true) (a i : Nat) : gr (layP LL) a i = cnt ((a : Int) + 1) (LL.getD i []) := by
  unfold layP
  rw [gr_turn (vpl_up h)]
  unfold gr
  rw [up_getD, conj_gD (vpl_valid h i)]
/-- a cube of the pile is a cube of its layers, its places moved round -/
theorem cube_lay {LL : List (List Int)} (h : vpl LL = true) (i k a : Nat) : ((k : Int) + 1 ≤ gr (layP LL) a i) ↔ ((a : Int) + 1 ≤ gr LL i k) := by
  rw [gr_lay h]
  unfold gr
  have hv := vpl_valid h i
  rcases Nat.lt_or_ge k (LL.getD i []).length with hk | hk
  · rw [getD_lt hk]
    exact cnt_ge_iff hv hk _
  · rw [getD_ge hk]
    have := (cnt_bd ((a : Int) + 1) (LL.getD i [])).2
    omega
theorem lay3 {LL : List (List Int)} (h : vpl LL = true) : layP (layP (layP LL)) = LL := by
  have h1 := vpl_lay h
  have h2 := vpl_lay h1
  have h3 := vpl_lay h2
  refine vpl_ext h3 h fun i k => ?_
  have n1 := ((pl_of h3).row i).nn k
  have n2 := ((pl_of h).row i).nn k
  have key : ∀ a : Nat, ((a : Int) + 1 ≤ gr (layP (layP (layP LL))) i k) ↔ ((a : Int) + 1 ≤ gr LL i k) := fun a => by
    rw [cube_lay h2, cube_lay h1, cube_lay h]
  obtain ⟨x, hx⟩ := Int.eq_ofNat_of_zero_le n1
  obtain ⟨y, hy⟩ := Int.eq_ofNat_of_zero_le n2
  rw [hx, hy] at key ⊢
  rcases Nat.lt_trichotomy x y with h4 | h4 | h4
  · have := (key x).2 (by omega); omega
  · rw [h4]
  · have := (key y).1 (by omega); omega
theorem take_getD {LL : List (List Int)} {k i : Nat} (h : i < k) : (LL.take k).getD i [] = LL.getD i [] := by
  rw [List.getD_eq_getElem?_getD, List.getD_eq_getElem?_getD, List.getElem?_take, if_pos h]
theorem sumLL_append (A B : List (List Int)) : sumLL (A ++ B) = sumLL A + sumLL B := by unfold sumLL; rw [List.map_append, sumL_append]
theorem sumLL_succ {LL : List (List Int)} {k : Nat} (h : k < LL.length) : sumLL (LL.take (k + 1)) = sumLL (LL.take k) + sumL LL[k] := by
  rw [List.take_succ_eq_append_getElem h, sumLL_append]
  simp [sumLL, sumL]
theorem vpl_nil : vpl [] = true := by decide
theorem pgd_take {LL : List (List Int)} {k i : Nat} (h : i < k) : pgd (LL.take k) i ↔ pgd LL i := by
  unfold pgd
  rw [take_getD h]
  constructor
  · rintro ⟨h1, h2, h3⟩
    exact ⟨h1, h2, fun h0 => by have := h3 h0; rwa [take_getD (by omega)] at this⟩
  · rintro ⟨h1, h2, h3⟩
    exact ⟨h1, h2, fun h0 => by rw [take_getD (by omega)]; exact h3 h0⟩
theorem vpl_next {LL : List (List Int)} {k : Nat} (hk : k < LL.length) (h : vpl (LL.take k) = true) (h1 : valid LL[k] = true) (h2 : LL[k] ≠ []) (h3 : 0 < k → ins (LL.getD (k - 1) []) LL[k] = true) (h4 : sumL LL[k] ≤ 16 - sumLL (LL.take k)) : vpl (LL.take (k + 1)) = true := by
  refine vpl_iff.2 ⟨fun i hi => ?_, by rw [sumLL_succ hk]; omega⟩
  have hi' : i < k + 1 := by rw [List.length_take] at hi; omega
  rw [pgd_take hi']
  rcases Nat.lt_or_ge i k with h5 | h5
  · have := (vpl_iff.1 h).1 i (by rw [List.length_take]; omega)
    rwa [pgd_take h5] at this
  · obtain rfl : i = k := by omega
    unfold pgd
    rw [gl_lt hk]
    exact ⟨h1, h2, h3⟩
theorem pgd_nn {LL : List (List Int)} (h : ∀ i, i < LL.length → pgd LL i) : 0 ≤ sumLL LL := by have := pgd_sum h; omega
theorem vpl_take {LL : List (List Int)} (h : vpl LL = true) (k : Nat) : vpl (LL.take k) = true := by
  have h0 := vpl_iff.1 h
  refine vpl_iff.2 ⟨fun i hi => ?_, ?_⟩
  · rw [List.length_take] at hi
    rw [pgd_take (by omega)]
    exact h0.1 i (by omega)
  · have e : sumLL LL = sumLL (LL.take k) + sumLL (LL.drop k) := by rw [← sumLL_append, List.take_append_drop]
    have : 0 ≤ sumLL (LL.drop k) := sumL_nn fun x hx => by
      obtain ⟨L, hL, rfl⟩ := List.mem_map.1 hx
      obtain ⟨j, hj, rfl⟩ := List.mem_iff_getElem.1 (List.mem_of_mem_drop hL)
      have := vpl_valid h j
      rw [gl_lt hj] at this
      exact (valid_bd this).1
    omega
theorem vpl_stop {LL : List (List Int)} {k : Nat} (hk : k < LL.length) (hn : ¬ (valid LL[k] = true ∧ LL[k] ≠ [] ∧ sumL LL[k] ≤ 16 - sumLL (LL.take k) ∧ (0 < k → ins (LL.getD (k - 1) []) LL[k] = true))) : vpl LL = false := by
  cases h : vpl LL with
  | false => rfl
  | true =>
    exfalso
    apply hn
    have h1 := (vpl_iff.1 h).1 k hk
    unfold pgd at h1
    rw [gl_lt hk] at h1
    have h2 := (vpl_iff.1 (vpl_take h (k + 1))).2
    rw [sumLL_succ hk] at h2
    exact ⟨h1.1, h1.2.1, by omega, h1.2.2⟩
theorem vpl_sum {LL : List (List Int)} (h : vpl LL = true) : 0 ≤ sumLL LL ∧ sumLL LL ≤ 16 ∧ (LL.length : Int) ≤ sumLL LL := by
  have h0 := vpl_iff.1 h
  have := pgd_sum h0.1
  omega
/-- a pile's rows as sixteen rows of sixteen -/
def zsq : List (List Int) := List.replicate 16 (List.replicate 16 0)
def gridR (LL : List (List Int)) : List (List Int) := LL.map pad ++ List.replicate (16 - LL.length) (List.replicate 16 0)
def gridV (LL : List (List Int)) : List (List Int) := if vpl LL then gridR LL else zsq
theorem gridR_nil : gridR [] = zsq := rfl
theorem gridR_len {LL : List (List Int)} (h : LL.length ≤ 16) : (gridR LL).length = 16 := by unfold gridR; simp; omega
theorem gridR_rows {LL : List (List Int)} (h : ∀ L ∈ LL, L.length ≤ 16) : ∀ L ∈ gridR LL, L.length = 16 := fun L hL => by
  unfold gridR at hL
  rcases List.mem_append.1 hL with h1 | h1
  · obtain ⟨M, hM, rfl⟩ := List.mem_map.1 h1
    exact pad_len (h M hM)
  · rw [(List.mem_replicate.1 h1).2]; simp
theorem gridR_set {LL : List (List Int)} {k : Nat} (hk : k < LL.length) (h16 : k < 16) : (gridR (LL.take k)).set k (pad LL[k]) = gridR (LL.take (k + 1)) := by
  unfold gridR
  have e1 : (LL.take k).length = k := by rw [List.length_take]; omega
  have e2 : (LL.take (k + 1)).length = k + 1 := by rw [List.length_take]; omega
  rw [e1, e2, List.set_append_right _ _ (by rw [List.length_map, e1]; exact Nat.le_refl _), List.length_map, e1, Nat.sub_self, show 16 - k = (16 - (k + 1)) + 1 by omega, List.replicate_succ, List.set_cons_zero, List.take_succ_eq_append_getElem hk, List.map_append]
  simp
theorem gridR_get {LL : List (List Int)} {i : Nat} (hi : i < LL.length) (h : i < (gridR LL).length) : (gridR LL)[i] = pad LL[i] := by
  apply Option.some.inj
  rw [← List.getElem?_eq_getElem]
  unfold gridR
  rw [List.getElem?_append_left (by rw [List.length_map]; exact hi)]
  simp [hi]
theorem vpl_each {LL : List (List Int)} (h : vpl LL = true) : ∀ L ∈ LL, valid L = true := fun L hL => by
  obtain ⟨j, hj, rfl⟩ := List.mem_iff_getElem.1 hL
  have := vpl_valid h j
  rwa [gl_lt hj] at this
theorem vpl_l16 {LL : List (List Int)} (h : vpl LL = true) : ∀ L ∈ LL, L.length ≤ 16 := fun L hL => (valid_bd (vpl_each h L hL)).2.2.2
theorem gridV_len (LL : List (List Int)) : (gridV LL).length = 16 := by
  unfold gridV
  split
  · rename_i h; exact gridR_len (vpl_len h)
  · rfl
theorem gridV_rows (LL : List (List Int)) : ∀ L ∈ gridV LL, L.length = 16 := by
  unfold gridV
  split
  · rename_i h; exact gridR_rows (vpl_l16 h)
  · intro L hL; rw [(List.mem_replicate.1 hL).2]; simp
end NP
end Go.Proofs.Ytnheolhgdinjgaa
namespace Go.Proofs.Ytnheolhgdinjgaa
open Go.RowKit
set_option linter.unusedVariables false
set_option linter.unusedSimpArgs false
section
variable {P : Program}
theorem splice_size (cs vs : Array Value) (o : Nat) (hs : o + vs.size ≤ cs.size) : ((cs.toList.take o ++ vs.toList ++ cs.toList.drop (o + vs.size)).toArray).size = cs.size := by
  simp
  omega
theorem run_storeVar_at (w : World) (g o : Nat) (t ty : TypeId) (cs vs : Array Value) (hg : Blk w g t cs) (hi : (P.info? ty).map (·.size) = some vs.size) (hs : o + vs.size ≤ cs.size) (h1 : ∀ v ∈ vs.toList, v.oneCell' = true) :
    (storeVar ty ⟨g, o, none⟩ (.agg vs)).run P w = .ok () (w.setRow g (cs.toList.take o ++ vs.toList ++ cs.toList.drop (o + vs.size)).toArray) := by
  cases hq : P.info? ty with
  | none => simp [hq] at hi
  | some i =>
    have hz : i.size = vs.size := by simpa [hq] using hi
    have hst := run_storeCells_at P g o t vs.toList 0 cs w hg (by simp; omega) h1
    simp only [Nat.add_zero, Array.length_toList] at hst
    simp [storeVar, Sem.run_bind, sizeOf, typeInfo, hq, hz, Value.cells, hst]
theorem wpList_store_at {ops : Array Oper} {rest : List Oper} {oo : Oper} {a : Act} {w : World} {Q : Exit → Act → World → Prop} (hgd : oo.guard = none) (ty : TypeId) (x v : Operand) (ho : oo.op = .store ty x v)
    (g o : Nat) (hx : a.eval x = .pointer (some ⟨g, o, none⟩)) (vs : Array Value) (hv : a.eval v = .agg vs) (t : TypeId) (cs : Array Value) (hg : Blk w g t cs)
    (hi : (P.info? ty).map (·.size) = some vs.size) (hs : o + vs.size ≤ cs.size) (h1 : ∀ v ∈ vs.toList, v.oneCell' = true)
    (h : wpList P ops Q rest (a.put oo.dst undef) (w.setRow g (cs.toList.take o ++ vs.toList ++ cs.toList.drop (o + vs.size)).toArray)) : wpList P ops Q (oo :: rest) a w :=
  wpList_plain hgd fun _ hK => by
    unfold Oper.wp execOp
    simp only [ho, hx, hv, Instr.storeAt, Instr.sureAddr, Sem.run_bind, Sem.run_pure, Result.andThen_ok, run_storeVar_at w g o t ty cs vs hg hi hs h1]
    exact hK _ _ h
theorem run_loadVar_at (w : World) (g o : Nat) (t ty : TypeId) (cs vs : Array Value) (d : TypeDesc) (hg : Blk w g t cs)
    (hu : P.underlying ty = some d) (hd : (match d with | .struct _ | .array _ _ => true | _ => false) = true) (hi : (P.info? ty).map (·.size) = some vs.size)
    (hv : ∀ j (v : Value), vs[j]? = some v → cs[o + j]? = some v) : (loadVar ty ⟨g, o, none⟩).run P w = .ok (.agg vs) w := by
  have hl : (loadCells ⟨g, o, none⟩ vs.toList.length).run P w = .ok vs.toList.toArray w :=
    run_loadCells_list (P := P) w ⟨g, o, none⟩ vs.toList (fun j v hj => by
      have hadd : (⟨g, o, none⟩ : Addr).add j = ⟨g, o + j, none⟩ := by unfold Addr.add; split <;> simp_all
      rw [hadd, hg.cell (o + j)]
      exact hv j v (by simpa using hj))
  cases hq : P.info? ty with
  | none => simp [hq] at hi
  | some i =>
    have hz : i.size = vs.size := by simpa [hq] using hi
    have hagg : (isAgg ty).run P w = .ok true w := by
      unfold isAgg
      rw [Sem.run_bind, run_underlying hu w]
      cases d <;> simp_all
    simp only [Array.length_toList, Array.toArray_toList] at hl
    simp [loadVar, Sem.run_bind, hagg, sizeOf, typeInfo, hq, hz, hl]
theorem wpList_load_at {ops : Array Oper} {rest : List Oper} {oo : Oper} {a : Act} {w : World} {Q : Exit → Act → World → Prop} (hgd : oo.guard = none) (ty : TypeId) (x : Operand) (ho : oo.op = .load ty x)
    (g o : Nat) (hx : a.eval x = .pointer (some ⟨g, o, none⟩)) (t : TypeId) (cs vs : Array Value) (d : TypeDesc) (hg : Blk w g t cs)
    (hu : P.underlying ty = some d) (hd : (match d with | .struct _ | .array _ _ => true | _ => false) = true) (hi : (P.info? ty).map (·.size) = some vs.size)
    (hv : ∀ j (v : Value), vs[j]? = some v → cs[o + j]? = some v)
    (h : wpList P ops Q rest (a.put oo.dst (.agg vs)) w) : wpList P ops Q (oo :: rest) a w :=
  wpList_plain hgd fun _ hK => by
    unfold Oper.wp execOp
    simp only [ho, hx, Instr.loadAt, Instr.sureAddr, Sem.run_bind, Sem.run_pure, Result.andThen_ok, run_loadVar_at w g o t ty cs vs d hg hu hd hi hv]
    exact hK _ _ h
theorem run_index_agg (T e : TypeId) (d : TypeDesc) (n m : Nat) (hT : P.underlying T = some (.array n e)) (he : P.underlying e = some d) (hd : (match d with | .struct _ | .array _ _ => true | _ => false) = true) (hc : (P.info? e).map (·.size) = some m)
    (cs : Array Value) (k : Nat) (hk : k < n) (kd : IntKind) (w : World) : (Instr.index T (.agg cs) (.int kd k)).run P w = .ok (.agg (cs.extract (k * m) (k * m + m))) w := by
  cases hq : P.info? e with
  | none => simp [hq] at hc
  | some i =>
    have hz : i.size = m := by simpa [hq] using hc
    have hagg : ∀ w : World, (isAgg e).run P w = .ok true w := by
      intro w
      unfold isAgg
      rw [Sem.run_bind, run_underlying he w]
      cases d <;> simp_all
    simp [Instr.index, asIntOf, Sem.run_bind, run_underlying hT, sizeOf, typeInfo, hq, hz, part, hagg]
    intro hnk
    omega
end
/-- sixteen rows of sixteen -/
def Sq (R : List (List Int)) : Prop := R.length = 16 ∧ ∀ L ∈ R, L.length = 16
theorem flat_len {R : List (List Int)} (h : ∀ L ∈ R, L.length = 16) : R.flatten.length = 16 * R.length := by
  induction R with
  | nil => rfl
  | cons x S ih => rw [List.flatten_cons, List.length_append, ih (fun L hL => h L (List.mem_cons_of_mem _ hL)), h x (List.mem_cons_self ..)]; simp; omega
theorem flat_drop {R : List (List Int)} (h : ∀ L ∈ R, L.length = 16) (i : Nat) : R.flatten.drop (16 * i) = (R.drop i).flatten := by
  induction R generalizing i with
  | nil => simp
  | cons x S ih =>
    have hx := h x (List.mem_cons_self ..)
    cases i with
    | zero => simp
    | succ i =>
      rw [List.flatten_cons, List.drop_succ_cons, ← ih (fun L hL => h L (List.mem_cons_of_mem _ hL)), show 16 * (i + 1) = x.length + 16 * i by omega, List.drop_append]
      rw [List.drop_eq_nil_of_le (by omega)]
      simp
theorem flat_take {R : List (List Int)} (h : ∀ L ∈ R, L.length = 16) (i : Nat) : R.flatten.take (16 * i) = (R.take i).flatten := by
  induction R generalizing i with
  | nil => simp
  | cons x S ih =>
    have hx := h x (List.mem_cons_self ..)
    cases i with
    | zero => simp
    | succ i =>
      rw [List.flatten_cons, List.take_succ_cons, List.flatten_cons, ← ih (fun L hL => h L (List.mem_cons_of_mem _ hL)), show 16 * (i + 1) = x.length + 16 * i by omega, List.take_append]
      rw [List.take_of_length_le (by omega)]
      simp
theorem flat_row {R : List (List Int)} (h : ∀ L ∈ R, L.length = 16) {i : Nat} (hi : i < R.length) : (R.flatten.drop (16 * i)).take 16 = R[i] := by
  rw [flat_drop h, List.drop_eq_getElem_cons hi, List.flatten_cons, List.take_append, List.take_of_length_le (by rw [h _ (List.getElem_mem hi)]; exact Nat.le_refl _), h _ (List.getElem_mem hi)]
  simp
theorem flat_get {R : List (List Int)} (h : ∀ L ∈ R, L.length = 16) {i k : Nat} (hi : i < R.length) (hk : k < 16) : R.flatten[16 * i + k]? = R[i][k]? := by
  have := flat_row h hi
  rw [← this, List.getElem?_take, if_pos hk, List.getElem?_drop]
theorem flat_setRow {R : List (List Int)} (h : ∀ L ∈ R, L.length = 16) {i : Nat} (hi : i < R.length) (L : List Int) : R.flatten.take (16 * i) ++ L ++ R.flatten.drop (16 * i + 16) = (R.set i L).flatten := by
  rw [show 16 * i + 16 = 16 * (i + 1) by omega, flat_take h, flat_drop h, List.set_eq_take_append_cons_drop, if_pos hi, List.flatten_append, List.flatten_cons, List.append_assoc]
theorem flat_set {R : List (List Int)} (h : ∀ L ∈ R, L.length = 16) {i k : Nat} (hi : i < R.length) (hk : k < 16) (v : Int) : R.flatten.set (16 * i + k) v = (R.set i (R[i].set k v)).flatten := by
  have hl := flat_len h
  rw [← flat_setRow h hi]
  have hrow := flat_row h hi
  have hd : R.flatten = R.flatten.take (16 * i) ++ R[i] ++ R.flatten.drop (16 * i + 16) := by
    rw [← hrow, List.append_assoc, ← List.drop_drop, List.take_append_drop, List.take_append_drop]
  have ht : (R.flatten.take (16 * i)).length = 16 * i := by rw [List.length_take]; omega
  have hri : R[i].length = 16 := h _ (List.getElem_mem hi)
  conv => lhs; rw [hd]
  rw [List.append_assoc, List.set_append_right _ _ (by omega), ht, Nat.add_sub_cancel_left, List.set_append_left _ _ (by omega), List.append_assoc]
theorem arr_splice (D L : List Int) (o : Nat) : ((arr D).toList.take o ++ (arr L).toList ++ (arr D).toList.drop (o + (arr L).size)).toArray = arr (D.take o ++ L ++ D.drop (o + L.length)) := by
  simp [arr, ints, List.map_take, List.map_drop]
theorem arr_extract (D : List Int) (o n : Nat) : (arr D).extract o (o + n) = arr ((D.drop o).take n) := by
  apply Array.toList_inj.1
  simp [arr, ints, List.map_take, List.map_drop]
theorem arr_flat_row {R : List (List Int)} (h : ∀ L ∈ R, L.length = 16) {i : Nat} (hi : i < R.length) : (arr R.flatten).extract (i * 16) (i * 16 + 16) = arr R[i] := by
  rw [arr_extract, Nat.mul_comm i 16, flat_row h hi]
theorem arr_flat_store {R : List (List Int)} (h : ∀ L ∈ R, L.length = 16) {i : Nat} (hi : i < R.length) {L : List Int} (hL : L.length = 16) :
    ((arr R.flatten).toList.take (16 * i) ++ (arr L).toList ++ (arr R.flatten).toList.drop (16 * i + (arr L).size)).toArray = arr (R.set i L).flatten := by
  rw [arr_splice, hL, flat_setRow h hi]
theorem sq_set {R : List (List Int)} (h : Sq R) (i : Nat) {L : List Int} (hL : L.length = 16) : Sq (R.set i L) := by
  refine ⟨by rw [List.length_set]; exact h.1, fun M hM => ?_⟩
  rcases List.mem_or_eq_of_mem_set hM with h1 | h1
  · exact h.2 M h1
  · rw [h1]; exact hL
theorem sq_len {R : List (List Int)} (h : Sq R) : R.flatten.length = 256 := by rw [flat_len h.2, h.1]
end Go.Proofs.Ytnheolhgdinjgaa
namespace Go.Proofs.Ytnheolhgdinjgaa
namespace NP
theorem gridR_gD {LL : List (List Int)} (h : vpl LL = true) {a : Nat} (ha : a < 16) (hh : a < (gridR LL).length) : (gridR LL)[a] = pad (LL.getD a []) := by
  rcases Nat.lt_or_ge a LL.length with h1 | h1
  · rw [gridR_get h1 hh, gl_lt h1]
  · rw [gl_ge h1]
    apply Option.some.inj
    rw [← List.getElem?_eq_getElem]
    unfold gridR
    have := vpl_len h
    rw [List.getElem?_append_right (by rw [List.length_map]; exact h1), List.getElem?_replicate, if_pos (by rw [List.length_map]; omega)]
    rfl
theorem gridR_sq {LL : List (List Int)} (h : vpl LL = true) : Sq (gridR LL) := ⟨gridR_len (vpl_len h), gridR_rows (vpl_l16 h)⟩
theorem gridR_map {LL : List (List Int)} (h : vpl LL = true) : gridR LL = (List.range 16).map fun a => pad (LL.getD a []) := by
  apply List.ext_getElem
  · rw [gridR_len (vpl_len h)]; simp
  · intro a h1 h2
    rw [gridR_gD h (by simpa using h2) h1]
    simp
/-- the grid when i rows are turned, and k cells of the next -/
def accT (LL : List (List Int)) (i k : Nat) : List (List Int) := (List.range 16).map fun a => (List.range 16).map fun b => if b < i ∨ (b = i ∧ a < k) then gr LL b a else 0
theorem accT_sq (LL : List (List Int)) (i k : Nat) : Sq (accT LL i k) := by
  refine ⟨by simp [accT], fun L hL => ?_⟩
  obtain ⟨a, _, rfl⟩ := List.mem_map.1 hL
  simp
theorem accT_zero (LL : List (List Int)) : accT LL 0 0 = zsq := by
  have e : accT LL 0 0 = (List.range 16).map fun _ => (List.range 16).map fun _ => (0 : Int) := by
    unfold accT
    apply List.map_congr_left
    intro a _
    apply List.map_congr_left
    intro b _
    rw [if_neg (by omega)]
  rw [e]; rfl
theorem accT_set (LL : List (List Int)) {i k : Nat} (hh : k < (accT LL i k).length) : (accT LL i k).set k ((accT LL i k)[k].set i (gr LL i k)) = accT LL i (k + 1) := by
  apply List.ext_getElem
  · simp [accT]
  · intro a h1 h2
    have ha : a < 16 := by rw [(accT_sq LL i (k + 1)).1] at h2; exact h2
    rw [List.getElem_set]
    by_cases hka : k = a
    · subst hka
      rw [if_pos rfl]
      apply List.ext_getElem
      · simp [accT]
      · intro b h3 h4
        rw [List.getElem_set]
        have hb : b < 16 := by simpa [accT] using h4
        by_cases hib : i = b
        · subst hib; simp [accT]
        · rw [if_neg hib]
          simp only [accT, List.getElem_map, List.getElem_range]
          have : (b < i ∨ b = i ∧ k < k) ↔ (b < i ∨ b = i ∧ k < k + 1) := by omega
          simp only [this]
    · rw [if_neg hka]
      simp only [accT, List.getElem_map, List.getElem_range]
      apply List.map_congr_left
      intro b _
      have : (b < i ∨ b = i ∧ a < k) ↔ (b < i ∨ b = i ∧ a < k + 1) := by omega
      simp only [this]
theorem accT_next (LL : List (List Int)) (i : Nat) : accT LL i 16 = accT LL (i + 1) 0 := by
  unfold accT
  apply List.map_congr_left
  intro a ha
  apply List.map_congr_left
  intro b _
  have h1 : a < 16 := by simpa using ha
  have : (b < i ∨ b = i ∧ a < 16) ↔ (b < i + 1 ∨ b = i + 1 ∧ a < 0) := by omega
  simp only [this]
theorem pad_tab {L : List Int} (h : L.length ≤ 16) : pad L = (List.range 16).map fun b => L.getD b 0 := by
  apply List.ext_getElem
  · rw [pad_len h]; simp
  · intro b h1 h2
    have := pad_gD h b
    rw [List.getD_eq_getElem?_getD, List.getElem?_eq_getElem h1, Option.getD_some] at this
    rw [this]; simp
theorem accT_end {LL : List (List Int)} (h : vpl LL = true) : accT LL 16 0 = gridR (turnP LL) := by
  rw [gridR_map (vpl_turn h)]
  unfold accT
  apply List.map_congr_left
  intro a ha
  rw [pad_tab (by
    have := vpl_valid (vpl_turn h) a
    exact (valid_bd this).2.2.2)]
  apply List.map_congr_left
  intro b hb
  have h1 : b < 16 := by simpa using hb
  rw [if_pos (by omega)]
  exact (gr_turn h a b).symm
/-- the grid when k rows are turned up -/
def accU (LL : List (List Int)) (k : Nat) : List (List Int) := (List.range 16).map fun i => if i < k then pad (conj (LL.getD i [])) else pad (LL.getD i [])
theorem accU_len (LL : List (List Int)) (k : Nat) : (accU LL k).length = 16 := by simp [accU]
theorem accU_sq {LL : List (List Int)} (h : vpl LL = true) (k : Nat) : Sq (accU LL k) := by
  refine ⟨accU_len _ _, fun L hL => ?_⟩
  obtain ⟨a, _, rfl⟩ := List.mem_map.1 hL
  have hv := vpl_valid h a
  split
  · exact pad_len (valid_bd (valid_conj hv)).2.2.2
  · exact pad_len (valid_bd hv).2.2.2
theorem accU_zero {LL : List (List Int)} (h : vpl LL = true) : accU LL 0 = gridR LL := by
  rw [gridR_map h]
  unfold accU
  apply List.map_congr_left
  intro a _
  rw [if_neg (by omega)]
theorem accU_set (LL : List (List Int)) {k : Nat} (_hk : k < 16) : (accU LL k).set k (pad (conj (LL.getD k []))) = accU LL (k + 1) := by
  apply List.ext_getElem
  · simp [accU]
  · intro a h1 h2
    rw [List.getElem_set]
    by_cases hka : k = a
    · subst hka
      rw [if_pos rfl]; simp [accU]
    · rw [if_neg hka]
      simp only [accU, List.getElem_map, List.getElem_range]
      have : a < k ↔ a < k + 1 := by omega
      simp only [this]
theorem accU_end {LL : List (List Int)} (h : vpl LL = true) : accU LL 16 = gridR (upP LL) := by
  rw [gridR_map (vpl_up h)]
  unfold accU
  apply List.map_congr_left
  intro a ha
  rw [if_pos (by simpa using ha), up_getD]
/-- the sums of the first k rows of a grid -/
def prs (LL : List (List Int)) (k : Nat) : Int := sumL ((List.range k).map fun i => sumL (LL.getD i []))
theorem prs_succ (LL : List (List Int)) (k : Nat) : prs LL (k + 1) = prs LL k + sumL (LL.getD k []) := by
  unfold prs
  rw [List.range_succ, List.map_append, sumL_append]
  simp [sumL]
theorem prs_bd {LL : List (List Int)} (h : vpl LL = true) (k : Nat) : 0 ≤ prs LL k ∧ prs LL k ≤ 16 * k := by
  induction k with
  | zero => exact ⟨by simp [prs, sumL], by simp [prs, sumL]⟩
  | succ k ih =>
    have := valid_bd (vpl_valid h k)
    rw [prs_succ]
    omega
theorem s16_row {L : List Int} (h : valid L = true) : s16 (fun k => L.getD k 0) = sumL L := by
  have h1 := sum_lst (g := fun k => L.getD k 0) (fun i => (fal_of_valid h).nn i)
  rw [lst_valid h] at h1
  exact h1.symm
theorem prs_end {LL : List (List Int)} (h : vpl LL = true) : prs LL 16 = sumLL LL := by
  rw [sumLL_gr h]
  unfold prs s256
  show _ = sumL _
  congr 1
  apply List.map_congr_left
  intro a _
  exact (s16_row (vpl_valid h a)).symm
theorem take_more {LL : List (List Int)} {k : Nat} (h : LL.length ≤ k) : LL.take k = LL.take (k + 1) := by
  rw [List.take_of_length_le h, List.take_of_length_le (by omega)]
theorem row_pos {LL : List (List Int)} (h : vpl LL = true) (k : Nat) : (0 < sumL (LL.getD k [])) ↔ k < LL.length := by
  constructor
  · intro h1
    rcases Nat.lt_or_ge k LL.length with h2 | h2
    · exact h2
    · rw [gl_ge h2] at h1; simp [sumL] at h1
  · intro h1
    have h2 := ((vpl_iff.1 h).1 k h1)
    have := valid_ne_sum h2.1 h2.2.1
    omega
end NP
end Go.Proofs.Ytnheolhgdinjgaa
namespace Go.Proofs.Ytnheolhgdinjgaa
namespace NP
theorem col_eq {g : Nat → Int} (h : Fal g) {M : List Int} (hM : ∀ i, M.getD i 0 = g i) : (M.filter fun x => decide (0 < x)) = lst g := by
  refine pos_ext (fun x hx => by simpa using (List.mem_filter.1 hx).2) (lst_pos g) (fun i => ?_)
  rw [lst_getD h, filt_getD M (fun x hx => ?_) (fun i j hij _ => by rw [hM, hM]; exact h.mono hij) i, hM]
  obtain ⟨j, hj, rfl⟩ := List.mem_iff_getElem.1 hx
  have := h.nn j
  rw [← hM, List.getD_eq_getElem?_getD, List.getElem?_eq_getElem hj] at this
  exact this
theorem map_gD (f : List Int → Int) (h0 : f [] = 0) (LL : List (List Int)) (i : Nat) : (LL.map f).getD i 0 = f (LL.getD i []) := by
  rcases Nat.lt_or_ge i LL.length with h | h
  · rw [gl_lt h, List.getD_eq_getElem?_getD, List.getElem?_eq_getElem (by simpa using h)]; simp
  · rw [gl_ge h, h0, List.getD_eq_getElem?_getD, List.getElem?_eq_none (by simpa using h)]; rfl
/-- the numbers with the index k of the rows that have one -/
def colS (LL : List (List Int)) (k : Nat) : List Int := (LL.filter fun L => decide (k < L.length)).map fun L => L.getD k 0
def turnS (LL : List (List Int)) : List (List Int) := (List.range (LL.getD 0 []).length).map (colS LL)
theorem pos_at {L : List Int} (h : valid L = true) (k : Nat) : (0 < L.getD k 0) ↔ k < L.length := by
  constructor
  · intro h1
    rcases Nat.lt_or_ge k L.length with h2 | h2
    · exact h2
    · rw [List.getD_eq_getElem?_getD, List.getElem?_eq_none h2] at h1; simp at h1
  · intro h1
    rw [List.getD_eq_getElem?_getD, List.getElem?_eq_getElem h1]
    exact valid_pos h _ (List.getElem_mem h1)
theorem colS_filt {LL : List (List Int)} (h : ∀ L ∈ LL, valid L = true) (k : Nat) : colS LL k = (LL.map fun L => L.getD k 0).filter fun x => decide (0 < x) := by
  unfold colS
  induction LL with
  | nil => rfl
  | cons L R ih =>
    have h1 := pos_at (h L (by simp)) k
    have h2 := ih fun M hM => h M (by simp [hM])
    rw [List.map_cons, List.filter_cons, List.filter_cons]
    by_cases hk : k < L.length
    · rw [if_pos (decide_eq_true hk), if_pos (decide_eq_true (h1.2 hk)), List.map_cons, h2]
    · rw [if_neg (by simpa using hk), if_neg (by have : ¬ 0 < L.getD k 0 := fun hh => hk (h1.1 hh); simpa using this), h2]
theorem colS_lst {LL : List (List Int)} (h : vpl LL = true) (k : Nat) : colS LL k = lst fun i => gr LL i k := by
  rw [colS_filt (vpl_each h)]
  exact col_eq ((pl_of h).col k) (map_gD (fun L => L.getD k 0) rfl LL)
theorem rowsM_getD (f : Nat → List Int) (n k : Nat) : ((List.range n).map f).getD k [] = if k < n then f k else [] := by
  rcases Nat.lt_or_ge k n with h | h
  · rw [if_pos h, List.getD_eq_getElem?_getD, List.getElem?_eq_getElem (by simpa using h)]; simp
  · rw [if_neg (by omega), List.getD_eq_getElem?_getD, List.getElem?_eq_none (by simpa using h)]; rfl
/-- rows told by their falling columns, as many as are not empty -/
theorem rows_pof {G : Nat → Nat → Int} (h : Pl G) (f : Nat → List Int) (n : Nat) (hf : ∀ k, k < n → f k = lst (G k)) (hn : ∀ k, k < n ↔ 0 < G k 0) : (List.range n).map f = pilG G := by
  refine ne_ext (fun L hL => ?_) (pilG_ne G) (fun k => ?_)
  · obtain ⟨k, hk, rfl⟩ := List.mem_map.1 hL
    have hk' : k < n := by simpa using hk
    rw [hf k hk']
    intro e
    have h1 := (lst_nil (h.row k)).1 e
    have h2 := (hn k).1 hk'
    omega
  · rw [rowsM_getD, pilG_getD h]
    split
    · rename_i hk; exact hf k hk
    · rename_i hk
      have h1 := (h.row k).nn 0
      have h2 : ¬ 0 < G k 0 := fun hh => hk ((hn k).2 hh)
      exact ((lst_nil (h.row k)).2 (by omega)).symm
theorem turnS_eq {LL : List (List Int)} (h : vpl LL = true) : turnS LL = turnP LL := by
  refine rows_pof (pl_of h).turn (colS LL) _ (fun k _ => colS_lst h k) (fun k => ?_)
  exact (pos_at (vpl_valid h 0) k).symm
/-- how many numbers of each row are at least h, of those rows that have such -/
def layS (LL : List (List Int)) : List (List Int) := (List.range (gr LL 0 0).toNat).map fun (a : Nat) => (LL.map (cnt ((a : Int) + 1))).filter fun x => decide (0 < x)
theorem cnt_pos {L : List Int} (h : valid L = true) (a : Nat) : 0 < cnt ((a : Int) + 1) L ↔ (a : Int) < L.getD 0 0 := by
  have h1 := (pos_at (valid_conj h) a)
  rw [conj_gD h] at h1
  rw [h1, conj_len]
  have : L.headD 0 = L.getD 0 0 := by cases L <;> rfl
  rw [this]
  omega
theorem layS_eq {LL : List (List Int)} (h : vpl LL = true) : layS LL = layP LL := by
  have hu := pl_of (vpl_up h)
  have hg : ∀ i a, gr (upP LL) i a = cnt ((a : Int) + 1) (LL.getD i []) := fun i a => by
    show ((upP LL).getD i []).getD a 0 = _
    rw [up_getD, conj_gD (vpl_valid h i)]
  refine rows_pof hu.turn _ _ (fun a _ => ?_) (fun a => ?_)
  · exact col_eq (hu.col a) (fun i => by rw [map_gD _ rfl]; exact (hg i a).symm)
  · show _ ↔ 0 < gr (upP LL) 0 a
    rw [hg, cnt_pos (vpl_valid h 0)]
    have := (fal_of_valid (vpl_valid h 0)).nn 0
    show _ ↔ (a : Int) < gr LL 0 0
    omega
/-- columns of the first i rows -/
theorem colS_succ {LL : List (List Int)} {i : Nat} (hi : i < LL.length) (k : Nat) : colS (LL.take (i + 1)) k = colS (LL.take i) k ++ if k < LL[i].length then [LL[i].getD k 0] else [] := by
  unfold colS
  rw [List.take_succ_eq_append_getElem hi, List.filter_append, List.map_append]
  congr 1
  by_cases hk : k < LL[i].length
  · simp [hk]
  · simp [hk]
theorem colS_len (LL : List (List Int)) (k : Nat) : (colS LL k).length ≤ LL.length := by unfold colS; rw [List.length_map]; exact List.length_filter_le _ _
theorem colS_zero (LL : List (List Int)) (k : Nat) : colS (LL.take 0) k = [] := by simp [colS]
theorem turnS_take (LL : List (List Int)) (k : Nat) : (List.range (k + 1)).map (colS LL) = (List.range k).map (colS LL) ++ [colS LL k] := by
  rw [List.range_succ, List.map_append]; rfl
def layR (LL : List (List Int)) (a : Nat) : List Int := (LL.map (cnt ((a : Int) + 1))).filter fun x => decide (0 < x)
theorem layR_succ {LL : List (List Int)} {i : Nat} (hi : i < LL.length) (a : Nat) : layR (LL.take (i + 1)) a = layR (LL.take i) a ++ if 0 < cnt ((a : Int) + 1) LL[i] then [cnt ((a : Int) + 1) LL[i]] else [] := by
  unfold layR
  rw [List.take_succ_eq_append_getElem hi, List.map_append, List.filter_append]
  congr 1
  by_cases hk : 0 < cnt ((a : Int) + 1) LL[i]
  · simp [hk]
  · simp [hk]
theorem layR_len (LL : List (List Int)) (a : Nat) : (layR LL a).length ≤ LL.length := by
  unfold layR
  have := List.length_filter_le (fun x => decide (0 < x)) (LL.map (cnt ((a : Int) + 1)))
  rwa [List.length_map] at this
theorem layR_zero (LL : List (List Int)) (a : Nat) : layR (LL.take 0) a = [] := by simp [layR]
theorem layS_take (LL : List (List Int)) (k : Nat) : (List.range (k + 1)).map (layR LL) = (List.range k).map (layR LL) ++ [layR LL k] := by
  rw [List.range_succ, List.map_append]; rfl
theorem grid_gr {LL : List (List Int)} (h : vpl LL = true) (i k : Nat) : gr LL i k = ((gridR LL).getD i []).getD k 0 := by
  rcases Nat.lt_or_ge i 16 with hi | hi
  · have hh : i < (gridR LL).length := by rw [gridR_len (vpl_len h)]; exact hi
    rw [gl_lt hh, gridR_gD h hi hh, pad_gD (valid_bd (vpl_valid h i)).2.2.2]
    rfl
  · have h1 := vpl_len h
    show (LL.getD i []).getD k 0 = _
    rw [gl_ge (by omega), gl_ge (by rw [gridR_len h1]; exact hi)]
theorem gridR_inj {A B : List (List Int)} (ha : vpl A = true) (hb : vpl B = true) (h : gridR A = gridR B) : A = B :=
  vpl_ext ha hb fun i k => by rw [grid_gr ha, grid_gr hb, h]
/-- a pile is its turned one -/
def evF (LL : List (List Int)) : Bool := vpl LL && decide (turnP LL = LL)
theorem evF_no {LL : List (List Int)} (h : vpl LL = false) : evF LL = false := by simp [evF, h]
theorem evF_grid {LL : List (List Int)} (h : vpl LL = true) : decide (gridR LL = gridR (turnP LL)) = evF LL := by
  unfold evF
  rw [h, Bool.true_and]
  by_cases hh : turnP LL = LL
  · rw [hh]; simp
  · rw [decide_eq_false (fun e => hh (gridR_inj h (vpl_turn h) e).symm), decide_eq_false hh]
theorem flat_inj {A B : List (List Int)} (ha : Sq A) (hb : Sq B) (h : A.flatten = B.flatten) : A = B := by
  apply List.ext_getElem
  · rw [ha.1, hb.1]
  · intro i h1 h2
    rw [← flat_row ha.2 h1, ← flat_row hb.2 h2, h]
theorem vpl_badrow {LL : List (List Int)} {k : Nat} (hk : k < LL.length) (h : valid LL[k] = false ∨ LL[k] = []) : vpl LL = false := by
  cases hh : vpl LL with
  | false => rfl
  | true =>
    have h1 := (vpl_iff.1 hh).1 k hk
    unfold pgd at h1
    rw [gl_lt hk] at h1
    rcases h with h2 | h2
    · rw [h1.1] at h2; cases h2
    · exact absurd h2 h1.2.1
theorem vpl_badcell {LL : List (List Int)} {k m : Nat} (hk : k + 1 < LL.length) (h : (LL[k]'(by omega)).getD m 0 < LL[k + 1].getD m 0) : vpl LL = false := by
  cases hh : vpl LL with
  | false => rfl
  | true =>
    have h1 := ((vpl_iff.1 hh).1 (k + 1) hk).2.2 (by omega)
    rw [Nat.add_sub_cancel, gl_lt hk, gl_lt (by omega)] at h1
    have := (ins_iff.1 h1).2.2 m
    omega
theorem pgd_step {LL : List (List Int)} {k : Nat} (hk : k < LL.length) (h1 : valid LL[k] = true) (h2 : LL[k] ≠ []) (h3 : ∀ j (hj : k = j + 1), valid (LL[j]'(by omega)) = true ∧ ∀ m, m < LL[k].length → LL[k].getD m 0 ≤ (LL[j]'(by omega)).getD m 0) : pgd LL k := by
  unfold pgd
  rw [gl_lt hk]
  refine ⟨h1, h2, fun h0 => ?_⟩
  obtain ⟨j, rfl⟩ : ∃ j, k = j + 1 := ⟨k - 1, by omega⟩
  rw [Nat.add_sub_cancel, gl_lt (by omega)]
  obtain ⟨h4, h5⟩ := h3 j rfl
  refine ins_iff.2 ⟨h4, h1, fun i => ?_⟩
  rcases Nat.lt_or_ge i LL[j + 1].length with hi | hi
  · exact h5 i hi
  · have := (fal_of_valid h4).nn i
    rw [List.getD_eq_getElem?_getD (l := LL[j + 1]), List.getElem?_eq_none hi]
    exact this
theorem vpl_atEnd {LL : List (List Int)} (h : ∀ i, i < LL.length → pgd LL i) : vpl LL = decide (sumLL LL ≤ 16) := by
  unfold vpl
  rw [decide_eq_true h, Bool.true_and]
theorem vpl_long {LL : List (List Int)} (h : 16 < LL.length) : vpl LL = false := by
  cases hh : vpl LL with
  | false => rfl
  | true => have := vpl_len hh; omega
theorem sumLL_pbd {LL : List (List Int)} {k : Nat} (hk : k ≤ LL.length) (h : ∀ i, i < k → pgd LL i) : 0 ≤ sumLL (LL.take k) ∧ sumLL (LL.take k) ≤ 16 * k := by
  induction k with
  | zero => exact ⟨by simp [sumLL, sumL], by simp [sumLL, sumL]⟩
  | succ k ih =>
    have h1 := ih (by omega) fun i hi => h i (by omega)
    have h2 := (h k (by omega)).1
    rw [gl_lt (by omega)] at h2
    have := valid_bd h2
    rw [sumLL_succ (by omega)]
    omega
end NP
end Go.Proofs.Ytnheolhgdinjgaa
