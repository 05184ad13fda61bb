/-
  Plain mathematics of united and added parts: conjugates turn one into the other.
-/
import Derived.Test.YthafbdpeignccaaM16
import Derived.Test.YthafbdpeignccaaD3
namespace Go.Proofs.Ythafbdpeignccaa
namespace NP
set_option linter.unusedVariables false
theorem mono_split {A B : List Int} (h : mono (A ++ B)) : mono A ∧ mono B ∧ ∀ x ∈ A, ∀ y ∈ B, y ≤ x := by
  induction A with
  | nil => exact ⟨trivial, h, fun x hx => by simp at hx⟩
  | cons x r ih =>
    obtain ⟨h1, h2⟩ := h
    obtain ⟨h3, h4, h5⟩ := ih h2
    refine ⟨⟨fun y hy => h1 y (List.mem_append_left _ hy), h3⟩, h4, fun z hz y hy => ?_⟩
    rcases List.mem_cons.1 hz with rfl | hz
    · exact h1 y (List.mem_append_right _ hy)
    · exact h5 z hz y hy
theorem mono_head {D : List Int} (h : mono D) (i : Nat) (hi : i < D.length) : D[i] ≤ D[0]'(by omega) := by
  match D, h with
  | [], _ => simp at hi
  | y :: t, h =>
    match i, hi with
    | 0, _ => exact Int.le_refl _
    | i + 1, hi => exact h.1 _ (List.getElem_mem _)
theorem insK_mono {M : List Int} (h : mono M) (x : Int) : mono (insK M x) := by
  have hs := ff_spec (fun (j : Nat) => decide (x ≤ M.getD j 0)) M.length
  have e := List.take_append_drop (posOf x M) M
  rw [← e] at h
  obtain ⟨h1, h2, h3⟩ := mono_split h
  have hd : ∀ y ∈ M.drop (posOf x M), y ≤ x := fun y hy => by
    obtain ⟨i, hi, rfl⟩ := List.getElem_of_mem hy
    simp at hi
    rcases hs.2.2 with hs2 | hs2
    · have : posOf x M = M.length := hs2
      omega
    · have hp : posOf x M < M.length := by omega
      have hx : ¬ x ≤ M.getD (posOf x M) 0 := of_decide_eq_false hs2
      rw [getD_lt hp] at hx
      have h4 := mono_head h2 i (by simp; omega)
      simp at h4
      rw [List.getElem_drop]
      omega
  unfold insK
  refine mono_append h1 ⟨hd, h2⟩ fun a ha b hb => ?_
  rcases List.mem_cons.1 hb with rfl | hb
  · obtain ⟨i, hi, rfl⟩ := List.getElem_of_mem ha
    simp at hi
    have := of_decide_eq_true (hs.2.1 i (by unfold posOf at hi; omega))
    rw [getD_lt (by omega)] at this
    rw [List.getElem_take]
    exact this
  · exact h3 a ha b hb
theorem insK_eqc (M : List Int) (x k : Int) : eqc k (insK M x) = eqc k M + (if x = k then 1 else 0) := by
  have e : eqc k M = eqc k (M.take (posOf x M)) + eqc k (M.drop (posOf x M)) := by rw [← eqc_append, List.take_append_drop]
  unfold insK
  rw [eqc_append, eqc_cons, e]
  omega
theorem insK_sum (M : List Int) (x : Int) : sumL (insK M x) = sumL M + x := by
  have e : sumL M = sumL (M.take (posOf x M)) + sumL (M.drop (posOf x M)) := by rw [← sumL_append, List.take_append_drop]
  unfold insK
  rw [sumL_append, sumL, e]
  omega
theorem fold_facts (L : List Int) : ∀ M, mono M → mono (L.foldl insK M) ∧ (∀ k, eqc k (L.foldl insK M) = eqc k M + eqc k L) ∧ sumL (L.foldl insK M) = sumL M + sumL L := by
  induction L with
  | nil => intro M h; exact ⟨h, fun k => by simp [eqc], by simp [sumL]⟩
  | cons x r ih =>
    intro M h
    obtain ⟨h1, h2, h3⟩ := ih (insK M x) (insK_mono h x)
    refine ⟨h1, fun k => ?_, ?_⟩
    · rw [List.foldl_cons, h2, insK_eqc, eqc_cons]; omega
    · rw [List.foldl_cons, h3, insK_sum, sumL]; omega
theorem mrg_mono (L : List Int) : mono (mrg L) := (fold_facts L [] trivial).1
theorem mrg_eqc (L : List Int) (k : Int) : eqc k (mrg L) = eqc k L := by have := (fold_facts L [] trivial).2.1 k; unfold mrg; simpa [eqc] using this
theorem mrg_sum (L : List Int) : sumL (mrg L) = sumL L := by have := (fold_facts L [] trivial).2.2; unfold mrg; simpa [sumL] using this
theorem mrg_len (L : List Int) : (mrg L).length = L.length := by have := (fold_ins L []).1; unfold mrg; simpa using this
theorem mrg_mem {L : List Int} {y : Int} (h : y ∈ mrg L) : y ∈ L := by
  rcases (fold_ins L []).2 y h with h | h
  · exact h
  · simp at h
theorem cnt_eqc {A B : List Int} (h : ∀ k, eqc k A = eqc k B) (hl : A.length = B.length) (t : Int) : cnt t A = cnt t B := by
  induction A generalizing B with
  | nil =>
    have : B = [] := List.eq_nil_of_length_eq_zero (by simp at hl; omega)
    subst this; rfl
  | cons x r ih =>
    have hx : x ∈ B := eqc_mem (by rw [← h x]; exact eqc_pos (by simp))
    obtain ⟨b1, b2, rfl⟩ := List.append_of_mem hx
    have h2 := ih (B := b1 ++ b2) (fun k => by
      have := h k
      rw [eqc_cons, eqc_append, eqc_cons] at this
      rw [eqc_append]; omega) (by simp at hl ⊢; omega)
    rw [cnt, h2, cnt_append, cnt_append, cnt]
    omega
theorem mono_get {L : List Int} (h : mono L) (j : Nat) (hj : j + 1 < L.length) : L[j + 1] ≤ L[j] := by
  induction L generalizing j with
  | nil => simp at hj
  | cons x r ih =>
    match j with
    | 0 => simp; exact h.1 _ (List.getElem_mem _)
    | j + 1 => simpa using ih h.2 j (by simp at hj; omega)
theorem valid_mono {M : List Int} (h : mono M) (h1 : ∀ x ∈ M, 1 ≤ x) (hs : sumL M ≤ 16) : valid M = true := by
  refine valid_of_preS (fun j hj _ => ?_) hs
  have hb := (elem_le_sum (fun x hx => by have := h1 x hx; omega) hj).1
  refine ⟨h1 _ (List.getElem_mem hj), by omega, fun h0 => ?_⟩
  have := mono_get h (j - 1) (by omega)
  simp only [show j - 1 + 1 = j by omega] at this
  exact this
def uni (P Q : List Int) : List Int := mrg (P ++ Q)
theorem valid_ge1 {L : List Int} (h : valid L = true) : ∀ x ∈ L, 1 ≤ x := fun x hx => by
  obtain ⟨k, hk, rfl⟩ := List.getElem_of_mem hx
  exact (preS_of_valid h k hk hk).1
theorem uni_ge1 {P Q : List Int} (h : two P Q = true) : ∀ x ∈ uni P Q, 1 ≤ x := fun x hx => by
  obtain ⟨hp, hq, _⟩ := two_out h
  rcases List.mem_append.1 (mrg_mem hx) with hx | hx
  · exact valid_ge1 hp x hx
  · exact valid_ge1 hq x hx
theorem valid_uni {P Q : List Int} (h : two P Q = true) : valid (uni P Q) = true :=
  valid_mono (mrg_mono _) (uni_ge1 h) (by unfold uni; rw [mrg_sum, sumL_append]; exact (two_out h).2.2)
theorem um_uni {P Q : List Int} (h : two P Q = true) : (um (fun i => P.getD i 0) (fun i => Q.getD i 0) 16).1 = pad (uni P Q) :=
  um_end h (mrg_mono _) (fun k => by unfold uni; rw [mrg_eqc, eqc_append]) (by unfold uni; rw [mrg_len]; simp) (uni_ge1 h)
def uniF (P Q : List Int) : List Int := if two P Q then uni P Q else []
theorem uniF_yes {P Q : List Int} (h : two P Q = true) : uniF P Q = uni P Q := by simp [uniF, h]
theorem uniF_no {P Q : List Int} (h : two P Q = false) : uniF P Q = [] := by simp [uniF, h]
theorem uniF_len (P Q : List Int) : (uniF P Q).length ≤ 16 := by
  unfold uniF
  split
  · rename_i h
    exact (valid_bd (valid_uni h)).2.2.2
  · simp
/-- parts with the same numbers at all places are the same -/
theorem valid_ext {A B : List Int} (hA : valid A = true) (hB : valid B = true) (h : ∀ j, A.getD j 0 = B.getD j 0) : A = B := by
  have hl : A.length = B.length := by
    rcases Nat.lt_trichotomy A.length B.length with h1 | h1 | h1
    · have := h A.length
      rw [getD_ge (Nat.le_refl _)] at this
      have := getD_pos hB h1
      omega
    · exact h1
    · have := h B.length
      rw [getD_ge (L := B) (Nat.le_refl _)] at this
      have := getD_pos hA h1
      omega
  apply List.ext_getElem hl
  intro j h1 h2
  have := h j
  rwa [getD_lt h1, getD_lt h2] at this
theorem conj_getD {L : List Int} (h : valid L = true) (j : Nat) : (conj L).getD j 0 = cnt ((j : Int) + 1) L := by
  rcases Nat.lt_or_ge j (conj L).length with h1 | h1
  · rw [getD_lt h1, conj_get]
  · rw [getD_ge h1]
    rw [conj_len] at h1
    exact (cnt_none fun x hx => by have := head_ge h x hx; omega).symm
theorem two_conj {P Q : List Int} (h : two P Q = true) : two (conj P) (conj Q) = true := by
  obtain ⟨hp, hq, hs⟩ := two_out h
  unfold two
  rw [valid_conj hp, valid_conj hq, sumL_conj hp, sumL_conj hq, decide_eq_true hs]
  rfl
theorem cnt_uni (P Q : List Int) (t : Int) : cnt t (uni P Q) = cnt t P + cnt t Q := by
  rw [← cnt_append]
  exact cnt_eqc (fun k => by unfold uni; rw [mrg_eqc]) (by unfold uni; rw [mrg_len]) t
theorem conj_uni {P Q : List Int} (h : two P Q = true) : conj (uni P Q) = adp (conj P) (conj Q) := by
  obtain ⟨hp, hq, hs⟩ := two_out h
  refine valid_ext (valid_conj (valid_uni h)) (valid_adp (two_conj h)) fun j => ?_
  rw [conj_getD (valid_uni h), adp_getD, conj_getD hp, conj_getD hq, cnt_uni]
theorem conj_adp {P Q : List Int} (h : two P Q = true) : conj (adp P Q) = uni (conj P) (conj Q) := by
  obtain ⟨hp, hq, hs⟩ := two_out h
  have h2 := two_conj h
  have e := conj_uni h2
  rw [conj_conj hp, conj_conj hq] at e
  rw [← e, conj_conj (valid_uni h2)]
theorem adp_comm (P Q : List Int) : adp P Q = adp Q P := by
  unfold adp
  rw [Nat.max_comm]
  apply List.map_congr_left
  intro i _
  omega
theorem two_comm (P Q : List Int) : two P Q = two Q P := by
  unfold two
  rw [Int.add_comm (sumL P), Bool.and_comm (valid P)]
theorem uni_len (P Q : List Int) : (uni P Q).length = P.length + Q.length := by unfold uni; rw [mrg_len]; simp
end NP
end Go.Proofs.Ythafbdpeignccaa
