/-
  Walks: the drawing of parts: newReader, sumFor, partsOf, goodParts, bent, someParts: whatever is drawn is a short list of small numbers in new memory. A door: the drawing of parts (D3a), with the words of W4. Plain mathematics of united and added parts: conjugates turn one into the other. Plain mathematics of orders: rows trimmed of zeros, meets, dominance and conjugates, ranks and cranks. Walks: ranks: the program's and the model's. Walks of the program: all diagrams, one after the other. Walks of the program: the iterator over all diagrams with a sum.
-/
import Derived.Test.YtgkghebjaedjmaaZC1
import Derived.Test.YtgkghebjaedjmaaZC2
import Derived.Deep.RegionHeld3
import Derived.Deep.MidRow
import Derived.StillTailTactics
namespace Go.Proofs.Ytgkghebjaedjmaa
open Go.RowKit NP
set_option maxRecDepth 8000
set_option linter.unusedVariables false

def Small (M : List Int) : Prop := M.length ≤ 40 ∧ ∀ x ∈ M, -1 ≤ x ∧ x ≤ 17
def SmallParts (M : List Int) : Prop := M.length ≤ 16 ∧ ∀ x ∈ M, 1 ≤ x ∧ x ≤ 16

theorem insK_len (M : List Int) (x : Int) : (insK M x).length = M.length + 1 := by
  unfold insK; simp; omega
theorem insK_mem {M : List Int} {x y : Int} (h : y ∈ insK M x) : y = x ∨ y ∈ M := by
  unfold insK at h
  simp at h
  rcases h with h | h | h
  · exact .inr (List.mem_of_mem_take h)
  · exact .inl h
  · exact .inr (List.mem_of_mem_drop h)
theorem fold_ins (L : List Int) : ∀ M, (L.foldl insK M).length = L.length + M.length ∧ ∀ y ∈ L.foldl insK M, y ∈ L ∨ y ∈ M := by
  induction L with
  | nil => intro M; exact ⟨by simp, fun y hy => .inr hy⟩
  | cons x r ih =>
    intro M
    simp only [List.foldl_cons]
    have h := ih (insK M x)
    refine ⟨by rw [h.1, insK_len]; simp; omega, fun y hy => ?_⟩
    rcases h.2 y hy with h1 | h1
    · exact .inl (by simp [h1])
    · rcases insK_mem h1 with rfl | h2
      · exact .inl (by simp)
      · exact .inr h2
theorem mrg_small {L : List Int} (h : SmallParts L) : SmallParts (mrg L) := by
  have hf := fold_ins L []
  refine ⟨by unfold mrg; rw [hf.1]; simpa using h.1, fun x hx => ?_⟩
  rcases hf.2 x hx with h1 | h1
  · exact h.2 x h1
  · simp at h1




theorem below_push' {g : Nat} {w0 w w1 : World} {o : Obj} {row : Option Nat} (hb : Below g w0 w) (hB : g < w.heap.size) (hg : (w.alloc o).grownBy w1 row) (hr : ∀ k, row = some k → g ≤ k) : Below g w0 w1 :=
  (hb.alloc (by omega) o).grown hg (by simp; omega) hr

/-- what a draw of parts leaves -/
def Drawn (g : Nat) (bs : List Int) (P : List Int → Prop) (top : Nat) (w : World) (e : Ending) (w' : World) : Prop :=
  ∃ a' c' M, e = .returned (.slice a' M.length c') ∧ Own w' w.heap.size w'.heap.size 3 (.slice a' M.length c') (ints M) ∧ P M ∧ (∃ q', q' ≤ top ∧ Rdr w' g bs q') ∧ w.grownBy w' (some g)


/-- but for block g, nothing below lo has turned -/
structure Chg (g lo : Nat) (w w' : World) : Prop where
  os : w'.os = w.os
  tape : w'.tape = w.tape
  output : w'.output = w.output
  size : w.heap.size ≤ w'.heap.size
  block : ∀ k, k < lo → k ≠ g → w'.heap[k]? = w.heap[k]?
theorem Chg.trans {g lo : Nat} {a b c : World} (h : Chg g lo a b) (k : Chg g lo b c) : Chg g lo a c :=
  ⟨k.os.trans h.os, k.tape.trans h.tape, k.output.trans h.output, Nat.le_trans h.size k.size, fun i hi hne => (k.block i hi hne).trans (h.block i hi hne)⟩
theorem Chg.of {g lo : Nat} {w w' : World} (h : w.grownBy w' (some g)) (hlo : lo ≤ w.heap.size) : Chg g lo w w' :=
  ⟨h.os, h.tape, h.output, h.size, fun k hk hne => h.block k (by omega) (fun e => by injection e with e; exact hne e)⟩
theorem Chg.ofBelow {g lo : Nat} {w w' : World} (h : Below lo w w') : Chg g lo w w' := ⟨h.os, h.tape, h.output, h.size, fun k hk _ => h.block k hk⟩
theorem Chg.below {g lo : Nat} {w w' : World} (h : Chg g lo w w') (hg : g ≤ lo) : Below g w w' := ⟨h.os, h.tape, h.output, h.size, fun k hk => h.block k (by omega) (by omega)⟩
theorem Chg.grown {g : Nat} {w w' : World} (h : Chg g w.heap.size w w') : w.grownBy w' (some g) := ⟨h.os, h.tape, h.output, h.size, fun k hk hne => h.block k hk (fun e => hne (by rw [e]))⟩
theorem Chg.push {g lo : Nat} {w0 w w1 : World} {o : Obj} {row : Option Nat} (hb : Chg g lo w0 w) (hB : lo ≤ w.heap.size) (hg : (w.alloc o).grownBy w1 row) (hr : ∀ k, row = some k → lo ≤ k) : Chg g lo w0 w1 :=
  hb.trans (.ofBelow (((Below.refl lo w).alloc hB o).grown hg (by simp; omega) hr))














end Go.Proofs.Ytgkghebjaedjmaa

namespace Go.Proofs.Ytgkghebjaedjmaa
namespace NP
set_option linter.unusedVariables false
theorem mono_split {A B : List Int} (h : mono (A ++ B)) : mono A ∧ mono B ∧ ∀ x ∈ A, ∀ y ∈ B, y ≤ x := by
  induction A with
  | nil => exact ⟨trivial, h, fun x hx => by simp at hx⟩
  | cons x r ih =>
    obtain ⟨h1, h2⟩ := h
    obtain ⟨h3, h4, h5⟩ := ih h2
    refine ⟨⟨fun y hy => h1 y (List.mem_append_left _ hy), h3⟩, h4, fun z hz y hy => ?_⟩
    rcases List.mem_cons.1 hz with rfl | hz
    · exact h1 y (List.mem_append_right _ hy)
    · exact h5 z hz y hy
theorem mono_head {D : List Int} (h : mono D) (i : Nat) (hi : i < D.length) : D[i] ≤ D[0]'(by omega) := by
  match D, h with
  | [], _ => simp at hi
  | y :: t, h =>
    match i, hi with
    | 0, _ => exact Int.le_refl _
    | i + 1, hi => exact h.1 _ (List.getElem_mem _)
theorem insK_mono {M : List Int} (h : mono M) (x : Int) : mono (insK M x) := by
  have hs := ff_spec (fun (j : Nat) => decide (x ≤ M.getD j 0)) M.length
  have e := List.take_append_drop (posOf x M) M
  rw [← e] at h
  obtain ⟨h1, h2, h3⟩ := mono_split h
  have hd : ∀ y ∈ M.drop (posOf x M), y ≤ x := fun y hy => by
    obtain ⟨i, hi, rfl⟩ := List.getElem_of_mem hy
    simp at hi
    rcases hs.2.2 with hs2 | hs2
    · have : posOf x M = M.length := hs2
      omega
    · have hp : posOf x M < M.length := by omega
      have hx : ¬ x ≤ M.getD (posOf x M) 0 := of_decide_eq_false hs2
      rw [getD_lt hp] at hx
      have h4 := mono_head h2 i (by simp; omega)
      simp at h4
      rw [List.getElem_drop]
      omega
  unfold insK
  refine mono_append h1 ⟨hd, h2⟩ fun a ha b hb => ?_
  rcases List.mem_cons.1 hb with rfl | hb
  · obtain ⟨i, hi, rfl⟩ := List.getElem_of_mem ha
    simp at hi
    have := of_decide_eq_true (hs.2.1 i (by unfold posOf at hi; omega))
    rw [getD_lt (by omega)] at this
    rw [List.getElem_take]
    exact this
  · exact h3 a ha b hb
theorem insK_eqc (M : List Int) (x k : Int) : eqc k (insK M x) = eqc k M + (if x = k then 1 else 0) := by
  have e : eqc k M = eqc k (M.take (posOf x M)) + eqc k (M.drop (posOf x M)) := by rw [← eqc_append, List.take_append_drop]
  unfold insK
  rw [eqc_append, eqc_cons, e]
  omega
theorem insK_sum (M : List Int) (x : Int) : sumL (insK M x) = sumL M + x := by
  have e : sumL M = sumL (M.take (posOf x M)) + sumL (M.drop (posOf x M)) := by rw [← sumL_append, List.take_append_drop]
  unfold insK
  rw [sumL_append, sumL, e]
  omega
theorem fold_facts (L : List Int) : ∀ M, mono M → mono (L.foldl insK M) ∧ (∀ k, eqc k (L.foldl insK M) = eqc k M + eqc k L) ∧ sumL (L.foldl insK M) = sumL M + sumL L := by
  induction L with
  | nil => intro M h; exact ⟨h, fun k => by simp [eqc], by simp [sumL]⟩
  | cons x r ih =>
    intro M h
    obtain ⟨h1, h2, h3⟩ := ih (insK M x) (insK_mono h x)
    refine ⟨h1, fun k => ?_, ?_⟩
    · rw [List.foldl_cons, h2, insK_eqc, eqc_cons]; omega
    · rw [List.foldl_cons, h3, insK_sum, sumL]; omega
theorem mrg_mono (L : List Int) : mono (mrg L) := (fold_facts L [] trivial).1
theorem mrg_eqc (L : List Int) (k : Int) : eqc k (mrg L) = eqc k L := by have := (fold_facts L [] trivial).2.1 k; unfold mrg; simpa [eqc] using this
theorem mrg_sum (L : List Int) : sumL (mrg L) = sumL L := by have := (fold_facts L [] trivial).2.2; unfold mrg; simpa [sumL] using this
theorem mrg_len (L : List Int) : (mrg L).length = L.length := by have := (fold_ins L []).1; unfold mrg; simpa using this
theorem mrg_mem {L : List Int} {y : Int} (h : y ∈ mrg L) : y ∈ L := by
  rcases (fold_ins L []).2 y h with h | h
  · exact h
  · simp at h
theorem cnt_eqc {A B : List Int} (h : ∀ k, eqc k A = eqc k B) (hl : A.length = B.length) (t : Int) : cnt t A = cnt t B := by
  induction A generalizing B with
  | nil =>
    have : B = [] := List.eq_nil_of_length_eq_zero (by simp at hl; omega)
    subst this; rfl
  | cons x r ih =>
    have hx : x ∈ B := eqc_mem (by rw [← h x]; exact eqc_pos (by simp))
    obtain ⟨b1, b2, rfl⟩ := List.append_of_mem hx
    have h2 := ih (B := b1 ++ b2) (fun k => by
      have := h k
      rw [eqc_cons, eqc_append, eqc_cons] at this
      rw [eqc_append]; omega) (by simp at hl ⊢; omega)
    rw [cnt, h2, cnt_append, cnt_append, cnt]
    omega
theorem mono_get {L : List Int} (h : mono L) (j : Nat) (hj : j + 1 < L.length) : L[j + 1] ≤ L[j] := by
  induction L generalizing j with
  | nil => simp at hj
  | cons x r ih =>
    match j with
    | 0 => simp; exact h.1 _ (List.getElem_mem _)
    | j + 1 => simpa using ih h.2 j (by simp at hj; omega)
theorem valid_mono {M : List Int} (h : mono M) (h1 : ∀ x ∈ M, 1 ≤ x) (hs : sumL M ≤ 16) : valid M = true := by
  refine valid_of_preS (fun j hj _ => ?_) hs
  have hb := (elem_le_sum (fun x hx => by have := h1 x hx; omega) hj).1
  refine ⟨h1 _ (List.getElem_mem hj), by omega, fun h0 => ?_⟩
  have := mono_get h (j - 1) (by omega)
  simp only [show j - 1 + 1 = j by omega] at this
  exact this
def uni (P Q : List Int) : List Int := mrg (P ++ Q)
theorem valid_ge1 {L : List Int} (h : valid L = true) : ∀ x ∈ L, 1 ≤ x := fun x hx => by
  obtain ⟨k, hk, rfl⟩ := List.getElem_of_mem hx
  exact (preS_of_valid h k hk hk).1
theorem uni_ge1 {P Q : List Int} (h : two P Q = true) : ∀ x ∈ uni P Q, 1 ≤ x := fun x hx => by
  obtain ⟨hp, hq, _⟩ := two_out h
  rcases List.mem_append.1 (mrg_mem hx) with hx | hx
  · exact valid_ge1 hp x hx
  · exact valid_ge1 hq x hx
theorem valid_uni {P Q : List Int} (h : two P Q = true) : valid (uni P Q) = true :=
  valid_mono (mrg_mono _) (uni_ge1 h) (by unfold uni; rw [mrg_sum, sumL_append]; exact (two_out h).2.2)
theorem um_uni {P Q : List Int} (h : two P Q = true) : (um (fun i => P.getD i 0) (fun i => Q.getD i 0) 16).1 = pad (uni P Q) :=
  um_end h (mrg_mono _) (fun k => by unfold uni; rw [mrg_eqc, eqc_append]) (by unfold uni; rw [mrg_len]; simp) (uni_ge1 h)
def uniF (P Q : List Int) : List Int := if two P Q then uni P Q else []
theorem uniF_yes {P Q : List Int} (h : two P Q = true) : uniF P Q = uni P Q := by simp [uniF, h]
theorem uniF_no {P Q : List Int} (h : two P Q = false) : uniF P Q = [] := by simp [uniF, h]
theorem uniF_len (P Q : List Int) : (uniF P Q).length ≤ 16 := by
  unfold uniF
  split
  · rename_i h
    exact (valid_bd (valid_uni h)).2.2.2
  · simp
/-- parts with the same numbers at all places are the same -/
theorem valid_ext {A B : List Int} (hA : valid A = true) (hB : valid B = true) (h : ∀ j, A.getD j 0 = B.getD j 0) : A = B := by
  have hl : A.length = B.length := by
    rcases Nat.lt_trichotomy A.length B.length with h1 | h1 | h1
    · have := h A.length
      rw [getD_ge (Nat.le_refl _)] at this
      have := getD_pos hB h1
      omega
    · exact h1
    · have := h B.length
      rw [getD_ge (L := B) (Nat.le_refl _)] at this
      have := getD_pos hA h1
      omega
  apply List.ext_getElem hl
  intro j h1 h2
  have := h j
  rwa [getD_lt h1, getD_lt h2] at this
theorem conj_getD {L : List Int} (h : valid L = true) (j : Nat) : (conj L).getD j 0 = cnt ((j : Int) + 1) L := by
  rcases Nat.lt_or_ge j (conj L).length with h1 | h1
  · rw [getD_lt h1, conj_get]
  · rw [getD_ge h1]
    rw [conj_len] at h1
    exact (cnt_none fun x hx => by have := head_ge h x hx; omega).symm
theorem two_conj {P Q : List Int} (h : two P Q = true) : two (conj P) (conj Q) = true := by
  obtain ⟨hp, hq, hs⟩ := two_out h
  unfold two
  rw [valid_conj hp, valid_conj hq, sumL_conj hp, sumL_conj hq, decide_eq_true hs]
  rfl
theorem cnt_uni (P Q : List Int) (t : Int) : cnt t (uni P Q) = cnt t P + cnt t Q := by
  rw [← cnt_append]
  exact cnt_eqc (fun k => by unfold uni; rw [mrg_eqc]) (by unfold uni; rw [mrg_len]) t
theorem conj_uni {P Q : List Int} (h : two P Q = true) : conj (uni P Q) = adp (conj P) (conj Q) := by
  obtain ⟨hp, hq, hs⟩ := two_out h
  refine valid_ext (valid_conj (valid_uni h)) (valid_adp (two_conj h)) fun j => ?_
  rw [conj_getD (valid_uni h), adp_getD, conj_getD hp, conj_getD hq, cnt_uni]
theorem conj_adp {P Q : List Int} (h : two P Q = true) : conj (adp P Q) = uni (conj P) (conj Q) := by
  obtain ⟨hp, hq, hs⟩ := two_out h
  have h2 := two_conj h
  have e := conj_uni h2
  rw [conj_conj hp, conj_conj hq] at e
  rw [← e, conj_conj (valid_uni h2)]
theorem adp_comm (P Q : List Int) : adp P Q = adp Q P := by
  unfold adp
  rw [Nat.max_comm]
  apply List.map_congr_left
  intro i _
  omega
theorem two_comm (P Q : List Int) : two P Q = two Q P := by
  unfold two
  rw [Int.add_comm (sumL P), Bool.and_comm (valid P)]
theorem uni_len (P Q : List Int) : (uni P Q).length = P.length + Q.length := by unfold uni; rw [mrg_len]; simp
end NP
end Go.Proofs.Ytgkghebjaedjmaa
namespace Go.Proofs.Ytgkghebjaedjmaa
namespace NP
set_option linter.unusedVariables false
/-- the first n values that are above 0 -/
def tr (f : Nat → Int) (n : Nat) : List Int := ((List.range n).map f).filter fun x => decide (0 < x)
def sf (f : Nat → Int) : Nat → Int
  | 0 => 0
  | n + 1 => sf f n + f n
theorem tr_succ (f : Nat → Int) (n : Nat) : tr f (n + 1) = tr f n ++ if 0 < f n then [f n] else [] := by
  unfold tr
  rw [List.range_succ, List.map_append, List.filter_append]
  congr 1
  simp only [List.map_cons, List.map_nil, List.filter_cons, List.filter_nil, decide_eq_true_eq]
theorem tr_len (f : Nat → Int) (n : Nat) : (tr f n).length ≤ n := by
  have h := List.length_filter_le (fun x => decide (0 < x)) ((List.range n).map f)
  simpa [tr] using h
theorem tr_full {f : Nat → Int} {n : Nat} (h : ∀ i, i < n → 0 < f i) : tr f n = (List.range n).map f := by
  unfold tr
  rw [List.filter_eq_self]
  intro x hx
  simp only [List.mem_map, List.mem_range] at hx
  obtain ⟨i, hi, rfl⟩ := hx
  simpa using h i hi
theorem map_getD (f : Nat → Int) (n j : Nat) : ((List.range n).map f).getD j 0 = if j < n then f j else 0 := by
  by_cases h : j < n
  · rw [if_pos h, List.getD_eq_getElem?_getD, List.getElem?_eq_getElem (by simpa using h)]
    simp
  · rw [if_neg h, List.getD_eq_getElem?_getD, List.getElem?_eq_none (by simp; omega)]
    rfl
theorem fall_le {f : Nat → Int} (hf : ∀ i, f (i + 1) ≤ f i) {i j : Nat} (h : i ≤ j) : f j ≤ f i := by
  induction j with
  | zero => obtain rfl : i = 0 := by omega
            exact Int.le_refl _
  | succ j ih =>
    by_cases e : i = j + 1
    · rw [e]; exact Int.le_refl _
    · exact Int.le_trans (hf j) (ih (by omega))
theorem tr_getD {f : Nat → Int} (hf : ∀ i, f (i + 1) ≤ f i) (h0 : ∀ i, 0 ≤ f i) (n j : Nat) : (tr f n).getD j 0 = if j < n then f j else 0 := by
  induction n with
  | zero => rfl
  | succ n ih =>
    by_cases h : 0 < f n
    · rw [tr_full (fun i hi => Int.lt_of_lt_of_le h (fall_le hf (by omega))), map_getD]
    · rw [tr_succ, if_neg h, List.append_nil, ih]
      have := h0 n
      by_cases h1 : j < n
      · rw [if_pos h1, if_pos (by omega)]
      · rw [if_neg h1]
        by_cases h2 : j = n
        · subst h2; rw [if_pos (by omega)]; omega
        · rw [if_neg (by omega)]
theorem tr_pos {f : Nat → Int} {n : Nat} {x : Int} (h : x ∈ tr f n) : 0 < x := by
  unfold tr at h
  rw [List.mem_filter] at h
  simpa using h.2
theorem sum_tr {f : Nat → Int} (h0 : ∀ i, 0 ≤ f i) (n : Nat) : sumL (tr f n) = sf f n := by
  induction n with
  | zero => rfl
  | succ n ih =>
    rw [tr_succ, sumL_append, ih, sf]
    have := h0 n
    by_cases h : 0 < f n
    · rw [if_pos h]; simp [sumL]
    · rw [if_neg h]; simp [sumL]; omega
theorem sf_le {f : Nat → Int} (h0 : ∀ i, 0 ≤ f i) {i n : Nat} (h : i < n) : f i ≤ sf f n ∧ 0 ≤ sf f n := by
  induction n with
  | zero => omega
  | succ n ih =>
    have h1 := h0 n
    have hn : 0 ≤ sf f n := by
      clear ih h h1
      induction n with
      | zero => exact Int.le_refl _
      | succ n ih => have := h0 n; rw [sf]; omega
    rw [sf]
    by_cases e : i = n
    · subst e; omega
    · have := ih (by omega); omega
theorem valid_tr {f : Nat → Int} (hf : ∀ i, f (i + 1) ≤ f i) (h0 : ∀ i, 0 ≤ f i) {n : Nat} (hs : sf f n ≤ 16) : valid (tr f n) = true := by
  apply valid_of_preS
  · intro j hj _
    have e := tr_getD hf h0 n j
    have hp := tr_pos (List.getElem_mem hj)
    rw [getD_lt hj] at e
    have hjn : j < n := by have := tr_len f n; omega
    rw [if_pos hjn] at e
    have hb := sf_le h0 hjn
    refine ⟨by omega, by omega, fun h1 => ?_⟩
    have e2 := tr_getD hf h0 n (j - 1)
    rw [getD_lt (by omega), if_pos (by omega)] at e2
    have := hf (j - 1)
    rw [show j - 1 + 1 = j by omega] at this
    omega
  · rw [sum_tr h0]; exact hs
theorem pad_tr {f : Nat → Int} (hf : ∀ i, f (i + 1) ≤ f i) (h0 : ∀ i, 0 ≤ f i) : pad (tr f 16) = (List.range 16).map f := by
  have hl := tr_len f 16
  apply List.ext_getElem
  · rw [pad_len hl]; simp
  · intro j h1 h2
    have e := pad_getD hl j
    rw [getD_lt h1, tr_getD hf h0] at e
    simp at h2
    rw [e, if_pos h2]
    simp
theorem tr_more {f : Nat → Int} {n m : Nat} (h : n ≤ m) (hz : ∀ i, n ≤ i → f i = 0) : tr f m = tr f n := by
  induction m with
  | zero => obtain rfl : n = 0 := by omega
            rfl
  | succ m ih =>
    by_cases e : n = m + 1
    · rw [e]
    · rw [tr_succ, ih (by omega), hz m (by omega), if_neg (by omega), List.append_nil]
theorem tr_self {L : List Int} (hv : valid L = true) {n : Nat} (h : L.length ≤ n) : tr (fun i => L.getD i 0) n = L := by
  rw [tr_more h (fun i hi => getD_ge hi), tr_full (fun i hi => by have := getD_pos hv hi; omega)]
  apply List.ext_getElem
  · simp
  · intro j h1 h2
    rw [List.getElem_map, List.getElem_range, getD_lt h2]
theorem tr_congr {f g : Nat → Int} {n : Nat} (h : ∀ i, i < n → f i = g i) : tr f n = tr g n := by
  unfold tr
  rw [List.map_congr_left fun i hi => h i (by simpa using hi)]
theorem getD_fall' {L : List Int} (hv : valid L = true) (i : Nat) : L.getD (i + 1) 0 ≤ L.getD i 0 := getD_fall hv (i + 1) (by omega)

/-! what both have, and what has both -/
def lo2 (P Q : List Int) (i : Nat) : Int := min (P.getD i 0) (Q.getD i 0)
def hi2 (P Q : List Int) (i : Nat) : Int := max (P.getD i 0) (Q.getD i 0)
def cutL (P Q : List Int) : List Int := tr (lo2 P Q) 16
def cutH (P Q : List Int) : List Int := tr (hi2 P Q) 16
section
variable {P Q : List Int}
theorem lo2_fall (hp : valid P = true) (hq : valid Q = true) (i : Nat) : lo2 P Q (i + 1) ≤ lo2 P Q i := by
  have := getD_fall' hp i; have := getD_fall' hq i; unfold lo2; omega
theorem hi2_fall (hp : valid P = true) (hq : valid Q = true) (i : Nat) : hi2 P Q (i + 1) ≤ hi2 P Q i := by
  have := getD_fall' hp i; have := getD_fall' hq i; unfold hi2; omega
theorem lo2_nn (hp : valid P = true) (hq : valid Q = true) (i : Nat) : 0 ≤ lo2 P Q i := by
  have := getD_nn hp i; have := getD_nn hq i; unfold lo2; omega
theorem hi2_nn (hp : valid P = true) (hq : valid Q = true) (i : Nat) : 0 ≤ hi2 P Q i := by
  have := getD_nn hp i; have := getD_nn hq i; unfold hi2; omega
theorem sf_sumTo (L : List Int) (n : Nat) : sf (fun i => L.getD i 0) n = sumTo L n := by
  induction n with
  | zero => rfl
  | succ n ih => rw [sf, sumTo, ih]
theorem sf_cut (P Q : List Int) (n : Nat) : sf (lo2 P Q) n + sf (hi2 P Q) n = sumTo P n + sumTo Q n := by
  induction n with
  | zero => rfl
  | succ n ih => rw [sf, sf, sumTo, sumTo]; unfold lo2 hi2 at *; omega
theorem sf_lo_le (hp : valid P = true) (hq : valid Q = true) (n : Nat) : sf (lo2 P Q) n ≤ sumTo P n := by
  induction n with
  | zero => exact Int.le_refl _
  | succ n ih => rw [sf, sumTo]; have : lo2 P Q n ≤ P.getD n 0 := by unfold lo2; omega
                 omega
end
/-- the cut rows fit -/
def cutOk (P Q : List Int) : Bool := valid P && valid Q && decide (sf (hi2 P Q) 16 ≤ 16)
def cutLF (P Q : List Int) : List Int := if cutOk P Q then cutL P Q else []
def cutHF (P Q : List Int) : List Int := if cutOk P Q then cutH P Q else []
theorem cutOk_out {P Q : List Int} (h : cutOk P Q = true) : valid P = true ∧ valid Q = true ∧ sf (hi2 P Q) 16 ≤ 16 := by
  unfold cutOk at h
  simp only [Bool.and_eq_true, decide_eq_true_eq] at h
  exact ⟨h.1.1, h.1.2, h.2⟩
theorem valid_cutL {P Q : List Int} (hp : valid P = true) (hq : valid Q = true) : valid (cutL P Q) = true := by
  have h1 := sf_lo_le hp hq 16
  rw [sumTo_all P 16 (valid_bd hp).2.2.2] at h1
  exact valid_tr (lo2_fall hp hq) (lo2_nn hp hq) (by have := (valid_bd hp).2.1; omega)
theorem valid_cutH {P Q : List Int} (h : cutOk P Q = true) : valid (cutH P Q) = true := by
  obtain ⟨hp, hq, hs⟩ := cutOk_out h
  exact valid_tr (hi2_fall hp hq) (hi2_nn hp hq) hs

/-- are the rows of Q inside of those of P -/
def ins (P Q : List Int) : Bool := valid P && valid Q && (List.range 16).all fun i => decide (Q.getD i 0 ≤ P.getD i 0)
theorem ins_iff {P Q : List Int} : ins P Q = true ↔ valid P = true ∧ valid Q = true ∧ ∀ i, Q.getD i 0 ≤ P.getD i 0 := by
  unfold ins
  simp only [Bool.and_eq_true, List.all_eq_true, List.mem_range, decide_eq_true_eq]
  constructor
  · rintro ⟨⟨hp, hq⟩, h⟩
    refine ⟨hp, hq, fun i => ?_⟩
    rcases Nat.lt_or_ge i 16 with hi | hi
    · exact h i hi
    · rw [getD_ge (Nat.le_trans (valid_bd hq).2.2.2 hi)]; exact (getD_nn hp i).1
  · rintro ⟨hp, hq, h⟩
    exact ⟨⟨hp, hq⟩, fun i _ => h i⟩

/-! first sums -/
def mf (P Q : List Int) (k : Nat) : Int := min (sumTo P k) (sumTo Q k)
def mi (P Q : List Int) (i : Nat) : Int := mf P Q (i + 1) - mf P Q i
def mt (P Q : List Int) : List Int := tr (mi P Q) 16
theorem sf_mi (P Q : List Int) (n : Nat) : sf (mi P Q) n = mf P Q n := by
  induction n with
  | zero => simp [sf, mf, sumTo]
  | succ n ih => rw [sf, ih]; unfold mi; omega
section
variable {P Q : List Int}
theorem mi_fall (hp : valid P = true) (hq : valid Q = true) (i : Nat) : mi P Q (i + 1) ≤ mi P Q i := by
  have := getD_fall' hp i; have := getD_fall' hq i; unfold mi mf; simp only [sumTo]; omega
theorem mi_nn (hp : valid P = true) (hq : valid Q = true) (i : Nat) : 0 ≤ mi P Q i := by
  have := getD_nn hp i; have := getD_nn hq i; unfold mi mf; simp only [sumTo]; omega
theorem mf_end (hp : valid P = true) (hq : valid Q = true) : mf P Q 16 = min (sumL P) (sumL Q) := by
  unfold mf; rw [sumTo_all P 16 (valid_bd hp).2.2.2, sumTo_all Q 16 (valid_bd hq).2.2.2]
theorem valid_mt (hp : valid P = true) (hq : valid Q = true) : valid (mt P Q) = true := by
  refine valid_tr (mi_fall hp hq) (mi_nn hp hq) ?_
  rw [sf_mi, mf_end hp hq]
  have := (valid_bd hp).2.1
  omega
theorem pad_mt (hp : valid P = true) (hq : valid Q = true) : pad (mt P Q) = (List.range 16).map (mi P Q) := pad_tr (mi_fall hp hq) (mi_nn hp hq)
theorem sum_mt (hp : valid P = true) (hq : valid Q = true) : sumL (mt P Q) = min (sumL P) (sumL Q) := by
  unfold mt
  rw [sum_tr (mi_nn hp hq), sf_mi, mf_end hp hq]
theorem sumTo_mt (hp : valid P = true) (hq : valid Q = true) {k : Nat} (hk : k ≤ 16) : sumTo (mt P Q) k = mf P Q k := by
  induction k with
  | zero => simp [sumTo, mf]
  | succ k ih =>
    rw [sumTo, ih (by omega)]
    unfold mt
    rw [tr_getD (mi_fall hp hq) (mi_nn hp hq), if_pos (by omega)]
    unfold mi
    omega
theorem eq_of_sumTo (hp : valid P = true) (hq : valid Q = true) (h : ∀ k, k ≤ 16 → sumTo P k = sumTo Q k) : P = Q := by
  refine valid_ext hp hq fun j => ?_
  rcases Nat.lt_or_ge j 16 with hj | hj
  · have h1 := h j (by omega)
    have h2 := h (j + 1) (by omega)
    simp only [sumTo] at h2
    omega
  · rw [getD_ge (Nat.le_trans (valid_bd hp).2.2.2 hj), getD_ge (Nat.le_trans (valid_bd hq).2.2.2 hj)]
theorem mt_right (hp : valid P = true) (hq : valid Q = true) : mt P Q = Q ↔ ∀ k, k ≤ 16 → sumTo Q k ≤ sumTo P k := by
  constructor
  · intro h k hk
    have := sumTo_mt hp hq hk
    rw [h] at this
    unfold mf at this
    omega
  · intro h
    refine eq_of_sumTo (valid_mt hp hq) hq fun k hk => ?_
    rw [sumTo_mt hp hq hk]
    have := h k hk
    unfold mf
    omega
theorem mt_comm (P Q : List Int) : mt P Q = mt Q P := by
  unfold mt
  refine tr_congr fun i _ => ?_
  unfold mi mf
  omega
end
/-- P dominates Q -/
def dom (P Q : List Int) : Bool := valid P && valid Q && decide (sumL P = sumL Q) && (List.range 17).all fun k => decide (sumTo Q k ≤ sumTo P k)
theorem dom_iff {P Q : List Int} : dom P Q = true ↔ valid P = true ∧ valid Q = true ∧ sumL P = sumL Q ∧ ∀ k, k ≤ 16 → sumTo Q k ≤ sumTo P k := by
  unfold dom
  simp only [Bool.and_eq_true, List.all_eq_true, List.mem_range, decide_eq_true_eq]
  constructor
  · rintro ⟨⟨⟨hp, hq⟩, hs⟩, h⟩; exact ⟨hp, hq, hs, fun k hk => h k (by omega)⟩
  · rintro ⟨hp, hq, hs, h⟩; exact ⟨⟨⟨hp, hq⟩, hs⟩, fun k hk => h k (by omega)⟩

/-! the other way round -/
def csum (j : Nat) (L : List Int) : Int := sumL ((List.range j).map fun (t : Nat) => cnt ((t : Int) + 1) L)
theorem csum_cons (j : Nat) (x : Int) (r : List Int) : csum j (x :: r) = tsum j x + csum j r := by
  unfold csum
  induction j with
  | zero => rfl
  | succ j ih =>
    have e2 : tsum (j + 1) x = tsum j x + if (j : Int) + 1 ≤ x then 1 else 0 := by
      simp [tsum, List.range_succ, sumL_append, sumL]
    rw [List.range_succ, List.map_append, sumL_append, ih, List.map_append, sumL_append, e2]
    simp [cnt, sumL]; omega
theorem csum_nil (j : Nat) : csum j [] = 0 := by
  unfold csum
  induction j with
  | zero => rfl
  | succ j ih => rw [List.range_succ, List.map_append, sumL_append, ih]; simp [cnt, sumL]
theorem sumTo_conj {L : List Int} (hv : valid L = true) (j : Nat) : sumTo (conj L) j = csum j L := by
  unfold csum
  induction j with
  | zero => rfl
  | succ j ih => rw [sumTo, ih, conj_getD hv, List.range_succ, List.map_append, sumL_append]; simp [sumL]
theorem tsum_full (n : Nat) (x : Int) (h : (n : Int) ≤ x) : tsum n x = n := by
  induction n with
  | zero => simp [tsum, sumL]
  | succ n ih =>
    have e2 : tsum (n + 1) x = tsum n x + if (n : Int) + 1 ≤ x then 1 else 0 := by
      simp [tsum, List.range_succ, sumL_append, sumL]
    rw [e2, ih (by omega), if_pos (by omega)]
    omega
theorem cells_le (j : Nat) : ∀ (L : List Int) (k : Nat), (∀ x ∈ L, 0 ≤ x) → sumL (L.take k) + csum j L ≤ sumL L + (k : Int) * (j : Int)
  | [], k, _ => by
    rw [csum_nil]
    have : (0 : Int) ≤ (k : Int) * (j : Int) := Int.mul_nonneg (by omega) (by omega)
    simp [sumL]; exact this
  | x :: r, 0, h => by
    have ih := cells_le j r 0 fun y hy => h y (by simp [hy])
    have h1 := (tsum_le j x (h x (by simp))).1
    rw [csum_cons]
    simp [sumL] at ih ⊢
    omega
  | x :: r, k + 1, h => by
    have ih := cells_le j r k fun y hy => h y (by simp [hy])
    have h1 := (tsum_le j x (h x (by simp))).2
    rw [csum_cons]
    have e : ((k + 1 : Nat) : Int) * (j : Int) = (k : Int) * (j : Int) + (j : Int) := by rw [Int.natCast_add, Int.add_mul]; simp
    rw [e]
    simp only [List.take_succ_cons, sumL]
    omega
theorem cells_eq (j : Nat) : ∀ (L : List Int), mono L → (∀ x ∈ L, 0 ≤ x) → sumL (L.take (cnt ((j : Int) + 1) L).toNat) + csum j L = sumL L + cnt ((j : Int) + 1) L * (j : Int)
  | [], _, _ => by simp [csum_nil, cnt, sumL]
  | x :: r, hm, h => by
    by_cases hx : (j : Int) + 1 ≤ x
    · have ih := cells_eq j r hm.2 fun y hy => h y (by simp [hy])
      have hc := cnt_bd ((j : Int) + 1) r
      have e : cnt ((j : Int) + 1) (x :: r) = cnt ((j : Int) + 1) r + 1 := by rw [cnt, if_pos hx]; omega
      rw [e, csum_cons, tsum_full j x (by omega), show (cnt ((j : Int) + 1) r + 1).toNat = (cnt ((j : Int) + 1) r).toNat + 1 by omega, List.take_succ_cons, Int.add_mul]
      simp only [sumL]
      omega
    · have e : cnt ((j : Int) + 1) (x :: r) = 0 := cnt_none fun y hy => by
        rcases List.mem_cons.1 hy with rfl | hy
        · omega
        · have := hm.1 y hy; omega
      rw [e]
      have h2 : csum j (x :: r) = sumL (x :: r) := csum_eq j _ fun y hy => ⟨h y hy, by
        rcases List.mem_cons.1 hy with rfl | hy
        · omega
        · have := hm.1 y hy; omega⟩
      rw [h2]
      simp [sumL]
theorem dual {P Q : List Int} (hp : valid P = true) (hq : valid Q = true) (hs : sumL P = sumL Q) (h : ∀ k, k ≤ 16 → sumTo Q k ≤ sumTo P k) (j : Nat) : sumTo (conj P) j ≤ sumTo (conj Q) j := by
  rw [sumTo_conj hp, sumTo_conj hq]
  have hc := cnt_bd ((j : Int) + 1) Q
  have h1 := cells_eq j Q (mono_valid hq) (valid_nonneg hq)
  have h2 := cells_le j P (cnt ((j : Int) + 1) Q).toNat (valid_nonneg hp)
  have h3 := h (cnt ((j : Int) + 1) Q).toNat (by have := (valid_bd hq).2.2.2; omega)
  rw [sumTo_take, sumTo_take] at h3
  rw [show (((cnt ((j : Int) + 1) Q).toNat : Nat) : Int) = cnt ((j : Int) + 1) Q by omega] at h2
  omega
theorem dom_conj {P Q : List Int} (hp : valid P = true) (hq : valid Q = true) : dom (conj Q) (conj P) = dom P Q := by
  have key : ∀ {P Q : List Int}, dom P Q = true → dom (conj Q) (conj P) = true := by
    intro P Q h
    obtain ⟨hp, hq, hs, hk⟩ := dom_iff.1 h
    exact dom_iff.2 ⟨valid_conj hq, valid_conj hp, by rw [sumL_conj hp, sumL_conj hq, hs], fun k _ => dual hp hq hs hk k⟩
  rw [Bool.eq_iff_iff]
  refine ⟨fun h => ?_, key⟩
  have := key h
  rwa [conj_conj hp, conj_conj hq] at this
theorem conj_inj {P Q : List Int} (hp : valid P = true) (hq : valid Q = true) : conj P = conj Q ↔ P = Q :=
  ⟨fun h => by rw [← conj_conj hp, h, conj_conj hq], fun h => by rw [h]⟩
theorem pad_inj {P Q : List Int} (hp : valid P = true) (hq : valid Q = true) : pad P = pad Q ↔ P = Q :=
  ⟨fun h => valid_ext hp hq fun j => by rw [← pad_getD (valid_bd hp).2.2.2, h, pad_getD (valid_bd hq).2.2.2], fun h => by rw [h]⟩
/-- what is above both -/
def jn (P Q : List Int) : List Int := conj (mt (conj P) (conj Q))
theorem valid_jn {P Q : List Int} (hp : valid P = true) (hq : valid Q = true) : valid (jn P Q) = true := valid_conj (valid_mt (valid_conj hp) (valid_conj hq))
/-- the program's question: they are their own bounds -/
theorem dom_bounds {P Q : List Int} (hp : valid P = true) (hq : valid Q = true) : dom P Q = (decide (mt P Q = Q) && decide (jn P Q = P)) := by
  have h2 : jn P Q = P ↔ ∀ k, k ≤ 16 → sumTo (conj P) k ≤ sumTo (conj Q) k := by
    rw [← mt_right (valid_conj hq) (valid_conj hp), mt_comm, ← conj_inj (valid_jn hp hq) hp]
    unfold jn
    rw [conj_conj (valid_mt (valid_conj hp) (valid_conj hq))]
  rw [Bool.eq_iff_iff, Bool.and_eq_true, decide_eq_true_eq, decide_eq_true_eq, dom_iff, mt_right hp hq, h2]
  constructor
  · rintro ⟨_, _, hs, h⟩; exact ⟨h, fun k _ => dual hp hq hs h k⟩
  · rintro ⟨h, h'⟩
    refine ⟨hp, hq, ?_, h⟩
    have a1 := h 16 (by omega)
    have a2 := h' 16 (by omega)
    rw [sumTo_all _ 16 (valid_bd hp).2.2.2, sumTo_all _ 16 (valid_bd hq).2.2.2] at a1
    rw [sumTo_all _ 16 (valid_bd (valid_conj hp)).2.2.2, sumTo_all _ 16 (valid_bd (valid_conj hq)).2.2.2, sumL_conj hp, sumL_conj hq] at a2
    omega
theorem ins_bounds {P Q : List Int} (hp : valid P = true) (hq : valid Q = true) : ins P Q = (decide ((List.range 16).map (lo2 P Q) = pad Q) && decide ((List.range 16).map (hi2 P Q) = pad P)) := by
  rw [Bool.eq_iff_iff, Bool.and_eq_true, decide_eq_true_eq, decide_eq_true_eq, ins_iff]
  have hpl := (valid_bd hp).2.2.2
  have hql := (valid_bd hq).2.2.2
  constructor
  · rintro ⟨_, _, h⟩
    constructor
    · apply List.ext_getElem
      · rw [pad_len hql]; simp
      · intro j h1 h2
        rw [← getD_lt h2, pad_getD hql]
        simp only [List.getElem_map, List.getElem_range]
        have := h j
        unfold lo2; omega
    · apply List.ext_getElem
      · rw [pad_len hpl]; simp
      · intro j h1 h2
        rw [← getD_lt h2, pad_getD hpl]
        simp only [List.getElem_map, List.getElem_range]
        have := h j
        unfold hi2; omega
  · rintro ⟨h, _⟩
    refine ⟨hp, hq, fun i => ?_⟩
    rcases Nat.lt_or_ge i 16 with hi | hi
    · have e := congrArg (fun l => l.getD i 0) h
      rw [map_getD, if_pos hi, pad_getD hql] at e
      unfold lo2 at e
      omega
    · rw [getD_ge (by omega)]; exact (getD_nn hp i).1

/-! ranks and cranks -/
def rnk (L : List Int) : Int := if valid L then L.headD 0 - L.length else 0
def crk (L : List Int) : Int := if valid L then (if eqc 1 L = 0 then L.headD 0 else cnt (eqc 1 L + 1) L - eqc 1 L) else 0
theorem rnk_yes {L : List Int} (h : valid L = true) : rnk L = L.headD 0 - L.length := by simp [rnk, h]
theorem rnk_no {L : List Int} (h : valid L = false) : rnk L = 0 := by simp [rnk, h]
theorem crk_yes {L : List Int} (h : valid L = true) : crk L = if eqc 1 L = 0 then L.headD 0 else cnt (eqc 1 L + 1) L - eqc 1 L := by simp [crk, h]
theorem crk_no {L : List Int} (h : valid L = false) : crk L = 0 := by simp [crk, h]
end NP
end Go.Proofs.Ytgkghebjaedjmaa
namespace Go.Proofs.Ytgkghebjaedjmaa
namespace NP
theorem head_le_sum {L : List Int} (h : valid L = true) : 0 ≤ L.headD 0 ∧ L.headD 0 ≤ sumL L ∧ (0 < L.length → 1 ≤ L.headD 0) := by
  cases L with
  | nil => simp [sumL]
  | cons x r =>
    have h0 := valid_nonneg h
    have h1 := (elem_le_sum h0 (q := 0) (by simp)).1
    have h2 := valid_ge1 h x (by simp)
    simp at h1 ⊢
    omega
theorem rnk_facts {P : List Int} (h : valid P = true) : rnk (conj P) = -rnk P ∧ rnk P < max (sumL P) 1 ∧ -rnk P < max (sumL P) 1 ∧ -16 ≤ rnk P ∧ rnk P ≤ 16 := by
  have hb := valid_bd h
  have h1 := head_le_sum h
  have hc := head_conj h
  have hcb := headD_bd (valid_conj h)
  rw [rnk_yes h, rnk_yes (valid_conj h), conj_len]
  by_cases h0 : 0 < P.length
  · have := h1.2.2 h0
    omega
  · obtain rfl : P = [] := List.eq_nil_of_length_eq_zero (by omega)
    simp [conj, sumL]
    omega
end NP
end Go.Proofs.Ytgkghebjaedjmaa
namespace Go.Proofs.Ytgkghebjaedjmaa
namespace NP
theorem cnt_le_sum {L : List Int} (h : ∀ x ∈ L, 1 ≤ x) (t : Int) : cnt t L ≤ sumL L ∧ 0 ≤ sumL L := by
  induction L with
  | nil => simp [cnt, sumL]
  | cons x r ih =>
    have h1 := ih fun y hy => h y (by simp [hy])
    have h2 := h x (by simp)
    rw [cnt, sumL]
    split <;> omega
theorem eqc_le_sum {L : List Int} (h : ∀ x ∈ L, 1 ≤ x) (t : Int) : eqc t L ≤ sumL L := by
  induction L with
  | nil => simp [eqc, sumL]
  | cons x r ih =>
    have h1 := ih fun y hy => h y (by simp [hy])
    have h2 := h x (by simp)
    rw [eqc_cons, sumL]
    split <;> omega
theorem crk_facts {P : List Int} (h : valid P = true) (h0 : 0 < P.length) : crk P ≤ sumL P ∧ -crk P ≤ sumL P ∧ (P[P.length - 1]'(by omega) = 1 ∨ crk P = P[0]) ∧ -16 ≤ crk P ∧ crk P ≤ 16 ∧ 1 ≤ P[P.length - 1]'(by omega) ∧ P[P.length - 1]'(by omega) ≤ 16 := by
  have hb := valid_bd h
  have h1 := head_le_sum h
  have hg := valid_ge1 h
  have hc := cnt_le_sum hg (eqc 1 P + 1)
  have hcb := cnt_bd (eqc 1 P + 1) P
  have he := eqc_le_sum hg 1
  have heb := eqc_bd 1 P
  have hl := hg _ (List.getElem_mem (show P.length - 1 < P.length by omega))
  have hl2 := preS_of_valid h (P.length - 1) (by omega) (by omega)
  have h0' : P.headD 0 = P[0] := headD_get P h0
  rw [crk_yes h]
  by_cases hz : eqc 1 P = 0
  · rw [if_pos hz]
    refine ⟨h1.2.1, by omega, .inr h0', by omega, by omega, hl, hl2.2.1⟩
  · rw [if_neg hz]
    have hm : (1 : Int) ∈ P := eqc_mem (by omega)
    obtain ⟨q, hq, e⟩ := List.mem_iff_getElem.1 hm
    have hf := falls_all h (P.length - 1) q (by omega) (by omega)
    refine ⟨by omega, by omega, .inl (by omega), by omega, by omega, hl, hl2.2.1⟩
end NP
end Go.Proofs.Ytgkghebjaedjmaa
namespace Go.Proofs.Ytgkghebjaedjmaa
open Go.RowKit NP
set_option maxRecDepth 8000
set_option linter.unusedVariables false
set_option linter.unusedSimpArgs false
theorem Blk.range {w : World} {g : Nat} {t : TypeId} {vs : List Value} (h : Blk w g t vs.toArray) : w.rangeAt g 0 vs := fun j v hv => by
  rw [Nat.zero_add, h.cell j]; simpa using hv
theorem range_below {w w' : World} {b o : Nat} {cs : List Value} (h : w.rangeAt b o cs) (hb : Below w.heap.size w w') : w'.rangeAt b o cs := fun j v hv => by
  have := h j v hv
  exact (hb.cell (p := ⟨b, o + j, none⟩) (World.block_lt_of_cell? w _ this)).trans this
theorem keep_cr {w0 w w' : World} {g : Nat} {x : Value} {cs : List Value} (h : w.cell? ⟨g, 0, none⟩ = some x ∧ w.rangeAt g 0 cs ∧ Below w0.heap.size w0 w) (hb : Below w.heap.size w w') :
    w'.cell? ⟨g, 0, none⟩ = some x ∧ w'.rangeAt g 0 cs ∧ Below w0.heap.size w0 w' :=
  ⟨(hb.cell (p := ⟨g, 0, none⟩) (World.block_lt_of_cell? w _ h.1)).trans h.1, range_below h.2.1 hb, h.2.2.trans (hb.mono h.2.2.size)⟩
theorem cntD_le (D : List Int) : cntD D ≤ 16 := (ff_spec _ 16).1
theorem cntD_pad {M : List Int} (hM : valid M = true) : cntD (pad M) = M.length := by
  have hbd := valid_bd hM
  have hlen : M.length ≤ 16 := hbd.2.2.2
  unfold cntD
  refine ff_eq (fun j hj => ?_) hlen ?_
  · have h1 := preS_of_valid hM j hj hj
    rw [List.getD_eq_getElem?_getD, List.getElem?_eq_getElem (by rw [pad_len hlen]; omega), Option.getD_some, pad_get hlen hj]
    simp; omega
  · rcases Nat.lt_or_ge M.length 16 with h | h
    · right
      rw [List.getD_eq_getElem?_getD, List.getElem?_eq_getElem (by rw [pad_len hlen]; omega), Option.getD_some, pad_get0 hlen (Nat.le_refl _) h]
      simp
    · left; omega
theorem getD0 (L : List Int) : L.getD 0 0 = L.headD 0 := by cases L <;> rfl
theorem cntD_zeros : cntD (List.replicate 16 0) = 0 := by decide
theorem dg_bd (L : List Int) : ∀ k (h : k < (dg L).length), 0 ≤ (dg L)[k] ∧ (dg L)[k] ≤ 16 := by
  cases hv : valid L with
  | true => rw [dg_yes hv]; exact pad_nonneg hv
  | false => rw [dg_no hv]; intro k h; rw [List.getElem_replicate]; omega
theorem rnk_dg (L : List Int) : (dg L).getD 0 0 - cntD (dg L) = rnk L := by
  cases hv : valid L with
  | true => rw [dg_yes hv, cntD_pad hv, pad_getD (valid_bd hv).2.2.2, getD0, rnk_yes hv]
  | false => rw [dg_no hv, cntD_zeros, rnk_no hv]; rfl
theorem info_diag (D : List Int) (hD : D.length = 16) : (Try.prog.info? 60).map (·.size) = some (ints D).length := by rw [List.length_map, hD]; exact T_info35




end Go.Proofs.Ytgkghebjaedjmaa
namespace Go.Proofs.Ytgkghebjaedjmaa
open Go.RowKit Go.Shelf NP
set_option maxRecDepth 8000
set_option linter.unusedVariables false
set_option linter.unusedSimpArgs false
attribute [local go_sem] Oper.semAt_some
abbrev VL := { x : List Int // valid x = true }
def topQ (L : List Int) (m : Nat) : Nat := if L.length = 0 then m else (L.getD (L.length - 1) 0).toNat
theorem upQ_leJ (f n top : Nat) : ∀ {j k : Nat}, j ≤ k → (upQ f n top j).length ≤ (upQ f n top k).length := by
  intro j k h
  unfold upQ
  have e : (List.range top).reverse.take k = (List.range top).reverse.take j ++ ((List.range top).reverse.take k).drop j := by
    conv => lhs; rw [← List.take_append_drop j ((List.range top).reverse.take k)]
    rw [List.take_take, Nat.min_eq_left h]
  rw [e, List.flatMap_append, List.length_append]
  omega
theorem upQ_pre (f n top : Nat) : ∀ {j k : Nat}, j ≤ k → upQ f n top j <+: upQ f n top k := by
  intro j k h
  unfold upQ
  have e : (List.range top).reverse.take k = (List.range top).reverse.take j ++ ((List.range top).reverse.take k).drop j := by
    conv => lhs; rw [← List.take_append_drop j ((List.range top).reverse.take k)]
    rw [List.take_take, Nat.min_eq_left h]
  rw [e, List.flatMap_append]
  exact List.prefix_append _ _
theorem KpT.setNew {T : TypeId} {W wr : World} (h : KpT T W wr) {b i : Nat} {v : Value} (hb : W.heap.size ≤ b) : KpT T W (wr.setCell ⟨b, i, none⟩ v) :=
  ⟨by have := h.size; simpa [World.setCell] using this, fun k cs fr hk => by
    have hlt := (Array.getElem?_eq_some_iff.1 hk).1
    exact (Below.heap_setCell wr ⟨b, i, none⟩ v k (by show k ≠ b; omega)).trans (h.same k cs fr hk)⟩
theorem valid_snoc {L : List Int} (hv : valid L = true) {p m : Nat} (h1 : 1 ≤ p) (h2 : sumL L + (p : Int) ≤ 16) (h3 : 0 < L.length → (p : Int) ≤ L.getD (L.length - 1) 0) : valid (L ++ [(p : Int)]) = true := by
  apply valid_of_preS
  · intro j hj _
    have hl := (valid_bd hv)
    rcases Nat.lt_or_ge j L.length with h | h
    · have hp := preS_of_valid hv j h h
      rw [List.getElem_append_left h]
      refine ⟨hp.1, hp.2.1, fun h0 => ?_⟩
      rw [List.getElem_append_left (by omega)]
      exact hp.2.2 h0
    · obtain rfl : j = L.length := by simp at hj; omega
      rw [List.getElem_append_right (Nat.le_refl _)]
      simp only [Nat.sub_self, List.getElem_cons_zero]
      refine ⟨by omega, by have := hl.1; omega, fun h0 => ?_⟩
      rw [List.getElem_append_left (by omega), ← getD_lt (by omega)]
      exact h3 h0
  · rw [sumL_append]; simpa [sumL] using h2
theorem topQ_snoc (L : List Int) (p m : Nat) : topQ (L ++ [(p : Int)]) m = p := by
  unfold topQ
  rw [if_neg (by simp), List.getD_eq_getElem?_getD]
  simp
theorem pad_snoc {L : List Int} (h : L.length < 16) (x : Int) : (pad L).set L.length x = pad (L ++ [x]) := by
  have e := pad_set (L := L ++ [x]) (k := L.length) (by simp) h
  rw [List.take_left, List.getElem_append_right (Nat.le_refl _)] at e
  simp only [Nat.sub_self, List.getElem_cons_zero] at e
  rw [e, List.take_of_length_le (by simp)]

set_option maxRecDepth 100000 in
set_option maxHeartbeats 4000000 in
theorem dfrom_zero (F : Fence) (hd : F.depth = none) (hf : F.fn 73) (hro : F.round = none) (l B N : Nat) (J Jx : List VL → World → Prop) (hJ : AbT B 60 J) (hJx : AbT B 60 Jx)
    (hY : ∀ m pre (x : VL) W, J pre W → pre.length < N → YieldAt F m Try.prog l #[.agg (arr (pad x.1))] W fun e W' =>
      (e = .returned (.bool true) ∧ J (pre ++ [x]) W' ∧ KpT 60 W W') ∨ (e = .returned (.bool false) ∧ Jx (pre ++ [x]) W'))
    (f : Nat) (L : List Int) (n : Nat) (pre : List VL) (W : World) (hv : valid L = true) (hj : J pre W) (hN : pre.length + 1 ≤ N) (hB : B ≤ W.heap.size) :
      CallsIn F n Try.prog 73 #[.agg (arr (pad L)), .int .i64 L.length, .int .i64 0, .func (.yield l) #[] #[]] W fun e W' =>
        (e = .returned (.bool true) ∧ (∃ xs : List VL, xs.map (·.1) = (allQ f 0 (topQ L 0)).map (L ++ ·) ∧ J (pre ++ xs) W') ∧ KpT 60 W W') ∨
        (e = .returned (.bool false) ∧ ∃ xs : List VL, xs.map (·.1) <+: (allQ f 0 (topQ L 0)).map (L ++ ·) ∧ Jx (pre ++ xs) W') := by
  have hdd : ∀ k : Nat, (F.depth.isSome = true → 1 ≤ k) := fun k h => by rw [hd] at h; cases h
  have hlen : L.length ≤ 16 := (valid_bd hv).2.2.2
  have hi16 : (Try.prog.info? 60).map (·.size) = some (arr (pad L)).size := by rw [arr_size, pad_len hlen]; exact T_info35
  have hb := Blk.new W 60 (arr (pad L))
  have hj1 := hJ.alloc _ _ (.cells (arr (pad L)) 60) hj
  rw [allQ_zero]
  obtain ⟨fn, tmps, assign, body, hy, hR⟩ := hY (n - 1) pre ⟨L, hv⟩ _ hj1 (by omega)
  have hkp : KpT 60 W (W.alloc (.cells (arr (pad L)) 60)) := KpT.below ((Below.refl _ _).alloc (Nat.le_refl _) _)
  dsimp only at hy
  refine callsIn_of_wp Try.func73 rfl hf ?_ hro
  simp only [Try.ntmps73, List.size_toArray, List.length_cons, List.length_nil, Nat.reduceAdd, Nat.reduceSub, Array.replicate_succ, Array.replicate_zero, List.push_toArray, List.append_toArray, List.nil_append, List.cons_append]
  gi_wp2_with (first
    | (refine wpListIn_load_row rfl 60 (.tmp 4) rfl W.heap.size rfl 60 (arr (pad L)) (0, 0) _ hb Try.underlying60 rfl hi16 ?_)
    | ((try refine ⟨hdd _, ?_⟩); refine hR.mono ?_; clear hR; rintro e W1 (⟨rfl, hJ1, hk1⟩ | ⟨rfl, hx1⟩)))
  · go_ret
    exact .inl ⟨rfl, ⟨[⟨L, hv⟩], by simp, hJ1⟩, hkp.trans hk1⟩
  · go_ret
    exact .inr ⟨rfl, [⟨L, hv⟩], by simp, hx1⟩

set_option maxRecDepth 100000 in
set_option maxHeartbeats 4000000 in
theorem dfrom_in (F : Fence) (hd : F.depth = none) (hf : F.fn 73) (hro : F.round = none) (l B N : Nat) (J Jx : List VL → World → Prop) (hJ : AbT B 60 J) (hJx : AbT B 60 Jx)
    (hY : ∀ m pre (x : VL) W, J pre W → pre.length < N → YieldAt F m Try.prog l #[.agg (arr (pad x.1))] W fun e W' =>
      (e = .returned (.bool true) ∧ J (pre ++ [x]) W' ∧ KpT 60 W W') ∨ (e = .returned (.bool false) ∧ Jx (pre ++ [x]) W')) :
    ∀ (f : Nat) (L : List Int) (m n : Nat) (pre : List VL) (W : World), m ≤ f → valid L = true → sumL L + (m : Int) ≤ 16 → J pre W → pre.length + (allQ f m (topQ L m)).length ≤ N → B ≤ W.heap.size →
      CallsIn F n Try.prog 73 #[.agg (arr (pad L)), .int .i64 L.length, .int .i64 m, .func (.yield l) #[] #[]] W fun e W' =>
        (e = .returned (.bool true) ∧ (∃ xs : List VL, xs.map (·.1) = (allQ f m (topQ L m)).map (L ++ ·) ∧ J (pre ++ xs) W') ∧ KpT 60 W W') ∨
        (e = .returned (.bool false) ∧ ∃ xs : List VL, xs.map (·.1) <+: (allQ f m (topQ L m)).map (L ++ ·) ∧ Jx (pre ++ xs) W') := by
  have hdd : ∀ k : Nat, (F.depth.isSome = true → 1 ≤ k) := fun k h => by rw [hd] at h; cases h
  intro f
  induction f with
  | zero =>
    intro L m n pre W hm hv hs hj hN hB
    obtain rfl : m = 0 := by omega
    rw [allQ_zero] at hN
    exact dfrom_zero F hd hf hro l B N J Jx hJ hJx hY 0 L n pre W hv hj (by simpa using hN) hB
  | succ f ih =>
    intro L m n pre W hm hv hs hj hN hB
    by_cases h0 : m = 0
    · subst h0
      rw [allQ_zero] at hN
      exact dfrom_zero F hd hf hro l B N J Jx hJ hJx hY (f + 1) L n pre W hv hj (by simpa using hN) hB
    have hbd := valid_bd hv
    have hlen : L.length ≤ 16 := hbd.2.2.2
    have hlen2 : L.length < 16 := by omega
    have hb := Blk.new W 60 (arr (pad L))
    have hj1 := hJ.alloc _ _ (.cells (arr (pad L)) 60) hj
    have hkp : KpT 60 W (W.alloc (.cells (arr (pad L)) 60)) := KpT.below ((Below.refl _ _).alloc (Nat.le_refl _) _)
    rw [allQ_up f m _ h0] at hN ⊢
    obtain ⟨T0, hT0⟩ : ∃ T0, T0 = min m (topQ L m) := ⟨_, rfl⟩
    rw [← hT0] at hN ⊢
    have htop : topQ L m ≤ 16 ∧ (0 < L.length → ((topQ L m : Nat) : Int) = L.getD (L.length - 1) 0) ∧ (L.length = 0 → topQ L m = m) := by
      unfold topQ
      by_cases hl0 : L.length = 0
      · rw [if_pos hl0]; exact ⟨by omega, fun h => by omega, fun _ => rfl⟩
      · rw [if_neg hl0]
        have := getD_nn hv (L.length - 1)
        exact ⟨by omega, fun _ => by omega, fun h => absurd h hl0⟩
    have hm0 : ((m : Int) == 0) = false := by simp; omega
    have HV := Lib.hid hv
    have HN := Lib.hid hN
    have HT := Lib.hid hT0
    have HTP := Lib.hid htop
    have HIH := Lib.hid ih
    clear hv hN ih hT0 htop
    -- the greatest part that may come
    have key : ∀ W1, W1 = W.alloc (.cells (arr (pad L)) 60) → True := fun _ _ => trivial
    clear key
    refine callsIn_of_wp Try.func73 rfl hf ?_ hro
    simp only [Try.ntmps73, List.size_toArray, List.length_cons, List.length_nil, Nat.reduceAdd, Nat.reduceSub, Array.replicate_succ, Array.replicate_zero, List.push_toArray, List.append_toArray, List.nil_append, List.cons_append]
    by_cases hl0 : L.length = 0
    · have e0 : T0 = m := by rw [HT.out, HTP.out.2.2 hl0]; omega
      have HE0 : Hid ((m : Int) = (T0 : Int)) := Lib.hid (by omega)
      have d1 : decide ((0 : Int) < (L.length : Int)) = false := decide_eq_false (by omega)
      have d1' : decide (0 < L.length) = false := decide_eq_false (by omega)
      clear e0
      have HL0 := Lib.hid hl0
      clear hl0
      gi_wp2
      gi_loopw [10] (fun v wr => ∃ (j : Nat) (xs : List VL) (D : List Int), j ≤ T0 ∧ v = .int .i64 ((T0 : Int) - (j : Int)) ∧ xs.map (·.1) = (upQ f m T0 j).map (L ++ ·) ∧ J (pre ++ xs) wr ∧ KpT 60 W wr ∧ Blk wr W.heap.size 60 (arr D) ∧ D.length = 16 ∧ (∀ p, D.set L.length p = (pad L).set L.length p)) (fun v _ => (intOf v).toNat)
      case atStart => exact ⟨0, [], pad L, Nat.zero_le _, by simp [HE0.out], by simp [upQ_zero], by simpa using hj1, hkp, hb, pad_len hlen, fun _ => rfl⟩
      case round =>
        obtain ⟨j, xs, D, hj, rfl, hxs, hJs, hks, hblk, hDl, hDs⟩ := hrel
        clear hb hj1 hkp
        by_cases hlt : j < T0
        · obtain ⟨p, hp⟩ : ∃ p : Nat, p = T0 - j := ⟨_, rfl⟩
          have hpv : (T0 : Int) - (j : Int) = (p : Int) := by omega
          have hp1 : 1 ≤ p := by omega
          have hT := HT.out
          have hpm : p ≤ m := by omega
          have hpt : 0 < L.length → (p : Int) ≤ L.getD (L.length - 1) 0 := fun h => by have := HTP.out.2.1 h; omega
          have hvp := valid_snoc HV.out (p := p) (m := m) hp1 (by omega) hpt
          have hset : D.set L.length (p : Int) = pad (L ++ [(p : Int)]) := by rw [hDs, pad_snoc hlen2]
          have hblk2 := hblk.set L.length (.int .i64 (p : Int))
          rw [arr_set, hset] at hblk2
          have hJ2 := hJ.cell _ _ _ L.length (.int .i64 (p : Int)) _ _ hJs hB hblk
          have hks2 := hks.setNew (i := L.length) (v := .int .i64 (p : Int)) (Nat.le_refl W.heap.size)
          have hcz : wr.cell? ⟨W.heap.size, L.length, none⟩ = some ((arr D)[L.length]?.getD undef) := by
            rw [hblk.cell L.length]
            have : L.length < (arr D).size := by rw [arr_size, hDl]; omega
            simp [this]
          have hfz : wr.frozen? ⟨W.heap.size, L.length, none⟩ = false := hblk.free _
          have hi16 : (Try.prog.info? 60).map (·.size) = some (arr (pad (L ++ [(p : Int)]))).size := by rw [arr_size, pad_len (valid_bd hvp).2.2.2]; exact T_info35
          have hup := upQ_succ f m T0 j hlt
          have hpi : T0 - 1 - j = p - 1 := by omega
          have hpc : pieceQ f m (p - 1) = (allQ f (m - p) p).map fun R => ((p : Nat) : Int) :: R := by unfold pieceQ; rw [show p - 1 + 1 = p by omega]
          have hle := upQ_leJ f m T0 (j := j + 1) (k := T0) hlt
          rw [hup, List.length_append, hpi, hpc, List.length_map] at hle
          have hxl : xs.length = (upQ f m T0 j).length := by have := congrArg List.length hxs; simpa using this
          have hih := HIH.out (L ++ [(p : Int)]) (m - p) (n - 1) (pre ++ xs) _ (by omega) hvp (by rw [sumL_append]; simp only [sumL]; omega) hJ2 (by rw [topQ_snoc, List.length_append]; have := HN.out; omega) (by have := hks2.size; omega)
          rw [topQ_snoc, show (((L ++ [(p : Int)]).length : Nat) : Int) = (L.length : Int) + 1 by simp, show ((m - p : Nat) : Int) = (m : Int) - (p : Int) by omega] at hih
          have hw1 : IntKind.i64.wrap ((L.length : Int) + 1) = (L.length : Int) + 1 := IntWalk.i64_in _ (by omega)
          have hw2 : IntKind.i64.wrap ((m : Int) - (p : Int)) = (m : Int) - (p : Int) := IntWalk.i64_in _ (by omega)
          have hw3 : IntKind.i64.wrap ((p : Int) - 1) = (p : Int) - 1 := IntWalk.i64_in _ (by omega)
          have hge : decide ((1 : Int) ≤ (p : Int)) = true := decide_eq_true (by omega)
          have hl16 : (L.length : Int) < 16 := by omega
          have HXS := Lib.hid hxs
          have HUP := Lib.hid hup
          have HSET := Lib.hid hset
          have HPC := Lib.hid hpc
          have HPI := Lib.hid hpi
          clear hxs hup hle hxl hset hpc hpi hJs hDs hT hp
          rw [hpv]
          gi_wp2_with (first
            | (refine wpListIn_load_row rfl 60 (.tmp 4) rfl W.heap.size rfl 60 (arr (pad (L ++ [(p : Int)]))) (0, 0) _ hblk2 Try.underlying60 rfl hi16 ?_)
            | ((try refine ⟨hdd _, ?_⟩); gi_at_call 73; refine hih.mono ?_; clear hih; rintro e W2 (⟨rfl, ⟨ys, hys, hJ3⟩, hk3⟩ | ⟨rfl, ys, hys, hx3⟩)))
          · go_roundw
            case rel =>
              refine ⟨j + 1, xs ++ ys, pad (L ++ [(p : Int)]), by omega, by congr 1; omega, ?_, by rw [← List.append_assoc]; exact hJ3, hks2.trans hk3, hk3.same _ _ _ hblk2, pad_len (valid_bd hvp).2.2.2, fun q => by rw [← pad_snoc hlen2, List.set_set]⟩
              rw [List.map_append, HXS.out, hys, HUP.out, List.map_append, HPI.out, HPC.out, List.map_map]
              congr 1
              apply List.map_congr_left
              intro R _
              simp
            case measure => simp [intOf]; omega
          · go_ret
            refine .inr ⟨rfl, xs ++ ys, ?_, by rw [← List.append_assoc]; exact hx3⟩
            have h1 : (upQ f m T0 (j + 1)).map (L ++ ·) <+: (upQ f m T0 T0).map (L ++ ·) := (upQ_pre f m T0 hlt).map _
            refine List.IsPrefix.trans ?_ h1
            rw [List.map_append, HXS.out, HUP.out, List.map_append, HPI.out, HPC.out, List.map_map]
            have e : (allQ f (m - p) p).map ((fun x => L ++ x) ∘ fun R => ((p : Nat) : Int) :: R) = (allQ f (m - p) p).map (fun R => (L ++ [(p : Int)]) ++ R) := by
              apply List.map_congr_left
              intro R _
              simp
            rw [e]
            exact (List.prefix_append_right_inj _).2 hys
        · obtain rfl : j = T0 := by omega
          have hpv : (j : Int) - (j : Int) = 0 := by omega
          rw [hpv]
          gi_wp2
          go_ret
          exact .inl ⟨rfl, ⟨xs, hxs, hJs⟩, hks⟩
    · have hlp : 0 < L.length := by omega
      have d1 : decide ((0 : Int) < (L.length : Int)) = true := decide_eq_true (by omega)
      have d1' : decide (0 < L.length) = true := decide_eq_true hlp
      have hl1 : L.length - 1 < (pad L).length := by rw [pad_len hlen]; omega
      have hcl : (W.alloc (.cells (arr (pad L)) 60)).cell? ⟨W.heap.size, L.length - 1, none⟩ = some (.int .i64 ((topQ L m : Nat) : Int)) := by
        rw [hb.cell, arr_get _ _ hl1, ← getD_lt hl1, pad_getD hlen, HTP.out.2.1 hlp]
      have hwl : IntKind.i64.wrap ((L.length : Int) - 1) = (L.length : Int) - 1 := IntWalk.i64_in _ (by omega)
      have hnn1 : (0 : Int) ≤ (L.length : Int) - 1 := by omega
      have hnn2 : (L.length : Int) - 1 < 16 := by omega
      have hnn3 : ((L.length : Int) - 1).toNat = L.length - 1 := by omega
      have HL0 := Lib.hid hl0
      clear hl0
      by_cases hcs : ((topQ L m : Nat) : Int) < (m : Int)
      · have hif : (((topQ L m : Nat) : Int) < (m : Int)) = True := by simpa using hcs
        have hif2 : (topQ L m < m) = True := by simp; omega
        have HE0 : Hid (((topQ L m : Nat) : Int) = (T0 : Int)) := Lib.hid (by rw [HT.out]; omega)
        clear hcs
        gi_wp2
        gi_loopw [10] (fun v wr => ∃ (j : Nat) (xs : List VL) (D : List Int), j ≤ T0 ∧ v = .int .i64 ((T0 : Int) - (j : Int)) ∧ xs.map (·.1) = (upQ f m T0 j).map (L ++ ·) ∧ J (pre ++ xs) wr ∧ KpT 60 W wr ∧ Blk wr W.heap.size 60 (arr D) ∧ D.length = 16 ∧ (∀ p, D.set L.length p = (pad L).set L.length p)) (fun v _ => (intOf v).toNat)
        case atStart => exact ⟨0, [], pad L, Nat.zero_le _, by simp [HE0.out], by simp [upQ_zero], by simpa using hj1, hkp, hb, pad_len hlen, fun _ => rfl⟩
        case round =>
          obtain ⟨j, xs, D, hj, rfl, hxs, hJs, hks, hblk, hDl, hDs⟩ := hrel
          clear hb hj1 hkp
          by_cases hlt : j < T0
          · obtain ⟨p, hp⟩ : ∃ p : Nat, p = T0 - j := ⟨_, rfl⟩
            have hpv : (T0 : Int) - (j : Int) = (p : Int) := by omega
            have hp1 : 1 ≤ p := by omega
            have hT := HT.out
            have hpm : p ≤ m := by omega
            have hpt : 0 < L.length → (p : Int) ≤ L.getD (L.length - 1) 0 := fun h => by have := HTP.out.2.1 h; omega
            have hvp := valid_snoc HV.out (p := p) (m := m) hp1 (by omega) hpt
            have hset : D.set L.length (p : Int) = pad (L ++ [(p : Int)]) := by rw [hDs, pad_snoc hlen2]
            have hblk2 := hblk.set L.length (.int .i64 (p : Int))
            rw [arr_set, hset] at hblk2
            have hJ2 := hJ.cell _ _ _ L.length (.int .i64 (p : Int)) _ _ hJs hB hblk
            have hks2 := hks.setNew (i := L.length) (v := .int .i64 (p : Int)) (Nat.le_refl W.heap.size)
            have hcz : wr.cell? ⟨W.heap.size, L.length, none⟩ = some ((arr D)[L.length]?.getD undef) := by
              rw [hblk.cell L.length]
              have : L.length < (arr D).size := by rw [arr_size, hDl]; omega
              simp [this]
            have hfz : wr.frozen? ⟨W.heap.size, L.length, none⟩ = false := hblk.free _
            have hi16 : (Try.prog.info? 60).map (·.size) = some (arr (pad (L ++ [(p : Int)]))).size := by rw [arr_size, pad_len (valid_bd hvp).2.2.2]; exact T_info35
            have hup := upQ_succ f m T0 j hlt
            have hpi : T0 - 1 - j = p - 1 := by omega
            have hpc : pieceQ f m (p - 1) = (allQ f (m - p) p).map fun R => ((p : Nat) : Int) :: R := by unfold pieceQ; rw [show p - 1 + 1 = p by omega]
            have hle := upQ_leJ f m T0 (j := j + 1) (k := T0) hlt
            rw [hup, List.length_append, hpi, hpc, List.length_map] at hle
            have hxl : xs.length = (upQ f m T0 j).length := by have := congrArg List.length hxs; simpa using this
            have hih := HIH.out (L ++ [(p : Int)]) (m - p) (n - 1) (pre ++ xs) _ (by omega) hvp (by rw [sumL_append]; simp only [sumL]; omega) hJ2 (by rw [topQ_snoc, List.length_append]; have := HN.out; omega) (by have := hks2.size; omega)
            rw [topQ_snoc, show (((L ++ [(p : Int)]).length : Nat) : Int) = (L.length : Int) + 1 by simp, show ((m - p : Nat) : Int) = (m : Int) - (p : Int) by omega] at hih
            have hw1 : IntKind.i64.wrap ((L.length : Int) + 1) = (L.length : Int) + 1 := IntWalk.i64_in _ (by omega)
            have hw2 : IntKind.i64.wrap ((m : Int) - (p : Int)) = (m : Int) - (p : Int) := IntWalk.i64_in _ (by omega)
            have hw3 : IntKind.i64.wrap ((p : Int) - 1) = (p : Int) - 1 := IntWalk.i64_in _ (by omega)
            have hge : decide ((1 : Int) ≤ (p : Int)) = true := decide_eq_true (by omega)
            have hl16 : (L.length : Int) < 16 := by omega
            have HXS := Lib.hid hxs
            have HUP := Lib.hid hup
            have HSET := Lib.hid hset
            have HPC := Lib.hid hpc
            have HPI := Lib.hid hpi
            clear hxs hup hle hxl hset hpc hpi hJs hDs hT hp
            rw [hpv]
            gi_wp2_with (first
              | (refine wpListIn_load_row rfl 60 (.tmp 4) rfl W.heap.size rfl 60 (arr (pad (L ++ [(p : Int)]))) (0, 0) _ hblk2 Try.underlying60 rfl hi16 ?_)
              | ((try refine ⟨hdd _, ?_⟩); gi_at_call 73; refine hih.mono ?_; clear hih; rintro e W2 (⟨rfl, ⟨ys, hys, hJ3⟩, hk3⟩ | ⟨rfl, ys, hys, hx3⟩)))
            · go_roundw
              case rel =>
                refine ⟨j + 1, xs ++ ys, pad (L ++ [(p : Int)]), by omega, by congr 1; omega, ?_, by rw [← List.append_assoc]; exact hJ3, hks2.trans hk3, hk3.same _ _ _ hblk2, pad_len (valid_bd hvp).2.2.2, fun q => by rw [← pad_snoc hlen2, List.set_set]⟩
                rw [List.map_append, HXS.out, hys, HUP.out, List.map_append, HPI.out, HPC.out, List.map_map]
                congr 1
                apply List.map_congr_left
                intro R _
                simp
              case measure => simp [intOf]; omega
            · go_ret
              refine .inr ⟨rfl, xs ++ ys, ?_, by rw [← List.append_assoc]; exact hx3⟩
              have h1 : (upQ f m T0 (j + 1)).map (L ++ ·) <+: (upQ f m T0 T0).map (L ++ ·) := (upQ_pre f m T0 hlt).map _
              refine List.IsPrefix.trans ?_ h1
              rw [List.map_append, HXS.out, HUP.out, List.map_append, HPI.out, HPC.out, List.map_map]
              have e : (allQ f (m - p) p).map ((fun x => L ++ x) ∘ fun R => ((p : Nat) : Int) :: R) = (allQ f (m - p) p).map (fun R => (L ++ [(p : Int)]) ++ R) := by
                apply List.map_congr_left
                intro R _
                simp
              rw [e]
              exact (List.prefix_append_right_inj _).2 hys
          · obtain rfl : j = T0 := by omega
            have hpv : (j : Int) - (j : Int) = 0 := by omega
            rw [hpv]
            gi_wp2
            go_ret
            exact .inl ⟨rfl, ⟨xs, hxs, hJs⟩, hks⟩
      · have hif : (((topQ L m : Nat) : Int) < (m : Int)) = False := by simpa using hcs
        have hif2 : (topQ L m < m) = False := by simp; omega
        have HE0 : Hid ((m : Int) = (T0 : Int)) := Lib.hid (by rw [HT.out]; omega)
        clear hcs
        gi_wp2
        gi_loopw [10] (fun v wr => ∃ (j : Nat) (xs : List VL) (D : List Int), j ≤ T0 ∧ v = .int .i64 ((T0 : Int) - (j : Int)) ∧ xs.map (·.1) = (upQ f m T0 j).map (L ++ ·) ∧ J (pre ++ xs) wr ∧ KpT 60 W wr ∧ Blk wr W.heap.size 60 (arr D) ∧ D.length = 16 ∧ (∀ p, D.set L.length p = (pad L).set L.length p)) (fun v _ => (intOf v).toNat)
        case atStart => exact ⟨0, [], pad L, Nat.zero_le _, by simp [HE0.out], by simp [upQ_zero], by simpa using hj1, hkp, hb, pad_len hlen, fun _ => rfl⟩
        case round =>
          obtain ⟨j, xs, D, hj, rfl, hxs, hJs, hks, hblk, hDl, hDs⟩ := hrel
          clear hb hj1 hkp
          by_cases hlt : j < T0
          · obtain ⟨p, hp⟩ : ∃ p : Nat, p = T0 - j := ⟨_, rfl⟩
            have hpv : (T0 : Int) - (j : Int) = (p : Int) := by omega
            have hp1 : 1 ≤ p := by omega
            have hT := HT.out
            have hpm : p ≤ m := by omega
            have hpt : 0 < L.length → (p : Int) ≤ L.getD (L.length - 1) 0 := fun h => by have := HTP.out.2.1 h; omega
            have hvp := valid_snoc HV.out (p := p) (m := m) hp1 (by omega) hpt
            have hset : D.set L.length (p : Int) = pad (L ++ [(p : Int)]) := by rw [hDs, pad_snoc hlen2]
            have hblk2 := hblk.set L.length (.int .i64 (p : Int))
            rw [arr_set, hset] at hblk2
            have hJ2 := hJ.cell _ _ _ L.length (.int .i64 (p : Int)) _ _ hJs hB hblk
            have hks2 := hks.setNew (i := L.length) (v := .int .i64 (p : Int)) (Nat.le_refl W.heap.size)
            have hcz : wr.cell? ⟨W.heap.size, L.length, none⟩ = some ((arr D)[L.length]?.getD undef) := by
              rw [hblk.cell L.length]
              have : L.length < (arr D).size := by rw [arr_size, hDl]; omega
              simp [this]
            have hfz : wr.frozen? ⟨W.heap.size, L.length, none⟩ = false := hblk.free _
            have hi16 : (Try.prog.info? 60).map (·.size) = some (arr (pad (L ++ [(p : Int)]))).size := by rw [arr_size, pad_len (valid_bd hvp).2.2.2]; exact T_info35
            have hup := upQ_succ f m T0 j hlt
            have hpi : T0 - 1 - j = p - 1 := by omega
            have hpc : pieceQ f m (p - 1) = (allQ f (m - p) p).map fun R => ((p : Nat) : Int) :: R := by unfold pieceQ; rw [show p - 1 + 1 = p by omega]
            have hle := upQ_leJ f m T0 (j := j + 1) (k := T0) hlt
            rw [hup, List.length_append, hpi, hpc, List.length_map] at hle
            have hxl : xs.length = (upQ f m T0 j).length := by have := congrArg List.length hxs; simpa using this
            have hih := HIH.out (L ++ [(p : Int)]) (m - p) (n - 1) (pre ++ xs) _ (by omega) hvp (by rw [sumL_append]; simp only [sumL]; omega) hJ2 (by rw [topQ_snoc, List.length_append]; have := HN.out; omega) (by have := hks2.size; omega)
            rw [topQ_snoc, show (((L ++ [(p : Int)]).length : Nat) : Int) = (L.length : Int) + 1 by simp, show ((m - p : Nat) : Int) = (m : Int) - (p : Int) by omega] at hih
            have hw1 : IntKind.i64.wrap ((L.length : Int) + 1) = (L.length : Int) + 1 := IntWalk.i64_in _ (by omega)
            have hw2 : IntKind.i64.wrap ((m : Int) - (p : Int)) = (m : Int) - (p : Int) := IntWalk.i64_in _ (by omega)
            have hw3 : IntKind.i64.wrap ((p : Int) - 1) = (p : Int) - 1 := IntWalk.i64_in _ (by omega)
            have hge : decide ((1 : Int) ≤ (p : Int)) = true := decide_eq_true (by omega)
            have hl16 : (L.length : Int) < 16 := by omega
            have HXS := Lib.hid hxs
            have HUP := Lib.hid hup
            have HSET := Lib.hid hset
            have HPC := Lib.hid hpc
            have HPI := Lib.hid hpi
            clear hxs hup hle hxl hset hpc hpi hJs hDs hT hp
            rw [hpv]
            gi_wp2_with (first
              | (refine wpListIn_load_row rfl 60 (.tmp 4) rfl W.heap.size rfl 60 (arr (pad (L ++ [(p : Int)]))) (0, 0) _ hblk2 Try.underlying60 rfl hi16 ?_)
              | ((try refine ⟨hdd _, ?_⟩); gi_at_call 73; refine hih.mono ?_; clear hih; rintro e W2 (⟨rfl, ⟨ys, hys, hJ3⟩, hk3⟩ | ⟨rfl, ys, hys, hx3⟩)))
            · go_roundw
              case rel =>
                refine ⟨j + 1, xs ++ ys, pad (L ++ [(p : Int)]), by omega, by congr 1; omega, ?_, by rw [← List.append_assoc]; exact hJ3, hks2.trans hk3, hk3.same _ _ _ hblk2, pad_len (valid_bd hvp).2.2.2, fun q => by rw [← pad_snoc hlen2, List.set_set]⟩
                rw [List.map_append, HXS.out, hys, HUP.out, List.map_append, HPI.out, HPC.out, List.map_map]
                congr 1
                apply List.map_congr_left
                intro R _
                simp
              case measure => simp [intOf]; omega
            · go_ret
              refine .inr ⟨rfl, xs ++ ys, ?_, by rw [← List.append_assoc]; exact hx3⟩
              have h1 : (upQ f m T0 (j + 1)).map (L ++ ·) <+: (upQ f m T0 T0).map (L ++ ·) := (upQ_pre f m T0 hlt).map _
              refine List.IsPrefix.trans ?_ h1
              rw [List.map_append, HXS.out, HUP.out, List.map_append, HPI.out, HPC.out, List.map_map]
              have e : (allQ f (m - p) p).map ((fun x => L ++ x) ∘ fun R => ((p : Nat) : Int) :: R) = (allQ f (m - p) p).map (fun R => (L ++ [(p : Int)]) ++ R) := by
                apply List.map_congr_left
                intro R _
                simp
              rw [e]
              exact (List.prefix_append_right_inj _).2 hys
          · obtain rfl : j = T0 := by omega
            have hpv : (j : Int) - (j : Int) = 0 := by omega
            rw [hpv]
            gi_wp2
            go_ret
            exact .inl ⟨rfl, ⟨xs, hxs, hJs⟩, hks⟩
end Go.Proofs.Ytgkghebjaedjmaa
namespace Go.Proofs.Ytgkghebjaedjmaa
open Go.RowKit Go.Shelf NP
set_option maxRecDepth 8000
set_option linter.unusedVariables false
set_option linter.unusedSimpArgs false
attribute [local go_sem] Oper.semAt_some
theorem topQ_nil (n : Nat) : topQ [] n = n := rfl

set_option maxRecDepth 100000 in
set_option maxHeartbeats 2000000 in
theorem dwith_seq (F : Fence) (hd : F.depth = none) (hf : F.fn 73) (hf1 : F.fn 72) (hro : F.round = none) (n k Bn : Nat) (hk : k ≤ 16) (w : World) (hBn : Bn < w.heap.size) (hc : w.cell? ⟨Bn, 0, none⟩ = some (.int .i64 k)) :
    SeqT F n Try.prog 60 72 #[.pointer (some ⟨Bn, 0, none⟩)] (fun x : VL => #[.agg (arr (pad x.1))]) (fun xs => xs.map (·.1) = allQ k k k) (fun xs => xs.map (·.1) <+: allQ k k k) (allQ k k k).length w := by
  intro l J Jx W hW hJ hJx hY h0
  have hdd : ∀ k : Nat, (F.depth.isSome = true → 1 ≤ k) := fun k h => by rw [hd] at h; cases h
  have hcW : W.cell? ⟨Bn, 0, none⟩ = some (.int .i64 k) := (hW.cell (p := ⟨Bn, 0, none⟩) hBn).trans hc
  have hp := dfrom_in F hd hf hro l W.heap.size (allQ k k k).length J Jx hJ hJx (fun m pre x W1 hj hl => yieldAt_any hd m (hY pre x W1 hj hl)) k [] k (n - 1) [] W (Nat.le_refl _) rfl (by simp [sumL]; omega) h0 (by rw [topQ_nil]; simp) (Nat.le_refl _)
  rw [topQ_nil] at hp
  have hz : arr (pad []) = #[.int .i64 0, .int .i64 0, .int .i64 0, .int .i64 0, .int .i64 0, .int .i64 0, .int .i64 0, .int .i64 0, .int .i64 0, .int .i64 0, .int .i64 0, .int .i64 0, .int .i64 0, .int .i64 0, .int .i64 0, .int .i64 0] := rfl
  rw [hz] at hp
  simp only [List.length_nil] at hp
  refine callsIn_of_wp Try.func72 rfl hf1 ?_ hro
  simp only [Try.ntmps72, List.size_toArray, List.length_cons, List.length_nil, Nat.reduceAdd, Nat.reduceSub, Array.replicate_succ, Array.replicate_zero, List.push_toArray, List.append_toArray, List.nil_append, List.cons_append]
  gi_wp2_with ((try refine ⟨hdd _, ?_⟩); gi_at_call 73; refine hp.mono ?_; clear hp; rintro e W1 (⟨rfl, ⟨xs, hxs, hJ1⟩, _⟩ | ⟨rfl, xs, hxs, hx⟩))
  · go_end0
    exact ⟨⟨_, rfl⟩, .inl ⟨xs, by simpa using hxs, by simpa using hJ1⟩⟩
  · go_end0
    exact ⟨⟨_, rfl⟩, .inr ⟨xs, by simpa using hxs, by simpa using hx⟩⟩

theorem dwith_in (F : Fence) (n : Nat) (hf : F.fn 41) (hro : F.round = none) (k : Int) (w : World) :
    CallsIn F n Try.prog 41 #[.int .i64 k] w fun e w' => e = .returned (.func (.func 72) #[] #[.pointer (some ⟨w.heap.size, 0, none⟩)]) ∧ w' = w.alloc (.cells #[.int .i64 k] 3) := by
  refine callsIn_of_wp Try.func41 rfl hf ?_ hro
  simp only [Try.ntmps41, List.size_toArray, List.length_cons, List.length_nil, Nat.reduceAdd, Nat.reduceSub, Array.replicate_succ, Array.replicate_zero, List.push_toArray, List.append_toArray, List.nil_append, List.cons_append]
  gi_wp2
  go_ret
  exact ⟨rfl, rfl⟩
end Go.Proofs.Ytgkghebjaedjmaa
