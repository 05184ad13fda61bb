/-
  Plain mathematics of united and added parts: conjugates turn one into the other. Plain mathematics of summands: they are bits (an end or not behind each but the last), turned, linked, opposite. No Go text. Plain mathematics of summands: the answers of the functions as closed forms. No Go text. Plain mathematics: falling numbers are told by how often each comes; parts written from a tally. No Go text. Mathematics: squares cut off and put back; doubled parts. Plain mathematics of arms and legs (Frobenius). Plain mathematics: arms and legs of the parts that were made of them. Mathematics: kinds of parts; stairs, hooks of own conjugates, Franklin's map. Plain mathematics: equal parts put together and taken apart again.
-/
import Derived.Test.YthafbdpeignccaaZA1
import Derived.Test.YthafbdpeignccaaZA2
namespace Go.Proofs.Ythafbdpeignccaa
namespace NP
set_option linter.unusedVariables false
theorem mono_split {A B : List Int} (h : mono (A ++ B)) : mono A ∧ mono B ∧ ∀ x ∈ A, ∀ y ∈ B, y ≤ x := by
  induction A with
  | nil => exact ⟨trivial, h, fun x hx => by simp at hx⟩
  | cons x r ih =>
    obtain ⟨h1, h2⟩ := h
    obtain ⟨h3, h4, h5⟩ := ih h2
    refine ⟨⟨fun y hy => h1 y (List.mem_append_left _ hy), h3⟩, h4, fun z hz y hy => ?_⟩
    rcases List.mem_cons.1 hz with rfl | hz
    · exact h1 y (List.mem_append_right _ hy)
    · exact h5 z hz y hy
theorem mono_head {D : List Int} (h : mono D) (i : Nat) (hi : i < D.length) : D[i] ≤ D[0]'(by omega) := by
  match D, h with
  | [], _ => simp at hi
  | y :: t, h =>
    match i, hi with
    | 0, _ => exact Int.le_refl _
    | i + 1, hi => exact h.1 _ (List.getElem_mem _)
theorem insK_mono {M : List Int} (h : mono M) (x : Int) : mono (insK M x) := by
  have hs := ff_spec (fun (j : Nat) => decide (x ≤ M.getD j 0)) M.length
  have e := List.take_append_drop (posOf x M) M
  rw [← e] at h
  obtain ⟨h1, h2, h3⟩ := mono_split h
  have hd : ∀ y ∈ M.drop (posOf x M), y ≤ x := fun y hy => by
    obtain ⟨i, hi, rfl⟩ := List.getElem_of_mem hy
    simp at hi
    rcases hs.2.2 with hs2 | hs2
    · have : posOf x M = M.length := hs2
      omega
    · have hp : posOf x M < M.length := by omega
      have hx : ¬ x ≤ M.getD (posOf x M) 0 := of_decide_eq_false hs2
      rw [getD_lt hp] at hx
      have h4 := mono_head h2 i (by simp; omega)
      simp at h4
      rw [List.getElem_drop]
      omega
  unfold insK
  refine mono_append h1 ⟨hd, h2⟩ fun a ha b hb => ?_
  rcases List.mem_cons.1 hb with rfl | hb
  · obtain ⟨i, hi, rfl⟩ := List.getElem_of_mem ha
    simp at hi
    have := of_decide_eq_true (hs.2.1 i (by unfold posOf at hi; omega))
    rw [getD_lt (by omega)] at this
    rw [List.getElem_take]
    exact this
  · exact h3 a ha b hb
theorem insK_eqc (M : List Int) (x k : Int) : eqc k (insK M x) = eqc k M + (if x = k then 1 else 0) := by
  have e : eqc k M = eqc k (M.take (posOf x M)) + eqc k (M.drop (posOf x M)) := by rw [← eqc_append, List.take_append_drop]
  unfold insK
  rw [eqc_append, eqc_cons, e]
  omega
theorem insK_sum (M : List Int) (x : Int) : sumL (insK M x) = sumL M + x := by
  have e : sumL M = sumL (M.take (posOf x M)) + sumL (M.drop (posOf x M)) := by rw [← sumL_append, List.take_append_drop]
  unfold insK
  rw [sumL_append, sumL, e]
  omega
theorem fold_facts (L : List Int) : ∀ M, mono M → mono (L.foldl insK M) ∧ (∀ k, eqc k (L.foldl insK M) = eqc k M + eqc k L) ∧ sumL (L.foldl insK M) = sumL M + sumL L := by
  induction L with
  | nil => intro M h; exact ⟨h, fun k => by simp [eqc], by simp [sumL]⟩
  | cons x r ih =>
    intro M h
    obtain ⟨h1, h2, h3⟩ := ih (insK M x) (insK_mono h x)
    refine ⟨h1, fun k => ?_, ?_⟩
    · rw [List.foldl_cons, h2, insK_eqc, eqc_cons]; omega
    · rw [List.foldl_cons, h3, insK_sum, sumL]; omega
theorem mrg_mono (L : List Int) : mono (mrg L) := (fold_facts L [] trivial).1
theorem mrg_eqc (L : List Int) (k : Int) : eqc k (mrg L) = eqc k L := by have := (fold_facts L [] trivial).2.1 k; unfold mrg; simpa [eqc] using this
theorem mrg_sum (L : List Int) : sumL (mrg L) = sumL L := by have := (fold_facts L [] trivial).2.2; unfold mrg; simpa [sumL] using this
theorem mrg_len (L : List Int) : (mrg L).length = L.length := by have := (fold_ins L []).1; unfold mrg; simpa using this
theorem mrg_mem {L : List Int} {y : Int} (h : y ∈ mrg L) : y ∈ L := by
  rcases (fold_ins L []).2 y h with h | h
  · exact h
  · simp at h
theorem cnt_eqc {A B : List Int} (h : ∀ k, eqc k A = eqc k B) (hl : A.length = B.length) (t : Int) : cnt t A = cnt t B := by
  induction A generalizing B with
  | nil =>
    have : B = [] := List.eq_nil_of_length_eq_zero (by simp at hl; omega)
    subst this; rfl
  | cons x r ih =>
    have hx : x ∈ B := eqc_mem (by rw [← h x]; exact eqc_pos (by simp))
    obtain ⟨b1, b2, rfl⟩ := List.append_of_mem hx
    have h2 := ih (B := b1 ++ b2) (fun k => by
      have := h k
      rw [eqc_cons, eqc_append, eqc_cons] at this
      rw [eqc_append]; omega) (by simp at hl ⊢; omega)
    rw [cnt, h2, cnt_append, cnt_append, cnt]
    omega
theorem mono_get {L : List Int} (h : mono L) (j : Nat) (hj : j + 1 < L.length) : L[j + 1] ≤ L[j] := by
  induction L generalizing j with
  | nil => simp at hj
  | cons x r ih =>
    match j with
    | 0 => simp; exact h.1 _ (List.getElem_mem _)
    | j + 1 => simpa using ih h.2 j (by simp at hj; omega)
theorem valid_mono {M : List Int} (h : mono M) (h1 : ∀ x ∈ M, 1 ≤ x) (hs : sumL M ≤ 16) : valid M = true := by
  refine valid_of_preS (fun j hj _ => ?_) hs
  have hb := (elem_le_sum (fun x hx => by have := h1 x hx; omega) hj).1
  refine ⟨h1 _ (List.getElem_mem hj), by omega, fun h0 => ?_⟩
  have := mono_get h (j - 1) (by omega)
  simp only [show j - 1 + 1 = j by omega] at this
  exact this
def uni (P Q : List Int) : List Int := mrg (P ++ Q)
theorem valid_ge1 {L : List Int} (h : valid L = true) : ∀ x ∈ L, 1 ≤ x := fun x hx => by
  obtain ⟨k, hk, rfl⟩ := List.getElem_of_mem hx
  exact (preS_of_valid h k hk hk).1
theorem uni_ge1 {P Q : List Int} (h : two P Q = true) : ∀ x ∈ uni P Q, 1 ≤ x := fun x hx => by
  obtain ⟨hp, hq, _⟩ := two_out h
  rcases List.mem_append.1 (mrg_mem hx) with hx | hx
  · exact valid_ge1 hp x hx
  · exact valid_ge1 hq x hx
theorem valid_uni {P Q : List Int} (h : two P Q = true) : valid (uni P Q) = true :=
  valid_mono (mrg_mono _) (uni_ge1 h) (by unfold uni; rw [mrg_sum, sumL_append]; exact (two_out h).2.2)
theorem um_uni {P Q : List Int} (h : two P Q = true) : (um (fun i => P.getD i 0) (fun i => Q.getD i 0) 16).1 = pad (uni P Q) :=
  um_end h (mrg_mono _) (fun k => by unfold uni; rw [mrg_eqc, eqc_append]) (by unfold uni; rw [mrg_len]; simp) (uni_ge1 h)
def uniF (P Q : List Int) : List Int := if two P Q then uni P Q else []
theorem uniF_yes {P Q : List Int} (h : two P Q = true) : uniF P Q = uni P Q := by simp [uniF, h]
theorem uniF_no {P Q : List Int} (h : two P Q = false) : uniF P Q = [] := by simp [uniF, h]
theorem uniF_len (P Q : List Int) : (uniF P Q).length ≤ 16 := by
  unfold uniF
  split
  · rename_i h
    exact (valid_bd (valid_uni h)).2.2.2
  · simp
/-- parts with the same numbers at all places are the same -/
theorem valid_ext {A B : List Int} (hA : valid A = true) (hB : valid B = true) (h : ∀ j, A.getD j 0 = B.getD j 0) : A = B := by
  have hl : A.length = B.length := by
    rcases Nat.lt_trichotomy A.length B.length with h1 | h1 | h1
    · have := h A.length
      rw [getD_ge (Nat.le_refl _)] at this
      have := getD_pos hB h1
      omega
    · exact h1
    · have := h B.length
      rw [getD_ge (L := B) (Nat.le_refl _)] at this
      have := getD_pos hA h1
      omega
  apply List.ext_getElem hl
  intro j h1 h2
  have := h j
  rwa [getD_lt h1, getD_lt h2] at this
theorem conj_getD {L : List Int} (h : valid L = true) (j : Nat) : (conj L).getD j 0 = cnt ((j : Int) + 1) L := by
  rcases Nat.lt_or_ge j (conj L).length with h1 | h1
  · rw [getD_lt h1, conj_get]
  · rw [getD_ge h1]
    rw [conj_len] at h1
    exact (cnt_none fun x hx => by have := head_ge h x hx; omega).symm
theorem two_conj {P Q : List Int} (h : two P Q = true) : two (conj P) (conj Q) = true := by
  obtain ⟨hp, hq, hs⟩ := two_out h
  unfold two
  rw [valid_conj hp, valid_conj hq, sumL_conj hp, sumL_conj hq, decide_eq_true hs]
  rfl
theorem cnt_uni (P Q : List Int) (t : Int) : cnt t (uni P Q) = cnt t P + cnt t Q := by
  rw [← cnt_append]
  exact cnt_eqc (fun k => by unfold uni; rw [mrg_eqc]) (by unfold uni; rw [mrg_len]) t
theorem conj_uni {P Q : List Int} (h : two P Q = true) : conj (uni P Q) = adp (conj P) (conj Q) := by
  obtain ⟨hp, hq, hs⟩ := two_out h
  refine valid_ext (valid_conj (valid_uni h)) (valid_adp (two_conj h)) fun j => ?_
  rw [conj_getD (valid_uni h), adp_getD, conj_getD hp, conj_getD hq, cnt_uni]
theorem conj_adp {P Q : List Int} (h : two P Q = true) : conj (adp P Q) = uni (conj P) (conj Q) := by
  obtain ⟨hp, hq, hs⟩ := two_out h
  have h2 := two_conj h
  have e := conj_uni h2
  rw [conj_conj hp, conj_conj hq] at e
  rw [← e, conj_conj (valid_uni h2)]
theorem adp_comm (P Q : List Int) : adp P Q = adp Q P := by
  unfold adp
  rw [Nat.max_comm]
  apply List.map_congr_left
  intro i _
  omega
theorem two_comm (P Q : List Int) : two P Q = two Q P := by
  unfold two
  rw [Int.add_comm (sumL P), Bool.and_comm (valid P)]
theorem uni_len (P Q : List Int) : (uni P Q).length = P.length + Q.length := by unfold uni; rw [mrg_len]; simp
end NP
end Go.Proofs.Ythafbdpeignccaa
namespace Go.Proofs.Ythafbdpeignccaa
namespace NP
/-- the bits of summands: whether one ends -/
def toB : List Int → List Bool
  | [] => []
  | [x] => List.replicate (x - 1).toNat false
  | x :: y :: r => List.replicate (x - 1).toNat false ++ true :: toB (y :: r)
/-- 1 more for the first -/
def bump : List Int → List Int
  | [] => []
  | x :: r => (x + 1) :: r
/-- the summands of bits -/
def ofB : List Bool → List Int
  | [] => [1]
  | true :: b => 1 :: ofB b
  | false :: b => bump (ofB b)
def addHd (r : Int) : List Int → List Int
  | [] => [r]
  | x :: t => (r + x) :: t
def bval : List Bool → Nat
  | [] => 0
  | b :: r => (if b then 1 else 0) + 2 * bval r
def bitsN (m : Nat) : Nat → List Bool
  | 0 => []
  | k + 1 => bitsN m k ++ [decide (m / 2 ^ k % 2 = 1)]

theorem ofB_ne (b : List Bool) : ∃ x r, ofB b = x :: r := by
  induction b with
  | nil => exact ⟨1, [], rfl⟩
  | cons c b ih =>
    obtain ⟨x, r, h⟩ := ih
    cases c with
    | true => exact ⟨1, ofB b, rfl⟩
    | false => exact ⟨x + 1, r, by simp [ofB, h, bump]⟩
theorem ofB_sum (b : List Bool) : sumL (ofB b) = b.length + 1 := by
  induction b with
  | nil => rfl
  | cons c b ih =>
    cases c with
    | true => simp [ofB, sumL, ih]; omega
    | false =>
      obtain ⟨x, r, h⟩ := ofB_ne b
      simp [ofB, h, bump, sumL] at ih ⊢
      omega
theorem ofB_pos (b : List Bool) : ∀ x ∈ ofB b, 1 ≤ x := by
  induction b with
  | nil => intro x hx; simp [ofB] at hx; omega
  | cons c b ih =>
    intro x hx
    cases c with
    | true =>
      simp [ofB] at hx
      rcases hx with hx | hx
      · omega
      · exact ih x hx
    | false =>
      obtain ⟨y, r, h⟩ := ofB_ne b
      rw [h] at ih
      simp [ofB, h, bump] at hx
      rcases hx with hx | hx
      · have := ih y (by simp); omega
      · exact ih x (by simp [hx])
theorem ofB_zeros (k : Nat) (b : List Bool) : ofB (List.replicate k false ++ b) = addHd k (ofB b) := by
  induction k with
  | zero => obtain ⟨x, r, h⟩ := ofB_ne b; simp [h, addHd]
  | succ k ih =>
    rw [List.replicate_succ, List.cons_append]
    show bump (ofB _) = _
    rw [ih]
    obtain ⟨x, r, h⟩ := ofB_ne b
    simp [h, addHd, bump]; omega
theorem ofB_toB : ∀ (L : List Int), L ≠ [] → (∀ x ∈ L, 1 ≤ x) → ofB (toB L) = L
  | [], h, _ => absurd rfl h
  | [x], _, hp => by
    have := ofB_zeros (x - 1).toNat []
    have h1 := hp x (by simp)
    rw [List.append_nil] at this
    simp only [toB, this, ofB, addHd]
    congr 1; omega
  | x :: y :: r, _, hp => by
    have h1 := hp x (by simp)
    have ih := ofB_toB (y :: r) (by simp) (fun z hz => hp z (List.mem_cons_of_mem _ hz))
    simp only [toB, ofB_zeros, ofB, ih, addHd]
    congr 1; omega
theorem toB_bump (x : Int) (r : List Int) (h : 1 ≤ x) : toB ((x + 1) :: r) = false :: toB (x :: r) := by
  have e : (x + 1 - 1).toNat = (x - 1).toNat + 1 := by omega
  cases r with
  | nil => simp only [toB, e, List.replicate_succ]
  | cons y t => simp only [toB, e, List.replicate_succ, List.cons_append]
theorem toB_ofB (b : List Bool) : toB (ofB b) = b := by
  induction b with
  | nil => rfl
  | cons c b ih =>
    obtain ⟨x, r, h⟩ := ofB_ne b
    have hp := ofB_pos b
    rw [h] at ih hp
    cases c with
    | true => simp [ofB, h, toB, ih]
    | false => simp only [ofB, h, bump]; rw [toB_bump x r (hp x (by simp)), ih]
theorem ofB_true (a b : List Bool) : ofB (a ++ true :: b) = ofB a ++ ofB b := by
  induction a with
  | nil => rfl
  | cons c a ih =>
    cases c with
    | true => simp [ofB, ih]
    | false =>
      obtain ⟨x, r, h⟩ := ofB_ne a
      simp [ofB, ih, h, bump]
theorem ofB_false (a b : List Bool) : ∀ (out : List Int) (run : Int), ofB a = out ++ [run] → ofB (a ++ false :: b) = out ++ addHd run (ofB b) := by
  induction a with
  | nil =>
    intro out run h
    obtain ⟨x, r, hb⟩ := ofB_ne b
    cases out with
    | nil => simp [ofB] at h; subst h; simp [ofB, hb, bump, addHd] <;> omega
    | cons y t => simp [ofB] at h
  | cons c a ih =>
    intro out run h
    obtain ⟨x, r, ha⟩ := ofB_ne a
    cases c with
    | true =>
      cases out with
      | nil => simp [ofB, ha] at h
      | cons y t =>
        simp [ofB] at h
        obtain ⟨h1, h2⟩ := h
        simp [ofB, ih t run h2, h1]
    | false =>
      cases out with
      | nil =>
        simp [ofB, ha, bump] at h
        obtain ⟨h1, h2⟩ := h
        have := ih [] x (by simp [ha, h2])
        obtain ⟨z, q, hb⟩ := ofB_ne b
        simp [hb, addHd] at this ⊢
        simp [ofB, this, bump]; omega
      | cons y t =>
        simp [ofB, ha, bump] at h
        obtain ⟨h1, h2⟩ := h
        have := ih (x :: t) run (by simp [ha, h2])
        simp at this
        simp [ofB, this, bump, h1]
theorem ofB_rev (b : List Bool) : ofB b.reverse = (ofB b).reverse := by
  induction b with
  | nil => rfl
  | cons c b ih =>
    rw [List.reverse_cons]
    cases c with
    | true => rw [ofB_true, ih]; simp [ofB]
    | false =>
      obtain ⟨x, r, h⟩ := ofB_ne b
      have := ofB_false b.reverse [] r.reverse x (by rw [ih, h]; simp)
      rw [this]
      simp [ofB, h, bump, addHd]
theorem ofB_len (b : List Bool) : (ofB b).length = b.count true + 1 := by
  induction b with
  | nil => rfl
  | cons c b ih =>
    cases c with
    | true => simp [ofB, ih]
    | false =>
      obtain ⟨x, r, h⟩ := ofB_ne b
      simp [ofB, h, bump] at ih ⊢
      omega
theorem count_not (b : List Bool) : (b.map (!·)).count true + b.count true = b.length := by
  induction b with
  | nil => rfl
  | cons c b ih => cases c <;> simp <;> omega
theorem bval_append (a b : List Bool) : bval (a ++ b) = bval a + 2 ^ a.length * bval b := by
  induction a with
  | nil => simp [bval]
  | cons c a ih =>
    simp only [List.cons_append, bval, ih, List.length_cons, Nat.pow_succ]
    have : 2 ^ a.length * 2 * bval b = 2 * (2 ^ a.length * bval b) := by rw [Nat.mul_comm (2 ^ a.length) 2, Nat.mul_assoc]
    rw [this]; omega
theorem bval_lt (b : List Bool) : bval b < 2 ^ b.length := by
  induction b with
  | nil => simp [bval]
  | cons c b ih => simp only [bval, List.length_cons, Nat.pow_succ]; split <;> omega
theorem bval_zeros (k : Nat) : bval (List.replicate k false) = 0 := by
  induction k with
  | zero => rfl
  | succ k ih => simp [List.replicate_succ, bval, ih]
theorem bval_not (b : List Bool) : bval (b.map (!·)) + bval b + 1 = 2 ^ b.length := by
  induction b with
  | nil => rfl
  | cons c b ih =>
    simp only [List.map_cons, bval, List.length_cons, Nat.pow_succ]
    cases c <;> simp <;> omega
theorem bitsN_len (m k : Nat) : (bitsN m k).length = k := by
  induction k with
  | zero => rfl
  | succ k ih => simp [bitsN, ih]
theorem bitsN_cons (m k : Nat) : bitsN m (k + 1) = decide (m % 2 = 1) :: bitsN (m / 2) k := by
  induction k with
  | zero => simp [bitsN]
  | succ k ih =>
    rw [bitsN, ih]
    conv => rhs; rw [bitsN]
    rw [List.cons_append, Nat.div_div_eq_div_mul]
    congr 6
    rw [Nat.pow_succ, Nat.mul_comm]
theorem bitsN_bval' (b : List Bool) : bitsN (bval b) b.length = b := by
  induction b with
  | nil => rfl
  | cons c b ih =>
    rw [List.length_cons, bitsN_cons]
    simp only [bval]
    have e : ((if c = true then 1 else 0) + 2 * bval b) / 2 = bval b := by split <;> omega
    rw [e, ih]
    cases c <;> simp <;> omega
theorem bval_bitsN_mod (m k : Nat) : bval (bitsN m k) = m % 2 ^ k := by
  induction k with
  | zero => simp [bitsN, bval, Nat.mod_one]
  | succ k ih =>
    simp only [bitsN, bval_append, bitsN_len, ih, bval]
    rw [Nat.pow_succ, Nat.mod_mul]
    congr 2
    by_cases h : m / 2 ^ k % 2 = 1
    · simp [h]
    · simp [h]; omega
theorem bval_bitsN {m k : Nat} (h : m < 2 ^ k) : bval (bitsN m k) = m := by rw [bval_bitsN_mod, Nat.mod_eq_of_lt h]
theorem bval_inj {a b : List Bool} (hl : a.length = b.length) (h : bval a = bval b) : a = b := by
  rw [← bitsN_bval' a, ← bitsN_bval' b, h, hl]

/-- whether numbers are summands -/
def vsm (L : List Int) : Bool := L.all (fun x => decide (1 ≤ x)) && decide (sumL L ≤ 16)
theorem vsm_iff {L : List Int} : vsm L = true ↔ (∀ x ∈ L, 1 ≤ x) ∧ sumL L ≤ 16 := by simp [vsm]
theorem sum_len {L : List Int} (h : ∀ x ∈ L, 1 ≤ x) : (L.length : Int) ≤ sumL L := by
  induction L with
  | nil => simp [sumL]
  | cons x r ih =>
    have h1 := h x (by simp)
    have h2 := ih (fun y hy => h y (by simp [hy]))
    simp [sumL]; omega
theorem vsm_bd {L : List Int} (h : vsm L = true) : 0 ≤ sumL L ∧ sumL L ≤ 16 ∧ (L.length : Int) ≤ sumL L ∧ L.length ≤ 16 := by
  rw [vsm_iff] at h
  have := sum_len h.1
  omega
theorem vsm_take {L : List Int} (h : vsm L = true) (k : Nat) : vsm (L.take k) = true := by
  rw [vsm_iff] at *
  have e := congrArg sumL (List.take_append_drop k L)
  rw [sumL_append] at e
  have := sum_len (L := L.drop k) (fun x hx => h.1 x (List.mem_of_mem_drop hx))
  exact ⟨fun x hx => h.1 x (List.mem_of_mem_take hx), by omega⟩
theorem vsm_next {L : List Int} {k : Nat} (hk : k < L.length) (h : vsm (L.take k) = true) (h1 : 1 ≤ L[k]) (h2 : L[k] ≤ 16 - sumL (L.take k)) : vsm (L.take (k + 1)) = true := by
  rw [vsm_iff] at *
  rw [sumL_take_succ L k hk]
  refine ⟨fun x hx => ?_, by omega⟩
  rw [List.take_succ_eq_append_getElem hk, List.mem_append] at hx
  rcases hx with hx | hx
  · exact h.1 x hx
  · simp at hx; omega
theorem vsm_stop {L : List Int} {k : Nat} (hk : k < L.length) (hn : ¬ (1 ≤ L[k] ∧ L[k] ≤ 16 - sumL (L.take k))) : vsm L = false := by
  cases hv : vsm L with
  | false => rfl
  | true =>
    have h1 := vsm_take hv (k + 1)
    rw [vsm_iff] at h1 hv
    rw [sumL_take_succ L k hk] at h1
    exact absurd ⟨hv.1 _ (List.getElem_mem hk), by omega⟩ hn
theorem toB_len : ∀ (L : List Int), (∀ x ∈ L, 1 ≤ x) → (toB L).length = (sumL L - 1).toNat
  | [], _ => rfl
  | [x], h => by simp [toB, sumL]
  | x :: y :: r, h => by
    have h1 := h x (by simp)
    have hy := h y (by simp)
    have hr : ∀ z ∈ y :: r, 1 ≤ z := fun z hz => h z (List.mem_cons_of_mem _ hz)
    have ih := toB_len (y :: r) hr
    have h2 := sum_len hr
    simp only [toB, List.length_append, List.length_replicate, List.length_cons, ih, sumL] at *
    omega
theorem toB_append : ∀ (a b : List Int), a ≠ [] → b ≠ [] → toB (a ++ b) = toB a ++ true :: toB b
  | [], _, h, _ => absurd rfl h
  | [x], [], _, h => absurd rfl h
  | [x], y :: t, _, _ => by simp [toB]
  | x :: y :: r, b, _, hb => by
    have ih := toB_append (y :: r) b (by simp) hb
    simp only [List.cons_append, toB] at ih ⊢
    rw [ih, List.append_assoc, List.cons_append]
/-- the bits of summands as a number -/
def mkN (L : List Int) : Nat := bval (toB L)
/-- the summands of a sum and bits -/
def smk (n m : Nat) : List Int := if n = 0 then [] else ofB (bitsN m (n - 1))
def sgN (L : List Int) : Nat := (sumL L).toNat
theorem mkN_lt {L : List Int} (h : ∀ x ∈ L, 1 ≤ x) : mkN L < 2 ^ (sgN L - 1) := by
  have h1 := bval_lt (toB L)
  rw [toB_len L h] at h1
  unfold mkN sgN
  rwa [show (sumL L).toNat - 1 = (sumL L - 1).toNat by omega]
theorem mkN_next {L : List Int} {k : Nat} (hk : k < L.length) (h0 : 0 < k) (hp : ∀ x ∈ L, 1 ≤ x) : mkN (L.take (k + 1)) = mkN (L.take k) + 2 ^ (sgN (L.take k) - 1) := by
  unfold mkN
  have hpt : ∀ x ∈ L.take k, 1 ≤ x := fun x hx => hp x (List.mem_of_mem_take hx)
  have hne : L.take k ≠ [] := by intro e; have := congrArg List.length e; rw [List.length_take, List.length_nil] at this; omega
  rw [List.take_succ_eq_append_getElem hk, toB_append _ _ hne (by simp), bval_append, toB_len _ hpt]
  simp only [toB, bval, bval_zeros]
  rw [show (sumL (L.take k) - 1).toNat = sgN (L.take k) - 1 by unfold sgN; omega]; simp
theorem smk_mkN {L : List Int} (h : ∀ x ∈ L, 1 ≤ x) : smk (sgN L) (mkN L) = L := by
  unfold smk
  have hs := sum_len h
  by_cases h0 : L = []
  · subst h0; simp [sgN, sumL]
  · have hl : 0 < L.length := List.length_pos_iff.2 h0
    rw [if_neg (by unfold sgN; omega)]
    have e : sgN L - 1 = (toB L).length := by rw [toB_len L h]; unfold sgN; omega
    rw [e, mkN, bitsN_bval' (toB L), ofB_toB L h0 h]
theorem smk_sum (n m : Nat) : sumL (smk n m) = n := by
  unfold smk
  split
  · subst_vars; rfl
  · rw [ofB_sum, bitsN_len]; omega
theorem smk_pos (n m : Nat) : ∀ x ∈ smk n m, 1 ≤ x := by
  unfold smk
  split
  · simp
  · exact ofB_pos _
theorem smk_ok {n : Nat} (m : Nat) (h : n ≤ 16) : vsm (smk n m) = true := vsm_iff.2 ⟨smk_pos n m, by rw [smk_sum]; omega⟩
theorem smk_len (n m : Nat) : (smk n m).length ≤ n := by
  have := sum_len (smk_pos n m)
  rw [smk_sum] at this
  omega
theorem mkN_smk {n m : Nat} (h : m < 2 ^ (n - 1)) : mkN (smk n m) = m := by
  unfold smk mkN
  split
  · subst_vars; simp at h; subst h; rfl
  · rw [toB_ofB, bval_bitsN h]
theorem sgN_smk (n m : Nat) : sgN (smk n m) = n := by unfold sgN; rw [smk_sum]; omega
/-- the sum and the bits that the program tells summands by -/
def smS (L : List Int) : Nat := if vsm L = true then sgN L else 0
def smM (L : List Int) : Nat := if vsm L = true then mkN L else 0
theorem smS_yes {L : List Int} (h : vsm L = true) : smS L = sgN L := by unfold smS; rw [if_pos h]
theorem smM_yes {L : List Int} (h : vsm L = true) : smM L = mkN L := by unfold smM; rw [if_pos h]
theorem smS_no {L : List Int} (h : vsm L = false) : smS L = 0 := by unfold smS; rw [if_neg (by rw [h]; decide)]
theorem smM_no {L : List Int} (h : vsm L = false) : smM L = 0 := by unfold smM; rw [if_neg (by rw [h]; decide)]
theorem smS_le (L : List Int) : smS L ≤ 16 := by
  unfold smS
  split
  · have := vsm_bd (by assumption); unfold sgN; omega
  · omega
theorem smM_lt (L : List Int) : smM L < 2 ^ (smS L - 1) := by
  cases h : vsm L with
  | true => rw [smS_yes h, smM_yes h]; exact mkN_lt (vsm_iff.1 h).1
  | false => rw [smS_no h, smM_no h]; decide
theorem sgN_next {L : List Int} {k : Nat} (hk : k < L.length) (hp : vsm L = true ∨ vsm (L.take (k + 1)) = true) {x : Nat} (hx : L[k] = x) : sgN (L.take (k + 1)) = sgN (L.take k) + x := by
  have hq : vsm (L.take (k + 1)) = true := hp.elim (fun h => vsm_take h _) id
  have h1 := vsm_bd (vsm_take hq k)
  rw [List.take_take, Nat.min_eq_left (by omega)] at h1
  unfold sgN
  rw [sumL_take_succ L k hk, hx]; omega
theorem mkN_step {L : List Int} {k : Nat} (hk : k < L.length) (hp : vsm (L.take (k + 1)) = true) : mkN (L.take (k + 1)) = mkN (L.take k) + if sgN (L.take k) = 0 then 0 else 2 ^ (sgN (L.take k) - 1) := by
  have hpos := (vsm_iff.1 hp).1
  rcases Nat.eq_zero_or_pos k with h0 | h0
  · subst h0
    have e : L.take (0 + 1) = [L[0]] := by rw [List.take_succ_eq_append_getElem hk]; rfl
    rw [e]
    simp [mkN, toB, bval_zeros, bval, sgN, sumL]
  · have h2 : ∀ x ∈ L.take k, 1 ≤ x := fun x hx => hpos x (by rw [List.take_succ_eq_append_getElem hk]; exact List.mem_append_left _ hx)
    have h3 := sum_len h2
    rw [List.length_take_of_le (by omega)] at h3
    rw [if_neg (by unfold sgN; omega)]
    have := mkN_next (L := L.take (k + 1)) (k := k) (by simp; omega) h0 hpos
    rw [List.take_take, List.take_take, Nat.min_self, Nat.min_eq_left (by omega)] at this
    exact this
/-- the opposite bits -/
def opN (L : List Int) : Nat := 2 ^ (sgN L - 1) - 1 - mkN L
def opp (L : List Int) : List Int := smk (sgN L) (opN L)
theorem opN_lt (L : List Int) : opN L < 2 ^ (sgN L - 1) := by unfold opN; have := Nat.two_pow_pos (sgN L - 1); omega
theorem opp_nil : opp [] = [] := by simp [opp, smk, sgN, sumL]
theorem bval_not' (b : List Bool) : bval (b.map (!·)) = 2 ^ b.length - 1 - bval b := by have := bval_not b; omega
theorem opp_bits {L : List Int} (h : ∀ x ∈ L, 1 ≤ x) (h0 : L ≠ []) : opp L = ofB ((toB L).map (!·)) := by
  have hs := sum_len h
  have hl : 0 < L.length := List.length_pos_iff.2 h0
  unfold opp smk
  rw [if_neg (by unfold sgN; omega)]
  have e : sgN L - 1 = (toB L).length := by rw [toB_len L h]; unfold sgN; omega
  have e2 : opN L = bval ((toB L).map (!·)) := by unfold opN mkN; rw [bval_not', e]
  rw [e2, e]
  have := bitsN_bval' ((toB L).map (!·))
  rw [List.length_map] at this
  rw [this]
theorem opp_opp {L : List Int} (h : ∀ x ∈ L, 1 ≤ x) : opp (opp L) = L := by
  by_cases h0 : L = []
  · subst h0; rw [opp_nil, opp_nil]
  · have e := opp_bits h h0
    obtain ⟨x, r, hx⟩ := ofB_ne ((toB L).map (!·))
    have := opp_bits (L := opp L) (by rw [e]; exact ofB_pos _) (by rw [e, hx]; simp)
    rw [this, e, toB_ofB, List.map_map]
    have e3 : (toB L).map ((fun x => !x) ∘ fun x => !x) = toB L := by
      conv => rhs; rw [← List.map_id (toB L)]
      apply List.map_congr_left; intro b _; simp
    rw [e3, ofB_toB L h0 h]
theorem opp_sum (L : List Int) (h : 0 ≤ sumL L) : sumL (opp L) = sumL L := by unfold opp; rw [smk_sum]; unfold sgN; omega
theorem opp_ok {L : List Int} (h : vsm L = true) : vsm (opp L) = true := smk_ok _ (by have := vsm_bd h; unfold sgN; omega)
theorem opp_len {L : List Int} (h : ∀ x ∈ L, 1 ≤ x) (h0 : L ≠ []) : (L.length : Int) + (opp L).length = sumL L + 1 := by
  have e := opp_bits h h0
  have e2 := ofB_toB L h0 h
  have l1 := ofB_len ((toB L).map (!·))
  have l2 := ofB_len (toB L)
  rw [e2] at l2
  have hc := count_not (toB L)
  rw [toB_len L h] at hc
  have hs := sum_len h
  have hl : 0 < L.length := List.length_pos_iff.2 h0
  rw [e, l1]
  omega
theorem sumL_rev (L : List Int) : sumL L.reverse = sumL L := by
  induction L with
  | nil => rfl
  | cons x r ih => rw [List.reverse_cons, sumL_append, ih]; simp [sumL]; omega
theorem vsm_rev {L : List Int} (h : vsm L = true) : vsm L.reverse = true := by
  rw [vsm_iff] at *
  exact ⟨fun x hx => h.1 x (by simpa using hx), by rw [sumL_rev]; exact h.2⟩
theorem opp_rev {L : List Int} (h : ∀ x ∈ L, 1 ≤ x) : opp L.reverse = (opp L).reverse := by
  by_cases h0 : L = []
  · subst h0; simp [opp_nil]
  · have hr : ∀ x ∈ L.reverse, 1 ≤ x := fun x hx => h x (by simpa using hx)
    have e : toB L.reverse = (toB L).reverse := by
      rw [← toB_ofB (toB L).reverse, ofB_rev, ofB_toB L h0 h]
    rw [opp_bits h h0, opp_bits hr (by simpa using h0), e, List.map_reverse, ofB_rev]
/-- summands behind others -/
def lnk (c d : List Int) (near : Bool) : List Int :=
  if near = true ∧ c ≠ [] ∧ d ≠ [] then c.dropLast ++ addHd (c.getLastD 0) d else c ++ d
theorem lnk_bits {c d : List Int} (hc : ∀ x ∈ c, 1 ≤ x) (hd : ∀ x ∈ d, 1 ≤ x) (c0 : c ≠ []) (d0 : d ≠ []) (near : Bool) : lnk c d near = ofB (toB c ++ (!near) :: toB d) := by
  unfold lnk
  cases near with
  | true =>
    rw [if_pos ⟨rfl, c0, d0⟩]
    have hl : c.dropLast ++ [c.getLastD 0] = c := by
      rw [List.getLastD_eq_getLast?, List.getLast?_eq_some_getLast c0]
      exact List.dropLast_concat_getLast c0
    have := ofB_false (toB c) (toB d) c.dropLast (c.getLastD 0) (by rw [ofB_toB c c0 hc, hl])
    rw [ofB_toB d d0 hd] at this
    exact this.symm
  | false =>
    rw [if_neg (by simp)]
    show _ = ofB (toB c ++ true :: toB d)
    rw [ofB_true, ofB_toB c c0 hc, ofB_toB d d0 hd]
theorem lnk_nil_left (d : List Int) (near : Bool) : lnk [] d near = d := by simp [lnk]
theorem lnk_nil_right (c : List Int) (near : Bool) : lnk c [] near = c := by simp [lnk]
theorem lnk_pos {c d : List Int} (hc : ∀ x ∈ c, 1 ≤ x) (hd : ∀ x ∈ d, 1 ≤ x) (near : Bool) : ∀ x ∈ lnk c d near, 1 ≤ x := by
  by_cases c0 : c = []
  · subst c0; rw [lnk_nil_left]; exact hd
  · by_cases d0 : d = []
    · subst d0; rw [lnk_nil_right]; exact hc
    · rw [lnk_bits hc hd c0 d0]; exact ofB_pos _
theorem addHd_sum (r : Int) (L : List Int) : sumL (addHd r L) = r + sumL L := by
  cases L <;> simp [addHd, sumL]; omega
theorem lnk_sum (c d : List Int) (near : Bool) : sumL (lnk c d near) = sumL c + sumL d := by
  unfold lnk
  split
  · rename_i h
    have hl : c.dropLast ++ [c.getLastD 0] = c := by
      rw [List.getLastD_eq_getLast?, List.getLast?_eq_some_getLast h.2.1]
      exact List.dropLast_concat_getLast h.2.1
    have := congrArg sumL hl
    rw [sumL_append] at this
    simp only [sumL] at this
    rw [sumL_append, addHd_sum]; omega
  · rw [sumL_append]
theorem opp_lnk {c d : List Int} (hc : ∀ x ∈ c, 1 ≤ x) (hd : ∀ x ∈ d, 1 ≤ x) (near : Bool) : opp (lnk c d near) = lnk (opp c) (opp d) (!near) := by
  by_cases c0 : c = []
  · subst c0; rw [lnk_nil_left, opp_nil, lnk_nil_left]
  · by_cases d0 : d = []
    · subst d0; rw [lnk_nil_right, opp_nil, lnk_nil_right]
    · have hp := lnk_pos hc hd near
      have e := lnk_bits hc hd c0 d0 near
      obtain ⟨x, r, hx⟩ := ofB_ne (toB c ++ (!near) :: toB d)
      have hne : lnk c d near ≠ [] := by rw [e, hx]; simp
      have ec := opp_bits hc c0
      have ed := opp_bits hd d0
      have hc' : ∀ x ∈ opp c, 1 ≤ x := by rw [ec]; exact ofB_pos _
      have hd' : ∀ x ∈ opp d, 1 ≤ x := by rw [ed]; exact ofB_pos _
      obtain ⟨_, _, h1⟩ := ofB_ne ((toB c).map (!·))
      obtain ⟨_, _, h2⟩ := ofB_ne ((toB d).map (!·))
      rw [opp_bits hp hne, e, toB_ofB, lnk_bits hc' hd' (by rw [ec, h1]; simp) (by rw [ed, h2]; simp), ec, ed, toB_ofB, toB_ofB]
      simp
/-- the summands that a sum and bits of a link are -/
theorem smk_lnk {c d : List Int} (hc : ∀ x ∈ c, 1 ≤ x) (hd : ∀ x ∈ d, 1 ≤ x) (c0 : c ≠ []) (d0 : d ≠ []) (near : Bool) :
    smk (sgN c + sgN d) (mkN c + 2 ^ (sgN c - 1) * (if near = true then 0 else 1) + 2 ^ sgN c * mkN d) = lnk c d near := by
  have hs := sum_len hc
  have hs2 := sum_len hd
  have hl : 0 < c.length := List.length_pos_iff.2 c0
  have hl2 : 0 < d.length := List.length_pos_iff.2 d0
  have e1 : (toB c).length = sgN c - 1 := by rw [toB_len c hc]; unfold sgN; omega
  have e2 : (toB d).length = sgN d - 1 := by rw [toB_len d hd]; unfold sgN; omega
  have hg : 0 < sgN c := by unfold sgN; omega
  have hg2 : 0 < sgN d := by unfold sgN; omega
  rw [lnk_bits hc hd c0 d0]
  have hlen : (toB c ++ (!near) :: toB d).length = sgN c + sgN d - 1 := by simp [e1, e2]; omega
  have hval : bval (toB c ++ (!near) :: toB d) = mkN c + 2 ^ (sgN c - 1) * (if near = true then 0 else 1) + 2 ^ sgN c * mkN d := by
    rw [bval_append, e1]
    simp only [bval]
    have hp : 2 ^ sgN c = 2 ^ (sgN c - 1) * 2 := by rw [← Nat.pow_succ]; congr 1; omega
    rw [hp, Nat.mul_add, ← Nat.mul_assoc, ← Nat.add_assoc]
    unfold mkN
    cases near <;> simp
  unfold smk
  rw [if_neg (by omega), ← hval, ← hlen, bitsN_bval']
end NP
end Go.Proofs.Ythafbdpeignccaa
namespace Go.Proofs.Ythafbdpeignccaa
namespace NP
def mkF (L : List Int) : Int := if vsm L = true then (mkN L : Int) else -1
theorem mkF_yes {L : List Int} (h : vsm L = true) : mkF L = (mkN L : Int) := by unfold mkF; rw [if_pos h]
theorem mkF_no {L : List Int} (h : vsm L = false) : mkF L = -1 := by unfold mkF; rw [if_neg (by rw [h]; decide)]
/-- whether a sum has the bits -/
def smOk (n m : Int) : Bool := decide (0 ≤ n) && decide (n ≤ 16) && decide (0 ≤ m) && decide (m < ((2 ^ (n.toNat - 1) : Nat) : Int))
def smkF (n m : Int) : List Int := if smOk n m = true then smk n.toNat m.toNat else []
theorem smOk_iff {n m : Int} : smOk n m = true ↔ 0 ≤ n ∧ n ≤ 16 ∧ 0 ≤ m ∧ m < ((2 ^ (n.toNat - 1) : Nat) : Int) := by simp only [smOk, Bool.and_eq_true, decide_eq_true_eq]; omega
theorem smkF_yes {n m : Int} (h : smOk n m = true) : smkF n m = smk n.toNat m.toNat := by unfold smkF; rw [if_pos h]
theorem smkF_no {n m : Int} (h : smOk n m = false) : smkF n m = [] := by unfold smkF; rw [if_neg (by rw [h]; decide)]
theorem smk_len16 {n : Nat} (m : Nat) (h : n ≤ 16) : (smk n m).length ≤ 16 := by have := smk_len n m; omega
theorem smkF_len (n m : Int) : (smkF n m).length ≤ 16 := by
  cases h : smOk n m with
  | true => rw [smkF_yes h]; rw [smOk_iff] at h; exact smk_len16 _ (by omega)
  | false => rw [smkF_no h]; simp
def oppF (L : List Int) : List Int := if vsm L = true then opp L else []
theorem oppF_yes {L : List Int} (h : vsm L = true) : oppF L = opp L := by unfold oppF; rw [if_pos h]
theorem oppF_no {L : List Int} (h : vsm L = false) : oppF L = [] := by unfold oppF; rw [if_neg (by rw [h]; decide)]
theorem oppF_len (L : List Int) : (oppF L).length ≤ 16 := by
  cases h : vsm L with
  | true => rw [oppF_yes h]; exact (vsm_bd (opp_ok h)).2.2.2
  | false => rw [oppF_no h]; simp
def trnF (L : List Int) : List Int := if vsm L = true then L.reverse else []
theorem trnF_yes {L : List Int} (h : vsm L = true) : trnF L = L.reverse := by unfold trnF; rw [if_pos h]
theorem trnF_no {L : List Int} (h : vsm L = false) : trnF L = [] := by unfold trnF; rw [if_neg (by rw [h]; decide)]
theorem trnF_len (L : List Int) : (trnF L).length ≤ 16 := by
  cases h : vsm L with
  | true => rw [trnF_yes h, List.length_reverse]; exact (vsm_bd h).2.2.2
  | false => rw [trnF_no h]; simp
def lnkOk (c d : List Int) : Bool := vsm c && vsm d && decide (sumL c + sumL d ≤ 16)
def lnkF (c d : List Int) (near : Bool) : List Int := if lnkOk c d = true then lnk c d near else []
theorem lnkOk_iff {c d : List Int} : lnkOk c d = true ↔ vsm c = true ∧ vsm d = true ∧ sumL c + sumL d ≤ 16 := by simp [lnkOk, and_assoc]
theorem lnkF_yes {c d : List Int} (h : lnkOk c d = true) (near : Bool) : lnkF c d near = lnk c d near := by unfold lnkF; rw [if_pos h]
theorem lnkF_no {c d : List Int} (h : lnkOk c d = false) (near : Bool) : lnkF c d near = [] := by unfold lnkF; rw [if_neg (by rw [h]; decide)]
theorem lnk_ok {c d : List Int} (h : lnkOk c d = true) (near : Bool) : vsm (lnk c d near) = true := by
  rw [lnkOk_iff] at h
  rw [vsm_iff, lnk_sum]
  exact ⟨lnk_pos (vsm_iff.1 h.1).1 (vsm_iff.1 h.2.1).1 near, h.2.2⟩
theorem lnkF_len (c d : List Int) (near : Bool) : (lnkF c d near).length ≤ 16 := by
  cases h : lnkOk c d with
  | true => rw [lnkF_yes h]; exact (vsm_bd (lnk_ok h near)).2.2.2
  | false => rw [lnkF_no h]; simp
theorem lnkOk_opp {c d : List Int} (h : lnkOk c d = true) : lnkOk (opp c) (opp d) = true := by
  rw [lnkOk_iff] at *
  have h1 := vsm_bd h.1
  have h2 := vsm_bd h.2.1
  exact ⟨opp_ok h.1, opp_ok h.2.1, by rw [opp_sum _ h1.1, opp_sum _ h2.1]; exact h.2.2⟩
/-- the sum and bits of a link are the link -/
theorem smk_link {c d : List Int} (hc : ∀ x ∈ c, 1 ≤ x) (hd : ∀ x ∈ d, 1 ≤ x) (near : Bool) :
    smk (sgN c + sgN d) (mkN c + 2 ^ (sgN c - 1) * (if near = true ∨ sgN c = 0 ∨ sgN d = 0 then 0 else 1) + 2 ^ sgN c * mkN d) = lnk c d near := by
  have e0 : sgN [] = 0 := rfl
  have m0 : mkN [] = 0 := rfl
  by_cases c0 : c = []
  · subst c0
    rw [lnk_nil_left, e0, m0]
    simp [smk_mkN hd]
  · by_cases d0 : d = []
    · subst d0
      rw [lnk_nil_right, e0, m0]
      simp [smk_mkN hc]
    · have := smk_lnk hc hd c0 d0 near
      have h1 := sum_len hc
      have h2 := sum_len hd
      have l1 : 0 < c.length := List.length_pos_iff.2 c0
      have l2 : 0 < d.length := List.length_pos_iff.2 d0
      have g1 : ¬ sgN c = 0 := by unfold sgN; omega
      have g2 : ¬ sgN d = 0 := by unfold sgN; omega
      simp only [g1, g2, or_false]
      exact this
def finF (c d : List Int) : Bool := vsm c && vsm d && (decide (sgN c = sgN d) && decide (mkN c &&& mkN d = mkN d))
theorem finF_no {c d : List Int} (h : (vsm c && vsm d) = false) : finF c d = false := by unfold finF; rw [h]; rfl
theorem finF_yes {c d : List Int} (h : vsm c = true) (h2 : vsm d = true) : finF c d = (decide (sgN c = sgN d) && decide (mkN c &&& mkN d = mkN d)) := by unfold finF; rw [h, h2]; rfl
theorem pow16 {n : Nat} (h : n ≤ 16) : 2 ^ (n - 1) ≤ 32768 := by
  have : (2 : Nat) ^ (n - 1) ≤ 2 ^ 15 := Nat.pow_le_pow_right (by omega) (by omega)
  omega
theorem mkN_16 {L : List Int} (h : vsm L = true) : mkN L < 32768 := by
  have h1 := mkN_lt (vsm_iff.1 h).1
  have h2 := vsm_bd h
  have := pow16 (n := sgN L) (by unfold sgN; omega)
  omega
theorem smM_16 (L : List Int) : smM L < 32768 := by
  have h1 := smM_lt L
  have := pow16 (smS_le L)
  omega
end NP
end Go.Proofs.Ythafbdpeignccaa
namespace Go.Proofs.Ythafbdpeignccaa
namespace NP
set_option linter.unusedVariables false
theorem mono_uniq {A B : List Int} (hA : mono A) (hB : mono B) (h : ∀ k, eqc k A = eqc k B) (hl : A.length = B.length) : A = B := by
  induction A generalizing B with
  | nil => exact (List.eq_nil_of_length_eq_zero (by simp at hl; omega)).symm
  | cons x r ih =>
    cases B with
    | nil => simp at hl
    | cons y s =>
      have hx : x ∈ y :: s := eqc_mem (by rw [← h x]; exact eqc_pos (by simp))
      have hy : y ∈ x :: r := eqc_mem (by rw [h y]; exact eqc_pos (by simp))
      have e : x = y := by
        rcases List.mem_cons.1 hx with e | e
        · exact e
        · rcases List.mem_cons.1 hy with e2 | e2
          · exact e2.symm
          · have := hB.1 x e; have := hA.1 y e2; omega
      subst e
      congr 1
      exact ih hA.2 hB.2 (fun k => by have := h k; rw [eqc_cons, eqc_cons] at this; omega) (by simpa using hl)
/-- parts from 16 down, m numbers of them, each as often as it comes in L -/
def dscA (L : List Int) : Nat → List Int
  | 0 => []
  | m + 1 => dscA L m ++ List.replicate (eqc ((16 : Int) - m) L).toNat ((16 : Int) - m)
theorem dscA_low (L : List Int) (m : Nat) : ∀ x ∈ dscA L m, (16 : Int) - m < x := by
  induction m with
  | zero => intro x hx; simp [dscA] at hx
  | succ m ih =>
    intro x hx
    rcases List.mem_append.1 hx with hx | hx
    · have := ih x hx; omega
    · have := (List.mem_replicate.1 hx).2; omega
theorem mono_rep (n : Nat) (x : Int) : mono (List.replicate n x) := by
  induction n with
  | zero => exact trivial
  | succ n ih => exact ⟨fun y hy => by have := (List.mem_replicate.1 hy).2; omega, ih⟩
theorem dscA_mono (L : List Int) (m : Nat) : mono (dscA L m) := by
  induction m with
  | zero => exact trivial
  | succ m ih =>
    refine mono_append ih (mono_rep _ _) fun a ha b hb => ?_
    have h1 := dscA_low L m a ha
    have h2 := (List.mem_replicate.1 hb).2
    omega
theorem eqc_out {L : List Int} {k : Int} (h : k ∉ L) : eqc k L = 0 := by
  have h1 := eqc_bd k L
  rcases Int.lt_or_le 0 (eqc k L) with h2 | h2
  · exact absurd (eqc_mem h2) h
  · omega
theorem dscA_eqc (L : List Int) (m : Nat) (k : Int) : eqc k (dscA L m) = if (16 : Int) - m < k ∧ k ≤ 16 then eqc k L else 0 := by
  induction m with
  | zero => simp [dscA, eqc]; omega
  | succ m ih =>
    have hb := eqc_bd ((16 : Int) - m) L
    rw [dscA, eqc_append, ih, eqc_replicate]
    by_cases h1 : (16 : Int) - m = k
    · subst h1
      rw [if_neg (by omega), if_pos rfl, if_pos (by omega)]
      omega
    · rw [if_neg h1]
      by_cases h2 : (16 : Int) - m < k ∧ k ≤ 16
      · rw [if_pos h2, if_pos (by omega)]; omega
      · rw [if_neg h2, if_neg (by omega)]; omega
theorem eqc_len {A B : List Int} (h : ∀ k, eqc k A = eqc k B) : A.length = B.length := by
  induction A generalizing B with
  | nil =>
    cases B with
    | nil => rfl
    | cons y s => have := h y; rw [eqc_cons] at this; have := (eqc_bd y s).1; simp [eqc] at *; omega
  | cons x r ih =>
    have hx : x ∈ B := eqc_mem (by rw [← h x]; exact eqc_pos (by simp))
    obtain ⟨b1, b2, rfl⟩ := List.append_of_mem hx
    have := ih (B := b1 ++ b2) (fun k => by
      have := h k
      rw [eqc_cons, eqc_append, eqc_cons] at this
      rw [eqc_append]; omega)
    simp at this ⊢; omega
theorem dscA_all' {L : List Int} (h : ∀ x ∈ L, 1 ≤ x ∧ x ≤ 16) (m : Nat) (hm : m = 16) : dscA L m = mrg L := by
  have hq : ∀ k, eqc k (dscA L m) = eqc k (mrg L) := fun k => by
    rw [dscA_eqc, mrg_eqc]
    by_cases hk : (16 : Int) - (m : Int) < k ∧ k ≤ 16
    · rw [if_pos hk]
    · rw [if_neg hk]
      exact (eqc_out (fun hx => hk (by have := h k hx; omega))).symm
  exact mono_uniq (dscA_mono L m) (mrg_mono L) hq (eqc_len hq)
theorem dscA_all {L : List Int} (h : ∀ x ∈ L, 1 ≤ x ∧ x ≤ 16) : dscA L 16 = mrg L := dscA_all' h 16 rfl
theorem dscA_le (L : List Int) {j m : Nat} (h : j ≤ m) : (dscA L j).length ≤ (dscA L m).length := by
  induction m with
  | zero => obtain rfl : j = 0 := by omega
            exact Nat.le_refl _
  | succ m ih =>
    rcases Nat.lt_or_ge j (m + 1) with h1 | h1
    · have := ih (by omega); rw [dscA, List.length_append]; omega
    · obtain rfl : j = m + 1 := by omega
      exact Nat.le_refl _
theorem vsm_each {L : List Int} (h : vsm L = true) : ∀ x ∈ L, 1 ≤ x ∧ x ≤ 16 := by
  intro x hx
  obtain ⟨k, hk, rfl⟩ := List.getElem_of_mem hx
  have h1 := vsm_bd (vsm_take h k)
  have h2 := vsm_bd (vsm_take h (k + 1))
  rw [sumL_take_succ L k hk] at h2
  exact ⟨(vsm_iff.1 h).1 _ (List.getElem_mem hk), by omega⟩
theorem mrg_ok {L : List Int} (h : vsm L = true) : valid (mrg L) = true :=
  valid_mono (mrg_mono L) (fun x hx => ((vsm_each h) x (mrg_mem hx)).1) (by rw [mrg_sum]; exact (vsm_iff.1 h).2)
theorem dscA_len {L : List Int} (h : vsm L = true) {m : Nat} (hm : m ≤ 16) : (dscA L m).length ≤ 16 := by
  have h1 := dscA_le L hm
  rw [dscA_all (vsm_each h), mrg_len] at h1
  have := (vsm_bd h).2.2.2
  omega
/-- the parts of summands -/
def posF (L : List Int) : List Int := if vsm L = true then mrg L else []
theorem posF_yes {L : List Int} (h : vsm L = true) : posF L = mrg L := by unfold posF; rw [if_pos h]
theorem posF_no {L : List Int} (h : vsm L = false) : posF L = [] := by unfold posF; rw [if_neg (by rw [h]; decide)]
theorem posF_len (L : List Int) : (posF L).length ≤ 16 := by
  cases h : vsm L with
  | true => rw [posF_yes h, mrg_len]; exact (vsm_bd h).2.2.2
  | false => rw [posF_no h]; simp
theorem posF_valid (L : List Int) : valid (posF L) = true := by
  cases h : vsm L with
  | true => rw [posF_yes h]; exact mrg_ok h
  | false => rw [posF_no h]; rfl
theorem vsm_of_valid {L : List Int} (h : valid L = true) : vsm L = true := vsm_iff.2 ⟨valid_ge1 h, (valid_bd h).2.1⟩
theorem mrg_of_mono {L : List Int} (h : mono L) : mrg L = L := mono_uniq (mrg_mono L) h (fun k => mrg_eqc L k) (mrg_len L)
theorem mono_of_valid {L : List Int} (h : valid L = true) : mono L := by
  have hp := preS_of_valid h
  have hstep : ∀ k (hk : k + 1 < L.length), L[k + 1] ≤ L[k] := fun k hk => by
    have := (hp (k + 1) hk hk).2.2 (by omega)
    simpa using this
  clear h hp
  induction L with
  | nil => exact trivial
  | cons x r ih =>
    refine ⟨fun y hy => ?_, ih (fun k hk => by have := hstep (k + 1) (by simpa using hk); simpa using this)⟩
    obtain ⟨j, hj, rfl⟩ := List.getElem_of_mem hy
    have : ∀ j (hj : j < (x :: r).length), (x :: r)[j] ≤ x := by
      intro j
      induction j with
      | zero => intro _; exact Int.le_refl _
      | succ j ihj =>
        intro hj
        have h1 := hstep j hj
        have h2 := ihj (by omega)
        omega
    have := this (j + 1) (by simpa using hj)
    simpa using this
theorem eqc_rev (k : Int) (L : List Int) : eqc k L.reverse = eqc k L := by
  induction L with
  | nil => rfl
  | cons x r ih => rw [List.reverse_cons, eqc_append, ih, eqc_cons, eqc_cons]; simp [eqc]; omega
theorem mrg_rev (L : List Int) : mrg L.reverse = mrg L :=
  mono_uniq (mrg_mono _) (mrg_mono _) (fun k => by rw [mrg_eqc, mrg_eqc, eqc_rev]) (by rw [mrg_len, mrg_len, List.length_reverse])
/-- how often each number from 0 to 16 comes -/
def tlyL (L : List Int) : List Int := (List.range 17).map fun (v : Nat) => eqc v L
theorem tlyL_len (L : List Int) : (tlyL L).length = 17 := by simp [tlyL]
theorem tlyL_at (L : List Int) {v : Nat} (h : v < 17) : (tlyL L)[v]'(by rw [tlyL_len]; exact h) = eqc v L := by simp [tlyL]
theorem tlyL_next (L : List Int) {x : Nat} (hx : x < 17) : (tlyL L).set x (eqc x L + 1) = tlyL (L ++ [(x : Int)]) := by
  apply List.ext_getElem
  · simp [tlyL]
  · intro v h1 h2
    have hv : v < 17 := by simpa [tlyL] using h2
    rw [List.getElem_set]
    by_cases e : x = v
    · subst e
      rw [if_pos rfl, tlyL_at _ hv, eqc_append]
      simp [eqc]
    · rw [if_neg e, tlyL_at _ hv, tlyL_at _ hv, eqc_append]
      have : ¬ (x : Int) = (v : Int) := by omega
      simp [eqc, this]
end NP
end Go.Proofs.Ythafbdpeignccaa
namespace Go.Proofs.Ythafbdpeignccaa
namespace NP
def sqRT (L : List Int) (d : Int) (k : Nat) : List Int := ((List.range k).filter fun i => decide (d < L.getD i 0)).map fun i => L.getD i 0 - d
theorem sqRT_succ (L : List Int) (d : Int) (k : Nat) : sqRT L d (k + 1) = sqRT L d k ++ if d < L.getD k 0 then [L.getD k 0 - d] else [] := by
  unfold sqRT
  rw [List.range_succ, List.filter_append, List.map_append]
  obtain ⟨f, hf⟩ : ∃ f : Nat → Int, ∀ i, L.getD i 0 = f i := ⟨_, fun _ => rfl⟩
  simp only [hf]
  congr 1
  by_cases h : d < f k <;> simp [h]
theorem sqRT_len (L : List Int) (d : Int) (k : Nat) : (sqRT L d k).length ≤ k := by
  unfold sqRT
  rw [List.length_map]
  exact Nat.le_trans (List.length_filter_le _ _) (by simp)
def sqR (L : List Int) : List Int := sqRT L (durS L) (durS L)
def sqB (L : List Int) : List Int := L.drop (durS L)
def sqRF (L : List Int) : List Int := if valid L then sqR L else []
def sqBF (L : List Int) : List Int := if valid L then sqB L else []
def sqD (L : List Int) : Int := if valid L then (durS L : Int) else 0
theorem sqRF_yes {L : List Int} (h : valid L = true) : sqRF L = sqR L := by simp [sqRF, h]
theorem sqRF_no {L : List Int} (h : valid L = false) : sqRF L = [] := by simp [sqRF, h]
theorem sqBF_yes {L : List Int} (h : valid L = true) : sqBF L = sqB L := by simp [sqBF, h]
theorem sqBF_no {L : List Int} (h : valid L = false) : sqBF L = [] := by simp [sqBF, h]
theorem sqD_yes {L : List Int} (h : valid L = true) : sqD L = (durS L : Int) := by simp [sqD, h]
theorem sqD_no {L : List Int} (h : valid L = false) : sqD L = 0 := by simp [sqD, h]
/-- what stands in the rows of the square, less the square -/
def sqArr (L : List Int) : List Int := (List.range 16).map fun j => if j < durS L then L.getD j 0 - (durS L : Int) else 0
def sqOk (d : Int) (R B : List Int) : Bool := decide (0 ≤ d) && decide (d ≤ 16) && valid R && valid B && decide ((R.length : Int) ≤ d) && decide (B.getD 0 0 ≤ d) && decide (d * d + sumL R + sumL B ≤ 16)
def sqPut (d : Int) (R B : List Int) : List Int := adp (List.replicate d.toNat d) R ++ B
def sqPutF (d : Int) (R B : List Int) : List Int := if sqOk d R B then sqPut d R B else []
theorem sqPutF_yes {d : Int} {R B : List Int} (h : sqOk d R B = true) : sqPutF d R B = sqPut d R B := by simp [sqPutF, h]
theorem sqPutF_no {d : Int} {R B : List Int} (h : sqOk d R B = false) : sqPutF d R B = [] := by simp [sqPutF, h]
theorem sqOk_iff (d : Int) (R B : List Int) : sqOk d R B = true ↔ 0 ≤ d ∧ d ≤ 16 ∧ valid R = true ∧ valid B = true ∧ (R.length : Int) ≤ d ∧ B.getD 0 0 ≤ d ∧ d * d + sumL R + sumL B ≤ 16 := by
  simp [sqOk, and_assoc]

def sqTab (N : List Nat) : Bool :=
  let L := N.map Int.ofNat
  valid (sqR L) && valid (sqB L) && decide (pad (sqR L) = sqArr L) && decide (sqR (conj L) = conj (sqB L)) && decide (sqB (conj L) = conj (sqR L)) && sqOk (durS L) (sqR L) (sqB L) && decide (sqPut (durS L) (sqR L) (sqB L) = L)
set_option maxRecDepth 100000 in
theorem sqTab_all : all16.all sqTab = true := by decide +kernel
theorem sq_facts {L : List Int} (h : valid L = true) : valid (sqR L) = true ∧ valid (sqB L) = true ∧ pad (sqR L) = sqArr L ∧ sqR (conj L) = conj (sqB L) ∧ sqB (conj L) = conj (sqR L) ∧ sqOk (durS L) (sqR L) (sqB L) = true ∧ sqPut (durS L) (sqR L) (sqB L) = L := by
  obtain ⟨N, hN, rfl⟩ := of_all sqTab_all h
  simp only [sqTab, Bool.and_eq_true, decide_eq_true_eq] at hN
  obtain ⟨⟨⟨⟨⟨⟨h1, h2⟩, h3⟩, h4⟩, h5⟩, h6⟩, h7⟩ := hN
  exact ⟨h1, h2, h3, h4, h5, h6, h7⟩
theorem sqRF_len (L : List Int) : (sqRF L).length ≤ 16 := by
  unfold sqRF
  split
  · rename_i h; exact (valid_bd (sq_facts h).1).2.2.2
  · simp
theorem sqBF_len (L : List Int) : (sqBF L).length ≤ 16 := by
  unfold sqBF
  split
  · rename_i h; exact (valid_bd (sq_facts h).2.1).2.2.2
  · simp

/-- the square itself -/
def sqs (n : Nat) : List Int := List.replicate n (n : Int)
theorem sqs_valid {n : Nat} (h : n ≤ 4) : valid (sqs n) = true := by
  match n, h with
  | 0, _ => rfl
  | 1, _ => rfl
  | 2, _ => rfl
  | 3, _ => rfl
  | 4, _ => rfl
theorem sumL_rep (n : Nat) (x : Int) : sumL (List.replicate n x) = (n : Int) * x := by
  induction n with
  | zero => simp [sumL]
  | succ n ih =>
    rw [List.replicate_succ]
    show x + sumL _ = _
    rw [ih, Int.natCast_add, Int.add_mul]
    simp
    omega
theorem sqs_sum (n : Nat) : sumL (sqs n) = (n : Int) * (n : Int) := sumL_rep n n
theorem sqs_getD (n i : Nat) : (sqs n).getD i 0 = if i < n then (n : Int) else 0 := by
  unfold sqs
  rw [List.getD_eq_getElem?_getD, List.getElem?_replicate]
  split <;> rfl
theorem sq4 {n : Nat} {x : Int} (hx : 0 ≤ x) (h : (n : Int) * (n : Int) + x ≤ 16) : n ≤ 4 := by
  rcases Nat.lt_or_ge 4 n with h1 | h1
  · have h2 : (5 : Int) * 5 ≤ (n : Int) * (n : Int) := Int.mul_le_mul (by omega) (by omega) (by omega) (by omega)
    omega
  · exact h1
theorem sq_put {n : Nat} {R B : List Int} (h : sqOk n R B = true) :
    two (sqs n) R = true ∧ two (adp (sqs n) R) B = true ∧ sqPut n R B = adp (sqs n) R ++ B ∧ mono (adp (sqs n) R ++ B) ∧ (adp (sqs n) R).length = n ∧ (∀ x ∈ adp (sqs n) R ++ B, 1 ≤ x) ∧ valid (sqPut n R B) = true := by
  obtain ⟨h0, h16, hvR, hvB, hRl, hB0, hs⟩ := (sqOk_iff _ _ _).1 h
  have bR := valid_bd hvR
  have bB := valid_bd hvB
  have h4 : n ≤ 4 := sq4 (x := sumL R + sumL B) (by omega) (by omega)
  have hv := sqs_valid h4
  have hss := sqs_sum n
  have t1 : two (sqs n) R = true := by simp [two, hv, hvR, hss]; omega
  have hvP := valid_adp t1
  have hsP := adp_sum (sqs n) R
  have t2 : two (adp (sqs n) R) B = true := by simp [two, hvP, hvB, hsP, hss]; omega
  have hlP : (adp (sqs n) R).length = n := by rw [adp_len]; simp [sqs]; omega
  have hge : ∀ x ∈ adp (sqs n) R, (n : Int) ≤ x := fun x hx => by
    obtain ⟨i, hi, rfl⟩ := List.getElem_of_mem hx
    have e := adp_getD (sqs n) R i
    rw [getD_lt hi, sqs_getD, if_pos (by omega)] at e
    have := (getD_nn hvR i).1
    omega
  have hle : ∀ y ∈ B, y ≤ (n : Int) := fun y hy => by
    have := head_ge hvB y hy
    have e : B.headD 0 = B.getD 0 0 := by cases B <;> rfl
    omega
  have hm : mono (adp (sqs n) R ++ B) := mono_append (mono_valid hvP) (mono_valid hvB) fun x hx y hy => by
    have := hge x hx
    have := hle y hy
    omega
  have h1 : ∀ x ∈ adp (sqs n) R ++ B, 1 ≤ x := fun x hx => by
    rcases List.mem_append.1 hx with hx | hx
    · exact valid_ge1 hvP x hx
    · exact valid_ge1 hvB x hx
  have hput : sqPut n R B = adp (sqs n) R ++ B := by unfold sqPut sqs; simp
  refine ⟨t1, t2, hput, hm, hlP, h1, ?_⟩
  rw [hput]
  exact valid_mono hm h1 (by rw [sumL_append, hsP, hss]; omega)
theorem sq_um {n : Nat} {R B : List Int} (h : sqOk n R B = true) : (um (fun i => (adp (sqs n) R).getD i 0) (fun i => B.getD i 0) 16).1 = pad (sqPut n R B) := by
  obtain ⟨_, t2, hp, hm, _, h1, _⟩ := sq_put h
  rw [hp]
  exact um_end t2 hm (fun k => eqc_append k _ _) (List.length_append) h1
theorem getD_app (A B : List Int) (j : Nat) : (A ++ B).getD j 0 = if j < A.length then A.getD j 0 else B.getD (j - A.length) 0 := by
  rw [List.getD_eq_getElem?_getD, List.getElem?_append]
  split <;> rw [List.getD_eq_getElem?_getD]
theorem sq_back {n : Nat} {R B : List Int} (h : sqOk n R B = true) : durS (sqPut n R B) = n ∧ sqR (sqPut n R B) = R ∧ sqB (sqPut n R B) = B := by
  obtain ⟨t1, t2, hp, hm, hl, h1, hv⟩ := sq_put h
  obtain ⟨h0, h16, hvR, hvB, hRl, hB0, hs⟩ := (sqOk_iff _ _ _).1 h
  have hg : ∀ j, j < n → (sqPut n R B).getD j 0 = (n : Int) + R.getD j 0 := fun j hj => by
    rw [hp, getD_app, if_pos (by omega), adp_getD, sqs_getD, if_pos hj]
  have hd : durS (sqPut n R B) = n := durS_unique (fun j hj => by rw [hg j hj]; have := (getD_nn hvR j).1; omega) (by
    rw [hp, getD_app, if_neg (by omega), hl, Nat.sub_self]
    omega)
  have hRt : ∀ k, k ≤ n → sqRT (sqPut n R B) (n : Int) k = R.take k := by
    intro k
    induction k with
    | zero => intro _; simp [sqRT]
    | succ k ih =>
      intro hk
      rw [sqRT_succ, ih (by omega), hg k (by omega)]
      by_cases hkR : k < R.length
      · have := getD_pos hvR hkR
        rw [if_pos (by omega), List.take_succ_eq_append_getElem hkR, getD_lt hkR]
        congr 2
        omega
      · rw [getD_ge (L := R) (by omega), if_neg (by omega), List.append_nil, List.take_of_length_le (by omega), List.take_of_length_le (by omega)]
  refine ⟨hd, ?_, ?_⟩
  · unfold sqR
    rw [hd, hRt n (Nat.le_refl _), List.take_of_length_le (by omega)]
  · unfold sqB
    rw [hd, hp, List.drop_append, List.drop_eq_nil_of_le (by omega), hl, Nat.sub_self]
    rfl
theorem sqPutF_len (d : Int) (R B : List Int) : (sqPutF d R B).length ≤ 16 := by
  unfold sqPutF
  split
  · rename_i h
    obtain ⟨n, rfl⟩ := Int.eq_ofNat_of_zero_le ((sqOk_iff _ _ _).1 h).1
    exact (valid_bd (sq_put h).2.2.2.2.2.2).2.2.2
  · simp

/-- doubled parts -/
def dbl (P : List Int) : List Int := P.map fun x => 2 * x
theorem adp_self (P : List Int) : adp P P = dbl P := by
  apply List.ext_getElem
  · simp [adp, dbl]
  · intro i h1 h2
    have hi : i < P.length := by simpa [dbl] using h2
    simp [adp, dbl, List.getElem?_eq_getElem hi]
    omega
theorem two_self (P : List Int) : two P P = (valid P && decide (2 * sumL P ≤ 16)) := by
  unfold two
  cases valid P <;> simp
  constructor <;> intro h <;> omega
theorem dbl_take (P : List Int) (k : Nat) (h : k < P.length) : dbl (P.take (k + 1)) = dbl (P.take k) ++ [2 * P[k]] := by
  unfold dbl
  rw [List.take_succ_eq_append_getElem h, List.map_append]
  rfl
end NP
end Go.Proofs.Ythafbdpeignccaa
namespace Go.Proofs.Ythafbdpeignccaa
namespace NP
set_option linter.unusedVariables false
/-- arms of the first d places -/
def armsTo (L : List Int) (d : Nat) : List Int := (List.range d).map fun (i : Nat) => L.getD i 0 - ((i : Int) + 1)
theorem armsTo_len (L : List Int) (d : Nat) : (armsTo L d).length = d := by simp [armsTo]
theorem armsTo_succ (L : List Int) (d : Nat) : armsTo L (d + 1) = armsTo L d ++ [L.getD d 0 - ((d : Int) + 1)] := by
  unfold armsTo; rw [List.range_succ, List.map_append]; rfl
theorem armsTo_getD (L : List Int) (d i : Nat) (h : i < d) : (armsTo L d).getD i 0 = L.getD i 0 - ((i : Int) + 1) := by
  rw [getD_lt (by rw [armsTo_len]; exact h)]; simp [armsTo]
theorem armsTo_congr {L M : List Int} (h : ∀ i, L.getD i 0 = M.getD i 0) (d : Nat) : armsTo L d = armsTo M d := by
  unfold armsTo; exact List.map_congr_left fun i _ => by rw [h]
def froA (L : List Int) : List Int := armsTo L (durS L)
def froB (L : List Int) : List Int := armsTo (conj L) (durS L)
def froAF (L : List Int) : List Int := if valid L then froA L else []
def froBF (L : List Int) : List Int := if valid L then froB L else []
theorem froAF_yes {L : List Int} (h : valid L = true) : froAF L = froA L := by simp [froAF, h]
theorem froAF_no {L : List Int} (h : valid L = false) : froAF L = [] := by simp [froAF, h]
theorem froBF_yes {L : List Int} (h : valid L = true) : froBF L = froB L := by simp [froBF, h]
theorem froBF_no {L : List Int} (h : valid L = false) : froBF L = [] := by simp [froBF, h]
theorem durS_le {L : List Int} (h : valid L = true) : durS L ≤ 16 := Nat.le_trans (durS_spec L).1 (valid_bd h).2.2.2
theorem froAF_len (L : List Int) : (froAF L).length ≤ 16 := by
  unfold froAF
  split
  · rename_i h; unfold froA; rw [armsTo_len]; exact durS_le h
  · simp
theorem froBF_len (L : List Int) : (froBF L).length ≤ 16 := by
  unfold froBF
  split
  · rename_i h; unfold froB; rw [armsTo_len]; exact durS_le h
  · simp
/-- how many of the first n places q holds at -/
def nb (q : Nat → Bool) : Nat → Nat
  | 0 => 0
  | n + 1 => nb q n + if q n then 1 else 0
theorem nb_le (q : Nat → Bool) (n : Nat) : nb q n ≤ n := by
  induction n with
  | zero => exact Nat.le_refl _
  | succ n ih => simp only [nb]; split <;> omega
theorem nb_to {q : Nat → Bool} {m : Nat} (n : Nat) (h : ∀ i, i < n → (q i = true ↔ i < m)) : nb q n = min n m := by
  induction n with
  | zero => simp [nb]
  | succ n ih =>
    rw [nb, ih fun i hi => h i (by omega)]
    have := h n (by omega)
    split
    · rename_i hq; have := this.1 hq; omega
    · rename_i hq
      have : ¬ n < m := fun hc => hq (this.2 hc)
      omega
theorem nb_mono {q r : Nat → Bool} (n : Nat) (h : ∀ i, i < n → q i = true → r i = true) : nb q n ≤ nb r n := by
  induction n with
  | zero => exact Nat.le_refl _
  | succ n ih =>
    have h1 := ih fun i hi => h i (by omega)
    have h2 := h n (by omega)
    simp only [nb]
    split
    · rename_i hq; rw [if_pos (h2 hq)]; omega
    · split <;> omega
theorem nb_all {q : Nat → Bool} (n : Nat) (h : ∀ i, i < n → q i = true) : nb q n = n := by
  rw [nb_to (m := n) n fun i hi => ⟨fun _ => hi, fun _ => h i hi⟩]; omega
/-- strictly falling numbers of at least 0, all less than m -/
def dnB (m : Int) (A : List Int) : Bool := decide (∀ i, i < A.length → (0 ≤ A.getD i 0 ∧ A.getD i 0 < m ∧ (0 < i → A.getD i 0 < A.getD (i - 1) 0)))
theorem dnB_iff (m : Int) (A : List Int) : dnB m A = true ↔ ∀ i, i < A.length → (0 ≤ A.getD i 0 ∧ A.getD i 0 < m ∧ (0 < i → A.getD i 0 < A.getD (i - 1) 0)) := by simp [dnB]
theorem dnB_at {m : Int} {A : List Int} {i : Nat} (hi : i < A.length) (h : ¬ (0 ≤ A.getD i 0 ∧ A.getD i 0 < m ∧ (0 < i → A.getD i 0 < A.getD (i - 1) 0))) : dnB m A = false := by
  cases hd : dnB m A with
  | false => rfl
  | true => exact absurd ((dnB_iff m A).1 hd i hi) h
/-- those of the arms ahead are greater by their distance -/
theorem dn_gap {m : Int} {A : List Int} (h : dnB m A = true) : ∀ i j, j ≤ i → i < A.length → A.getD i 0 + ((i : Int) - j) ≤ A.getD j 0 := by
  intro i
  induction i with
  | zero => intro j hj hi; obtain rfl : j = 0 := (by omega); omega
  | succ i ih =>
    intro j hj hi
    rcases Nat.lt_or_ge j (i + 1) with h1 | h1
    · have h2 := ((dnB_iff m A).1 h (i + 1) hi).2.2 (by omega)
      simp only [Nat.add_sub_cancel] at h2
      have := ih j (by omega) (by omega)
      omega
    · obtain rfl : j = i + 1 := by omega
      omega
theorem dn_low {m : Int} {A : List Int} (h : dnB m A = true) (i : Nat) (hi : i < A.length) : (A.length : Int) - 1 - i ≤ A.getD i 0 := by
  have h1 := dn_gap h (A.length - 1) i (by omega) (by omega)
  have h2 := ((dnB_iff m A).1 h (A.length - 1) (by omega)).1
  omega
def pofOk (A B : List Int) : Bool := dnB 16 A && dnB 16 B && decide (A.length = B.length) && decide (sumL A + sumL B + (A.length : Int) ≤ 16)
/-- how many of the legs come down to row j -/
def leg (B : List Int) (j : Nat) : Nat := nb (fun i => decide ((j : Int) ≤ B.getD i 0 + i)) B.length
def pofG (A B : List Int) (j : Nat) : Int := if j < A.length then A.getD j 0 + j + 1 else leg B j
def pofN (A B : List Int) : Nat := if A.length = 0 then 0 else (B.getD 0 0 + 1).toNat
/-- the parts of arms and legs -/
def pof (A B : List Int) : List Int := (List.range (pofN A B)).map fun (j : Nat) => pofG A B j
theorem pof_len (A B : List Int) : (pof A B).length = pofN A B := by simp [pof]
theorem pof_getD (A B : List Int) (j : Nat) : (pof A B).getD j 0 = if j < pofN A B then pofG A B j else 0 := by
  by_cases h : j < pofN A B
  · rw [getD_lt (by rw [pof_len]; exact h), if_pos h]; simp [pof]
  · rw [getD_ge (by rw [pof_len]; omega), if_neg h]
theorem pofOk_out {A B : List Int} (h : pofOk A B = true) : dnB 16 A = true ∧ dnB 16 B = true ∧ A.length = B.length ∧ sumL A + sumL B + (A.length : Int) ≤ 16 := by
  unfold pofOk at h
  simp only [Bool.and_eq_true, decide_eq_true_eq] at h
  exact ⟨h.1.1.1, h.1.1.2, h.1.2, h.2⟩
def pre2 (A B : List Int) : Prop := dnB 16 A = true ∧ dnB 16 B = true ∧ A.length = B.length
theorem pofOk_pre {A B : List Int} (h : pofOk A B = true) : pre2 A B := ⟨(pofOk_out h).1, (pofOk_out h).2.1, (pofOk_out h).2.2.1⟩
theorem leg_anti (B : List Int) {j k : Nat} (h : j ≤ k) : leg B k ≤ leg B j := nb_mono _ fun i _ hi => by
  have := of_decide_eq_true hi
  exact decide_eq_true (by omega)
theorem leg_zero {B : List Int} (hB : dnB 16 B = true) {j : Nat} (h : B.getD 0 0 < j) : leg B j = 0 := by
  have : leg B j = min B.length 0 := nb_to _ fun i hi => ⟨fun hq => by
    have h1 := of_decide_eq_true hq
    have h2 := dn_gap hB i 0 (by omega) hi
    omega, fun hq => by omega⟩
  omega
theorem leg_le (B : List Int) (j : Nat) : leg B j ≤ B.length := nb_le _ _
theorem leg_pos {B : List Int} (h0 : 0 < B.length) {j : Nat} (h : (j : Int) ≤ B.getD 0 0) : 1 ≤ leg B j := by
  have e : nb (fun i => decide ((j : Int) ≤ B.getD i 0 + i)) 1 = 1 := by
    have e0 : (fun (i : Nat) => decide ((j : Int) ≤ B.getD i 0 + i)) 0 = true := decide_eq_true (by show (j : Int) ≤ B.getD 0 0 + ((0 : Nat) : Int); omega)
    show 0 + (if (fun (i : Nat) => decide ((j : Int) ≤ B.getD i 0 + i)) 0 = true then 1 else 0) = 1
    rw [if_pos e0]
  have : ∀ n, 1 ≤ n → 1 ≤ nb (fun i => decide ((j : Int) ≤ B.getD i 0 + i)) n := by
    intro n hn
    induction n with
    | zero => omega
    | succ n ih =>
      rcases Nat.eq_zero_or_pos n with h1 | h1
      · subst h1; exact Nat.le_of_eq e.symm
      · have := ih h1; simp only [nb]; split <;> omega
  exact this _ h0
theorem pofN_ge {A B : List Int} (h : pre2 A B) : A.length ≤ pofN A B ∧ pofN A B ≤ 16 := by
  obtain ⟨hA, hB, hl⟩ := id h
  unfold pofN
  split
  · omega
  · have h1 := dn_low hB 0 (by omega)
    have h2 := (dnB_iff 16 B).1 hB 0 (by omega)
    omega
theorem pof_pos {A B : List Int} (h : pre2 A B) {j : Nat} (hj : j < pofN A B) : 1 ≤ pofG A B j ∧ pofG A B j ≤ 32 := by
  obtain ⟨hA, hB, hl⟩ := id h
  have hN := pofN_ge h
  unfold pofG
  split
  · rename_i hj2
    have := (dnB_iff 16 A).1 hA j hj2
    omega
  · rename_i hj2
    unfold pofN at hj
    split at hj
    · omega
    · have h1 := leg_pos (B := B) (by omega) (j := j) (by omega)
      have h2 := leg_le B j
      omega
theorem pof_fall {A B : List Int} (h : pre2 A B) {j : Nat} (hj : j + 1 < pofN A B) : pofG A B (j + 1) ≤ pofG A B j := by
  obtain ⟨hA, hB, hl⟩ := id h
  unfold pofG
  by_cases h1 : j + 1 < A.length
  · rw [if_pos h1, if_pos (by omega)]
    have := dn_gap hA (j + 1) j (by omega) h1
    omega
  · rw [if_neg h1]
    by_cases h2 : j < A.length
    · rw [if_pos h2]
      have := (dnB_iff 16 A).1 hA j h2
      have h3 := leg_le B (j + 1)
      omega
    · rw [if_neg h2]
      have := leg_anti B (show j ≤ j + 1 by omega)
      omega
/-- what row i of the diagonal gives to row j -/
def ctr (A B : List Int) (i j : Nat) : Int := (if j = i then 1 + A.getD i 0 else 0) + (if i + 1 ≤ j ∧ (j : Int) ≤ i + B.getD i 0 then 1 else 0)
def fro (A B : List Int) : Nat → Nat → Int
  | 0, _ => 0
  | n + 1, j => fro A B n j + ctr A B n j
/-- the program's diagram, when n rows of the diagonal are done, the arm of the next (t) and k cells of its leg -/
def fmid (A B : List Int) (n : Nat) (t : Bool) (k : Nat) : List Int := (List.range 16).map fun j => fro A B n j + (if t = true ∧ j = n then 1 + A.getD n 0 else 0) + (if n + 1 ≤ j ∧ j < n + 1 + k then 1 else 0)
theorem fmid_len (A B : List Int) (n : Nat) (t : Bool) (k : Nat) : (fmid A B n t k).length = 16 := by simp [fmid]
theorem fmid_get (A B : List Int) (n : Nat) (t : Bool) (k j : Nat) (h : j < (fmid A B n t k).length) : (fmid A B n t k)[j] = fro A B n j + (if t = true ∧ j = n then 1 + A.getD n 0 else 0) + (if n + 1 ≤ j ∧ j < n + 1 + k then 1 else 0) := by simp [fmid]
theorem fmid_zero (A B : List Int) : fmid A B 0 false 0 = List.replicate 16 0 := by
  apply List.ext_getElem
  · rw [fmid_len]; rfl
  · intro j h1 h2
    rw [fmid_get, List.getElem_replicate]
    simp [fro]
    omega
theorem fmid_arm (A B : List Int) (n : Nat) : (fmid A B n false 0).set n (fro A B n n + (1 + A.getD n 0)) = fmid A B n true 0 := by
  apply List.ext_getElem
  · rw [List.length_set, fmid_len, fmid_len]
  · intro j h1 h2
    by_cases hj : n = j
    · subst hj
      rw [List.getElem_set_self, fmid_get, if_pos ⟨rfl, rfl⟩, if_neg (show ¬ (n + 1 ≤ n ∧ n < n + 1 + 0) by omega)]
      omega
    · rw [List.getElem_set_ne hj, fmid_get, fmid_get]
      have : ¬ j = n := fun e => hj e.symm
      simp [this]
theorem fmid_leg (A B : List Int) (n k : Nat) : (fmid A B n true k).set (n + 1 + k) (fro A B n (n + 1 + k) + 1) = fmid A B n true (k + 1) := by
  apply List.ext_getElem
  · rw [List.length_set, fmid_len, fmid_len]
  · intro j h1 h2
    by_cases hj : n + 1 + k = j
    · subst hj
      rw [List.getElem_set_self, fmid_get, if_neg (by omega), if_pos (by omega)]
      omega
    · rw [List.getElem_set_ne hj, fmid_get, fmid_get]
      congr 1
      by_cases h3 : n + 1 ≤ j ∧ j < n + 1 + k
      · rw [if_pos h3, if_pos (by omega)]
      · rw [if_neg h3, if_neg (by omega)]
theorem fmid_next (A B : List Int) (n k : Nat) (hk : (k : Int) = B.getD n 0) : fmid A B n true k = fmid A B (n + 1) false 0 := by
  apply List.ext_getElem
  · rw [fmid_len, fmid_len]
  · intro j h1 h2
    rw [fmid_get, fmid_get]
    simp only [fro, ctr, true_and, Bool.false_eq_true, false_and, if_false]
    rw [if_neg (by omega : ¬ (n + 1 + 1 ≤ j ∧ j < n + 1 + 1 + 0))]
    (repeat' split) <;> omega
theorem fro_eq (A B : List Int) (j : Nat) : ∀ n, fro A B n j = (if j < n then 1 + A.getD j 0 else 0) + (nb (fun i => decide (i + 1 ≤ j) && decide ((j : Int) ≤ i + B.getD i 0)) n : Nat) := by
  intro n
  induction n with
  | zero => rfl
  | succ n ih =>
    rw [fro, ih, ctr, nb]
    have e : (if n + 1 ≤ j ∧ (j : Int) ≤ n + B.getD n 0 then (1 : Int) else 0) = (((if (decide (n + 1 ≤ j) && decide ((j : Int) ≤ n + B.getD n 0)) = true then 1 else 0 : Nat)) : Int) := by
      by_cases hc : n + 1 ≤ j ∧ (j : Int) ≤ n + B.getD n 0
      · rw [if_pos hc, if_pos (by rw [decide_eq_true hc.1, decide_eq_true hc.2]; rfl)]; rfl
      · rw [if_neg hc, if_neg (by intro hq; rw [Bool.and_eq_true, decide_eq_true_eq, decide_eq_true_eq] at hq; exact hc hq)]; rfl
    rw [e]
    by_cases h1 : j = n
    · subst h1
      rw [if_pos rfl, if_neg (show ¬ j < j by omega), if_pos (show j < j + 1 by omega)]
      omega
    · rw [if_neg h1]
      by_cases h2 : j < n
      · rw [if_pos h2, if_pos (show j < n + 1 by omega)]; omega
      · rw [if_neg h2, if_neg (show ¬ j < n + 1 by omega)]; omega
theorem fro_bd {A B : List Int} (hA : dnB 16 A = true) {n j : Nat} (hn : n ≤ A.length) (hn16 : n ≤ 16) : 0 ≤ fro A B n j ∧ fro A B n j ≤ 40 := by
  rw [fro_eq]
  have := nb_le (fun i => decide (i + 1 ≤ j) && decide ((j : Int) ≤ i + B.getD i 0)) n
  split
  · rename_i h
    have := (dnB_iff 16 A).1 hA j (by omega)
    omega
  · omega
theorem fro_end {A B : List Int} (h : pre2 A B) (j : Nat) : fro A B A.length j = if j < pofN A B then pofG A B j else 0 := by
  obtain ⟨hA, hB, hl⟩ := id h
  have hN := pofN_ge h
  rw [fro_eq]
  by_cases h1 : j < A.length
  · rw [if_pos h1, if_pos (by omega), pofG, if_pos h1]
    have : nb (fun i => decide (i + 1 ≤ j) && decide ((j : Int) ≤ i + B.getD i 0)) A.length = min A.length j := nb_to _ fun i hi => by
      have := dn_low hB i (by omega)
      rw [Bool.and_eq_true, decide_eq_true_eq, decide_eq_true_eq]
      omega
    rw [this]
    omega
  · rw [if_neg h1]
    have e : nb (fun i => decide (i + 1 ≤ j) && decide ((j : Int) ≤ i + B.getD i 0)) A.length = leg B j := by
      unfold leg
      rw [← hl]
      have : ∀ n, n ≤ A.length → nb (fun i => decide (i + 1 ≤ j) && decide ((j : Int) ≤ i + B.getD i 0)) n = nb (fun i => decide ((j : Int) ≤ B.getD i 0 + i)) n := by
        intro n
        induction n with
        | zero => intro _; rfl
        | succ n ih =>
          intro hn
          rw [nb, nb, ih (by omega)]
          congr 1
          rw [decide_eq_true (by omega : n + 1 ≤ j), Bool.true_and, Int.add_comm]
      exact this _ (Nat.le_refl _)
    rw [e]
    by_cases h2 : j < pofN A B
    · rw [if_pos h2, pofG, if_neg h1]; omega
    · rw [if_neg h2]
      unfold pofN at h2
      split at h2
      · rename_i h0
        unfold leg
        rw [← hl, h0]
        rfl
      · have h5 := (dnB_iff 16 B).1 hB 0 (by omega)
        rw [leg_zero hB (by omega)]; omega
theorem fmid_end {A B : List Int} (h : pre2 A B) : fmid A B A.length false 0 = pad (pof A B) := by
  have hN := pofN_ge h
  have hl : (pof A B).length ≤ 16 := by rw [pof_len]; exact hN.2
  apply List.ext_getElem
  · rw [fmid_len, pad_len hl]
  · intro j h1 h2
    rw [fmid_get]
    have e := pad_getD hl j
    rw [getD_lt h2, pof_getD] at e
    rw [e, fro_end h]
    simp
    omega
/-- the sum of the program's diagram -/
theorem sumTo_ctr (A B : List Int) (i : Nat) (hi : i < 16) (hA : 0 ≤ B.getD i 0) (hB : i + B.getD i 0 ≤ 15) : ∀ n, (n : Nat) ≤ 16 → sumTo ((List.range 16).map fun j => ctr A B i j) n = (if i < n then 1 + A.getD i 0 else 0) + (if (n : Int) ≤ i + 1 then 0 else if (n : Int) ≤ i + 1 + B.getD i 0 then (n : Int) - (i + 1) else B.getD i 0) := by
  intro n
  induction n with
  | zero => intro _; simp [sumTo]; omega
  | succ n ih =>
    intro hn
    have e : ((List.range 16).map fun j => ctr A B i j).getD n 0 = ctr A B i n := by rw [getD_lt (by simp; omega)]; simp
    rw [sumTo, ih (by omega), e, ctr]
    (repeat' split) <;> omega
theorem sumTo_fro (A B : List Int) (m : Nat) : ∀ d, sumTo ((List.range 16).map fun j => fro A B (d + 1) j) m = sumTo ((List.range 16).map fun j => fro A B d j) m + sumTo ((List.range 16).map fun j => ctr A B d j) m := by
  intro d
  induction m with
  | zero => rfl
  | succ m ih =>
    rw [sumTo, sumTo, sumTo, ih]
    have e : ∀ (f : Nat → Int), ((List.range 16).map f).getD m 0 = if m < 16 then f m else 0 := fun f => by
      by_cases h : m < 16
      · rw [getD_lt (by simp; exact h), if_pos h]; simp
      · rw [getD_ge (by simp; omega), if_neg h]
    rw [e, e, e]
    split
    · rw [fro]; omega
    · omega
theorem pof_sum {A B : List Int} (h : pre2 A B) : sumL (pof A B) = sumL A + sumL B + A.length := by
  obtain ⟨hA, hB, hl⟩ := id h
  have hN := pofN_ge h
  have key : ∀ d, d ≤ A.length → sumTo ((List.range 16).map fun j => fro A B d j) 16 = sumTo A d + sumTo B d + d := by
    intro d
    induction d with
    | zero =>
      intro _
      have : ∀ n, sumTo ((List.range 16).map fun j => fro A B 0 j) n = 0 := by
        intro n
        induction n with
        | zero => rfl
        | succ n ih =>
          rw [sumTo, ih]
          rcases Nat.lt_or_ge n 16 with h | h
          · rw [getD_lt (by simp; exact h)]; simp [fro]
          · rw [getD_ge (by simp; omega)]; rfl
      rw [this]; rfl
    | succ d ih =>
      intro hd
      have h1 := (dnB_iff 16 B).1 hB d (by omega)
      have h2 := dn_gap hB d 0 (by omega) (by omega)
      have h3 := (dnB_iff 16 B).1 hB 0 (by omega)
      rw [sumTo_fro, ih (by omega), sumTo_ctr A B d (by omega) h1.1 (by omega) 16 (Nat.le_refl _), sumTo, sumTo]
      (repeat' split) <;> omega
  have e := key A.length (Nat.le_refl _)
  rw [sumTo_all A _ (Nat.le_refl _), sumTo_all B _ (by omega)] at e
  have e2 : ((List.range 16).map fun j => fro A B A.length j) = pad (pof A B) := by
    rw [← fmid_end h]
    unfold fmid
    apply List.map_congr_left
    intro j _
    simp
    omega
  rw [e2] at e
  have hl2 : (pof A B).length ≤ 16 := by rw [pof_len]; exact hN.2
  have e3 : sumTo (pad (pof A B)) 16 = sumTo (pof A B) 16 := by
    have : ∀ n, sumTo (pad (pof A B)) n = sumTo (pof A B) n := by
      intro n
      induction n with
      | zero => rfl
      | succ n ih => rw [sumTo, sumTo, ih, pad_getD hl2]
    exact this 16
  rw [e3, sumTo_all _ 16 hl2] at e
  exact e
theorem valid_pof {A B : List Int} (h0 : pofOk A B = true) : valid (pof A B) = true := by
  have h := pofOk_pre h0
  have hN := pofN_ge h
  have hs := pof_sum h
  have ho := (pofOk_out h0).2.2.2
  apply valid_of_preS _ (by omega)
  have hge : ∀ x ∈ pof A B, 0 ≤ x := fun x hx => by
    obtain ⟨k, hk, rfl⟩ := List.getElem_of_mem hx
    rw [← getD_lt hk, pof_getD]
    split
    · rename_i h1; have := pof_pos h h1; omega
    · omega
  intro j hj _
  have hj2 : j < pofN A B := by rw [pof_len] at hj; exact hj
  have hb := (elem_le_sum hge hj).1
  have e : (pof A B)[j] = pofG A B j := by rw [← getD_lt hj, pof_getD, if_pos hj2]
  have hp := pof_pos h hj2
  refine ⟨by omega, by omega, fun hj0 => ?_⟩
  have e2 : (pof A B)[j - 1]'(by omega) = pofG A B (j - 1) := by rw [← getD_lt (by omega), pof_getD, if_pos (by omega)]
  have := pof_fall h (j := j - 1) (by omega)
  rw [show j - 1 + 1 = j by omega] at this
  omega
def pofF (A B : List Int) : List Int := if pofOk A B then pof A B else []
theorem pofF_yes {A B : List Int} (h : pofOk A B = true) : pofF A B = pof A B := by simp [pofF, h]
theorem pofF_no {A B : List Int} (h : pofOk A B = false) : pofF A B = [] := by simp [pofF, h]
theorem pofF_len (A B : List Int) : (pofF A B).length ≤ 16 := by
  unfold pofF
  split
  · rename_i h; rw [pof_len]; exact (pofN_ge (pofOk_pre h)).2
  · simp
theorem conj_getD' {L : List Int} (h : valid L = true) (j : Nat) : (conj L).getD j 0 = cnt ((j : Int) + 1) L := by
  rcases Nat.lt_or_ge j (conj L).length with h1 | h1
  · rw [getD_lt h1, conj_get]
  · rw [getD_ge h1]
    rw [conj_len] at h1
    exact (cnt_none fun x hx => by have := head_ge h x hx; omega).symm
theorem dur_lt {L : List Int} {i : Nat} (h : i < durS L) : (i : Int) < L.getD i 0 := (durS_spec L).2.1 i h
theorem froA_dn {L : List Int} (hv : valid L = true) : dnB 16 (froA L) = true := by
  rw [dnB_iff]
  intro i hi
  unfold froA at hi ⊢
  rw [armsTo_len] at hi
  rw [armsTo_getD _ _ _ hi]
  have h1 := dur_lt hi
  have h2 := getD_nn hv i
  refine ⟨by omega, by omega, fun h0 => ?_⟩
  rw [armsTo_getD _ _ _ (by omega)]
  have := getD_fall hv i h0
  omega
theorem froA_conj {L : List Int} (hv : valid L = true) : froA (conj L) = froB L := by unfold froA froB; rw [durS_conj hv]
theorem froB_conj {L : List Int} (hv : valid L = true) : froB (conj L) = froA L := by unfold froA froB; rw [durS_conj hv, conj_conj hv]
theorem fro_pre {L : List Int} (hv : valid L = true) : pre2 (froA L) (froB L) :=
  ⟨froA_dn hv, by rw [← froA_conj hv]; exact froA_dn (valid_conj hv), by unfold froA froB; rw [armsTo_len, armsTo_len]⟩
theorem pof_fro {L : List Int} (hv : valid L = true) : pof (froA L) (froB L) = L := by
  have hA : (froA L).length = durS L := armsTo_len _ _
  have hB : (froB L).length = durS L := armsTo_len _ _
  have hds := durS_spec L
  have hlen : pofN (froA L) (froB L) = L.length := by
    unfold pofN
    rw [hA]
    have h0 := durS_pos hv
    split
    · omega
    · unfold froB
      rw [armsTo_getD _ _ _ (by omega)]
      have hc := head_conj hv
      have e : (conj L).getD 0 0 = (conj L).headD 0 := by cases conj L <;> rfl
      rw [e]
      have := headD_bd (valid_conj hv)
      omega
  apply List.ext_getElem
  · rw [pof_len, hlen]
  · intro j h1 h2
    rw [← getD_lt h1, ← getD_lt h2, pof_getD, if_pos (by omega), pofG, hA]
    by_cases hj : j < durS L
    · rw [if_pos hj]
      unfold froA
      rw [armsTo_getD _ _ _ hj]
      omega
    · rw [if_neg hj]
      have hle : L.getD j 0 ≤ durS L := by
        have h3 : L.getD j 0 ≤ L.getD (durS L) 0 := by
          rw [getD_lt h2, getD_lt (by omega)]
          exact falls_all hv j (durS L) h2 (by omega)
        have := hds.2.2
        omega
      have hnn := getD_nn hv j
      have : leg (froB L) j = min (durS L) (L.getD j 0).toNat := by
        unfold leg
        rw [hB]
        refine nb_to _ fun i hi => ?_
        have e : (froB L).getD i 0 = (conj L).getD i 0 - ((i : Int) + 1) := by unfold froB; exact armsTo_getD _ _ _ hi
        rw [decide_eq_true_eq, e, conj_getD' hv]
        have := cnt_ge_iff hv h2 ((i : Int) + 1)
        rw [getD_lt h2] at hnn ⊢
        omega
      rw [this]
      omega
theorem pofOk_fro {L : List Int} (hv : valid L = true) : pofOk (froA L) (froB L) = true := by
  have hp := fro_pre hv
  have hs := pof_sum hp
  rw [pof_fro hv] at hs
  have := (valid_bd hv).2.1
  unfold pofOk
  rw [hp.1, hp.2.1, decide_eq_true hp.2.2, decide_eq_true (by omega)]
  rfl
end NP
end Go.Proofs.Ythafbdpeignccaa
namespace Go.Proofs.Ythafbdpeignccaa
namespace NP
set_option linter.unusedVariables false
theorem nb_ge {q : Nat → Bool} {m : Nat} (n : Nat) (hm : m ≤ n) (h : ∀ i, i < m → q i = true) : m ≤ nb q n := by
  induction n with
  | zero => omega
  | succ n ih =>
    simp only [nb]
    rcases Nat.lt_or_ge n m with h1 | h1
    · have e := nb_all (q := q) n fun i hi => h i (by omega)
      rw [e, if_pos (h n h1)]; omega
    · have := ih h1
      omega
theorem nb_few {q : Nat → Bool} {m : Nat} (n : Nat) (h : ∀ i, i < n → q i = true → i < m) : nb q n ≤ m := by
  have key : nb q n ≤ nb (fun i => decide (i < m)) n := nb_mono n fun i hi hq => decide_eq_true (h i hi hq)
  have e : nb (fun i => decide (i < m)) n = min n m := nb_to n fun i _ => by simp
  omega
theorem pof_dur {A B : List Int} (h : pofOk A B = true) : durS (pof A B) = A.length := by
  have hp := pofOk_pre h
  have hN := pofN_ge hp
  refine durS_unique (fun j hj => ?_) ?_
  · rw [pof_getD, if_pos (by omega), pofG, if_pos hj]
    have := (dnB_iff 16 A).1 hp.1 j hj
    omega
  · rw [pof_getD]
    split
    · rw [pofG, if_neg (by omega)]
      have := leg_le B A.length
      have := hp.2.2
      omega
    · omega
theorem froA_pof {A B : List Int} (h : pofOk A B = true) : froA (pof A B) = A := by
  have hp := pofOk_pre h
  have hN := pofN_ge hp
  unfold froA
  rw [pof_dur h]
  apply List.ext_getElem
  · rw [armsTo_len]
  · intro j h1 h2
    rw [← getD_lt h1, ← getD_lt h2, armsTo_getD _ _ _ h2, pof_getD, if_pos (by omega), pofG, if_pos h2]
    omega
theorem cnt_pof {A B : List Int} (h : pofOk A B = true) {i : Nat} (hi : i < A.length) : cnt ((i : Int) + 1) (pof A B) = B.getD i 0 + i + 1 := by
  have hp := pofOk_pre h
  have hN := pofN_ge hp
  have hv := valid_pof h
  have hl := hp.2.2
  have hb := (dnB_iff 16 B).1 hp.2.1 i (by omega)
  have hlow := dn_low hp.2.1 i (by omega)
  have hgap := dn_gap hp.2.1 i 0 (by omega) (by omega)
  have hb0 := (dnB_iff 16 B).1 hp.2.1 0 (by omega)
  have hNe : (pofN A B : Int) = B.getD 0 0 + 1 := by unfold pofN; rw [if_neg (by omega)]; omega
  obtain ⟨m, hm⟩ : ∃ m : Nat, (m : Int) = B.getD i 0 + i + 1 := ⟨(B.getD i 0 + i + 1).toNat, by omega⟩
  have hmN : m ≤ pofN A B := by omega
  have hlen := pof_len A B
  have lo : (m : Int) ≤ cnt ((i : Int) + 1) (pof A B) := by
    have h1 : m - 1 < (pof A B).length := by omega
    have h2 := (cnt_ge_iff hv h1 ((i : Int) + 1)).2 (by
      rw [← getD_lt h1, pof_getD, if_pos (by omega), pofG]
      split
      · have := dn_low hp.1 (m - 1) (by omega)
        omega
      · have : i + 1 ≤ leg B (m - 1) := nb_ge _ (by omega) fun i' hi' => decide_eq_true (by
          have := dn_gap hp.2.1 i i' (by omega) (by omega)
          omega)
        omega)
    omega
  have hi' : cnt ((i : Int) + 1) (pof A B) ≤ m := by
    rcases Nat.lt_or_ge m (pofN A B) with h1 | h1
    · have h2 : m < (pof A B).length := by omega
      have h3 := cnt_ge_iff hv h2 ((i : Int) + 1)
      have h4 : ¬ ((i : Int) + 1 ≤ (pof A B)[m]) := by
        rw [← getD_lt h2, pof_getD, if_pos h1, pofG, if_neg (by omega)]
        have : leg B m ≤ i := nb_few _ fun i' hi' hq => by
          have hq' := of_decide_eq_true hq
          rcases Nat.lt_or_ge i' i with h5 | h5
          · exact h5
          · have := dn_gap hp.2.1 i' i h5 hi'
            omega
        omega
      have : ¬ ((m : Int) + 1 ≤ cnt ((i : Int) + 1) (pof A B)) := fun hc => h4 (h3.1 hc)
      omega
    · have := (cnt_bd ((i : Int) + 1) (pof A B)).2
      omega
  omega
theorem froB_pof {A B : List Int} (h : pofOk A B = true) : froB (pof A B) = B := by
  have hp := pofOk_pre h
  unfold froB
  rw [pof_dur h]
  apply List.ext_getElem
  · rw [armsTo_len]; exact hp.2.2
  · intro j h1 h2
    have hj : j < A.length := by rw [armsTo_len] at h1; exact h1
    rw [← getD_lt h1, ← getD_lt h2, armsTo_getD _ _ _ hj, conj_getD' (valid_pof h), cnt_pof h hj]
    omega
end NP
end Go.Proofs.Ythafbdpeignccaa
namespace Go.Proofs.Ythafbdpeignccaa
namespace NP
set_option linter.unusedVariables false
def allTo (p : Nat → Bool) (n : Nat) : Bool := (List.range n).all p
theorem allTo_iff (p : Nat → Bool) (n : Nat) : allTo p n = true ↔ ∀ j, j < n → p j = true := by simp [allTo]
theorem allTo_no {p : Nat → Bool} {n j : Nat} (hj : j < n) (h : p j = false) : allTo p n = false := by
  cases e : allTo p n with
  | false => rfl
  | true => rw [(allTo_iff p n).1 e j hj] at h; exact h
theorem allTo_yes {p : Nat → Bool} {n : Nat} (h : ∀ j, j < n → p j = true) : allTo p n = true := (allTo_iff p n).2 h

def kRem (m r : Int) (L : List Int) : Bool := allTo (fun j => L.getD j 0 % m == r || L.getD j 0 % m == m - r) L.length
def kFall (s t : Int) (L : List Int) : Bool := allTo (fun j => decide ((if L.getD j 0 % 3 = 0 then t else s) ≤ L.getD j 0 - L.getD (j + 1) 0)) (L.length - 1)
def kSelf (L : List Int) : Bool := decide (L = conj L)
def kNoOne (L : List Int) : Bool := allTo (fun j => decide (L.getD j 0 ≠ 1)) L.length
def kNone (m : Nat) (L : List Int) : Bool := allTo (fun j => decide (L.getD j 0 ≠ L.getD (j + (m - 1)) 0)) (L.length - (m - 1))

/-- a stair -/
def stairs (s : Nat) : List Int := (List.range s).map fun (i : Nat) => (s : Int) - (i : Int)
theorem stairs_len (s : Nat) : (stairs s).length = s := by simp [stairs]
theorem stairs_getD (s i : Nat) : (stairs s).getD i 0 = if i < s then (s : Int) - (i : Int) else 0 := by
  unfold stairs
  rw [List.getD_eq_getElem?_getD, List.getElem?_map]
  by_cases h : i < s
  · rw [List.getElem?_range h, if_pos h]; rfl
  · rw [List.getElem?_eq_none (by simp; omega), if_neg h]; rfl
theorem stairs_sum {s : Nat} (h : s ≤ 16) : sumL (stairs s) = (s : Int) * ((s : Int) + 1) / 2 := by
  have : ∀ s : Nat, s < 17 → sumL (stairs s) = (s : Int) * ((s : Int) + 1) / 2 := by decide +kernel
  exact this s (by omega)
theorem stairs_mul {s : Nat} (h : s ≤ 16) : 0 ≤ (s : Int) * ((s : Int) + 1) ∧ (s : Int) * ((s : Int) + 1) ≤ 272 := by
  have : ∀ s : Nat, s < 17 → 0 ≤ (s : Int) * ((s : Int) + 1) ∧ (s : Int) * ((s : Int) + 1) ≤ 272 := by decide +kernel
  exact this s (by omega)
theorem stairs_five {s : Nat} (h : s ≤ 16) (h2 : (s : Int) * ((s : Int) + 1) / 2 ≤ 16) : s ≤ 5 := by
  have : ∀ s : Nat, s < 17 → (s : Int) * ((s : Int) + 1) / 2 ≤ 16 → s ≤ 5 := by decide +kernel
  exact this s (by omega) h2
theorem stairs_valid {s : Nat} (h : s ≤ 5) : valid (stairs s) = true := by
  have : ∀ s : Nat, s < 6 → valid (stairs s) = true := by decide +kernel
  exact this s (by omega)
def stOk (P : List Int) (k : Int) : Bool := valid P && decide ((P.length : Int) ≤ k) && decide (k ≤ 16) && decide (sumL P + k * (k + 1) / 2 ≤ 16)
def stPut (P : List Int) (k : Int) : List Int := adp P (stairs k.toNat)
def stPutF (P : List Int) (k : Int) : List Int := if stOk P k then stPut P k else []
theorem stPutF_yes {P : List Int} {k : Int} (h : stOk P k = true) : stPutF P k = stPut P k := by simp [stPutF, h]
theorem stPutF_no {P : List Int} {k : Int} (h : stOk P k = false) : stPutF P k = [] := by simp [stPutF, h]
theorem stOk_iff (P : List Int) (k : Int) : stOk P k = true ↔ valid P = true ∧ (P.length : Int) ≤ k ∧ k ≤ 16 ∧ sumL P + k * (k + 1) / 2 ≤ 16 := by
  unfold stOk; simp only [Bool.and_eq_true, decide_eq_true_eq, and_assoc]
theorem st_put {P : List Int} {s : Nat} (h : stOk P s = true) : s ≤ 5 ∧ two P (stairs s) = true ∧ valid (stPut P s) = true ∧ stPut P s = adp P (stairs s) := by
  obtain ⟨hv, hl, h16, hs⟩ := (stOk_iff _ _).1 h
  have hb := valid_bd hv
  have h5 : s ≤ 5 := stairs_five (by omega) (by omega)
  have ht : two P (stairs s) = true := by
    unfold two
    rw [hv, stairs_valid h5, stairs_sum (by omega)]
    simp only [Bool.and_self, Bool.true_and, decide_eq_true_eq]
    exact hs
  have he : stPut P s = adp P (stairs s) := by unfold stPut; rw [Int.toNat_natCast]
  exact ⟨h5, ht, he ▸ valid_adp ht, he⟩
theorem stPutF_len (P : List Int) (k : Int) : (stPutF P k).length ≤ 16 := by
  unfold stPutF
  split
  · rename_i h
    have h1 := (stOk_iff _ _).1 h
    obtain ⟨s, rfl⟩ := Int.eq_ofNat_of_zero_le (show 0 ≤ k by omega)
    exact (valid_bd (st_put h).2.2.1).2.2.2
  · simp

/-- what is left on a stair -/
def stT (L : List Int) (k : Nat) : List Int := ((List.range k).filter fun (i : Nat) => decide (0 < L.getD i 0 - ((L.length : Int) - (i : Int)))).map fun (i : Nat) => L.getD i 0 - ((L.length : Int) - (i : Int))
theorem stT_succ (L : List Int) (k : Nat) : stT L (k + 1) = stT L k ++ if 0 < L.getD k 0 - ((L.length : Int) - (k : Int)) then [L.getD k 0 - ((L.length : Int) - (k : Int))] else [] := by
  unfold stT
  rw [List.range_succ, List.filter_append, List.map_append]
  obtain ⟨f, hf⟩ : ∃ f : Nat → Int, ∀ i, L.getD i 0 - ((L.length : Int) - (i : Int)) = f i := ⟨_, fun _ => rfl⟩
  simp only [hf]
  congr 1
  by_cases h : 0 < f k <;> simp [h]
theorem stT_len (L : List Int) (k : Nat) : (stT L k).length ≤ k := by
  unfold stT
  rw [List.length_map]
  exact Nat.le_trans (List.length_filter_le _ _) (by simp)
def stCut (L : List Int) : List Int := stT L L.length
def stArr (L : List Int) : List Int := (List.range 16).map fun (j : Nat) => if j < L.length then L.getD j 0 - ((L.length : Int) - (j : Int)) else 0
def dis (L : List Int) : Bool := valid L && kFall 1 1 L
theorem dis_iff (L : List Int) : dis L = true ↔ valid L = true ∧ kFall 1 1 L = true := by unfold dis; simp
def stCutF (L : List Int) : List Int := if dis L then stCut L else []
theorem stCutF_yes {L : List Int} (h : dis L = true) : stCutF L = stCut L := by simp [stCutF, h]
theorem stCutF_no {L : List Int} (h : dis L = false) : stCutF L = [] := by simp [stCutF, h]
def stN (L : List Int) : Int := if dis L then (L.length : Int) else 0
theorem stN_yes {L : List Int} (h : dis L = true) : stN L = (L.length : Int) := by simp [stN, h]
theorem stN_no {L : List Int} (h : dis L = false) : stN L = 0 := by simp [stN, h]
def stTab (N : List Nat) : Bool :=
  let L := N.map Int.ofNat
  !kFall 1 1 L || valid (stCut L) && decide (pad (stCut L) = stArr L) && stOk (stCut L) L.length && decide (stPut (stCut L) L.length = L) && decide (L.length ≤ 5)
set_option maxRecDepth 100000 in
theorem stTab_all : all16.all stTab = true := by decide +kernel
theorem st_facts {L : List Int} (h : dis L = true) : valid (stCut L) = true ∧ pad (stCut L) = stArr L ∧ stOk (stCut L) L.length = true ∧ stPut (stCut L) L.length = L ∧ L.length ≤ 5 := by
  obtain ⟨hv, hk⟩ := (dis_iff L).1 h
  obtain ⟨N, hN, rfl⟩ := of_all stTab_all hv
  simp only [stTab, Bool.or_eq_true, Bool.and_eq_true, decide_eq_true_eq, hk, Bool.not_true, Bool.false_eq_true, false_or] at hN
  obtain ⟨⟨⟨⟨h1, h2⟩, h3⟩, h4⟩, h5⟩ := hN
  exact ⟨h1, h2, h3, h4, h5⟩
theorem stCutF_len (L : List Int) : (stCutF L).length ≤ 16 := by
  unfold stCutF
  split
  · rename_i h; exact (valid_bd (st_facts h).1).2.2.2
  · simp
def stTab2 (N : List Nat) : Bool :=
  let P := N.map Int.ofNat
  (List.range 6).all fun s => !stOk P s || dis (stPut P s) && decide (stCut (stPut P s) = P) && decide ((stPut P s).length = s)
set_option maxRecDepth 100000 in
theorem stTab2_all : all16.all stTab2 = true := by decide +kernel
theorem st_back {P : List Int} {s : Nat} (h : stOk P s = true) : dis (stPut P s) = true ∧ stCut (stPut P s) = P ∧ (stPut P s).length = s := by
  obtain ⟨hv, -, -, -⟩ := (stOk_iff _ _).1 h
  have h5 := (st_put h).1
  obtain ⟨N, hN, rfl⟩ := of_all stTab2_all hv
  have hs := List.all_eq_true.1 hN s (by simp; omega)
  simp only [Bool.or_eq_true, Bool.and_eq_true, decide_eq_true_eq, h, Bool.not_true, Bool.false_eq_true, false_or] at hs
  exact ⟨hs.1.1, hs.1.2, hs.2⟩

/-- hooks of the diagonal of own conjugates -/
def h2o (L : List Int) : List Int := (froA L).map fun a => a + 1 + a
def slf (L : List Int) : Bool := valid L && kSelf L
theorem slf_iff (L : List Int) : slf L = true ↔ valid L = true ∧ kSelf L = true := by unfold slf; simp
def h2oF (L : List Int) : List Int := if slf L then h2o L else []
theorem h2oF_yes {L : List Int} (h : slf L = true) : h2oF L = h2o L := by simp [h2oF, h]
theorem h2oF_no {L : List Int} (h : slf L = false) : h2oF L = [] := by simp [h2oF, h]
def halves (P : List Int) : List Int := P.map fun x => x / 2
def o2h (P : List Int) : List Int := pof (halves P) (halves P)
def dod (L : List Int) : Bool := valid L && (kRem 2 1 L && kFall 1 1 L)
theorem dod_iff (L : List Int) : dod L = true ↔ valid L = true ∧ kRem 2 1 L = true ∧ kFall 1 1 L = true := by unfold dod; simp
def o2hF (L : List Int) : List Int := if dod L then o2h L else []
theorem o2hF_yes {L : List Int} (h : dod L = true) : o2hF L = o2h L := by simp [o2hF, h]
theorem o2hF_no {L : List Int} (h : dod L = false) : o2hF L = [] := by simp [o2hF, h]
def hoTab (N : List Nat) : Bool :=
  let L := N.map Int.ofNat
  (!kSelf L || dod (h2o L) && decide (o2h (h2o L) = L) && decide ((h2o L).length = durS L) && decide (sumL (h2o L) = sumL L)) &&
  (!(kRem 2 1 L && kFall 1 1 L) || pofOk (halves L) (halves L) && slf (o2h L) && decide (h2o (o2h L) = L))
set_option maxRecDepth 100000 in
theorem hoTab_all : all16.all hoTab = true := by decide +kernel
theorem h2o_facts {L : List Int} (h : slf L = true) : dod (h2o L) = true ∧ o2h (h2o L) = L ∧ (h2o L).length = durS L ∧ sumL (h2o L) = sumL L := by
  obtain ⟨hv, hk⟩ := (slf_iff L).1 h
  obtain ⟨N, hN, rfl⟩ := of_all hoTab_all hv
  simp only [hoTab, Bool.or_eq_true, Bool.and_eq_true, decide_eq_true_eq, hk, Bool.not_true, Bool.false_eq_true, false_or] at hN
  exact ⟨hN.1.1.1.1, hN.1.1.1.2, hN.1.1.2, hN.1.2⟩
theorem o2h_facts {L : List Int} (h : dod L = true) : pofOk (halves L) (halves L) = true ∧ slf (o2h L) = true ∧ h2o (o2h L) = L := by
  obtain ⟨hv, hk1, hk2⟩ := (dod_iff L).1 h
  obtain ⟨N, hN, rfl⟩ := of_all hoTab_all hv
  simp only [hoTab, Bool.or_eq_true, Bool.and_eq_true, decide_eq_true_eq, hk1, hk2, Bool.and_self, Bool.not_true, Bool.false_eq_true, false_or] at hN
  exact ⟨hN.2.1.1, hN.2.1.2, hN.2.2⟩
theorem h2oF_len (L : List Int) : (h2oF L).length ≤ 16 := by
  unfold h2oF
  split
  · rename_i h; exact (valid_bd ((dod_iff _).1 (h2o_facts h).1).1).2.2.2
  · simp
theorem o2hF_len (L : List Int) : (o2hF L).length ≤ 16 := by
  unfold o2hF
  split
  · rename_i h; exact (valid_bd ((slf_iff _).1 (o2h_facts h).2.1).1).2.2.2
  · simp

/-- Franklin's map -/
def slp (L : List Int) : Nat := ff (fun n => decide (L.getD n 0 = L.getD 0 0 - (n : Int))) L.length
def lastP (L : List Int) : Int := L.getD (L.length - 1) 0
def frA (L : List Int) : List Int := (List.range (L.length - 1)).map fun (j : Nat) => L.getD j 0 + if (j : Int) < lastP L then 1 else 0
def frB (L : List Int) : List Int := ((List.range L.length).map fun (j : Nat) => L.getD j 0 - if j < slp L then 1 else 0) ++ [(slp L : Int)]
def fr (L : List Int) : List Int := if lastP L ≤ (slp L : Int) then frA L else frB L
def mayS (L : List Int) : Bool := decide (0 < L.length) && (decide (slp L < L.length) || (decide (lastP L ≠ (L.length : Int)) && decide (lastP L ≠ (L.length : Int) + 1)))
def frOk (L : List Int) : Bool := valid L && (kFall 1 1 L && mayS L)
theorem frOk_iff (L : List Int) : frOk L = true ↔ valid L = true ∧ kFall 1 1 L = true ∧ mayS L = true := by unfold frOk; simp
def frF (L : List Int) : List Int := if frOk L then fr L else []
theorem frF_yes {L : List Int} (h : frOk L = true) : frF L = fr L := by simp [frF, h]
theorem frF_no {L : List Int} (h : frOk L = false) : frF L = [] := by simp [frF, h]
def frTab (N : List Nat) : Bool :=
  let L := N.map Int.ofNat
  !(kFall 1 1 L && mayS L) || frOk (fr L) && decide (fr (fr L) = L) && decide (sumL (fr L) = sumL L) && (decide ((fr L).length = L.length + 1) || decide ((fr L).length + 1 = L.length)) &&
   decide (slp L ≤ L.length) && decide (1 ≤ lastP L) && decide (L.length ≤ 5) && (!decide (lastP L ≤ (slp L : Int)) || decide (lastP L ≤ (L.length : Int) - 1))
set_option maxRecDepth 100000 in
theorem frTab_all : all16.all frTab = true := by decide +kernel
theorem fr_facts {L : List Int} (h : frOk L = true) : frOk (fr L) = true ∧ fr (fr L) = L ∧ sumL (fr L) = sumL L ∧ ((fr L).length = L.length + 1 ∨ (fr L).length + 1 = L.length) ∧ slp L ≤ L.length ∧ 1 ≤ lastP L ∧ L.length ≤ 5 ∧ (lastP L ≤ (slp L : Int) → lastP L ≤ (L.length : Int) - 1) := by
  obtain ⟨hv, hk1, hk2⟩ := (frOk_iff L).1 h
  obtain ⟨N, hN, rfl⟩ := of_all frTab_all hv
  simp only [frTab, Bool.or_eq_true, Bool.and_eq_true, decide_eq_true_eq, hk1, hk2, Bool.and_self, Bool.not_true, Bool.false_eq_true, false_or] at hN
  obtain ⟨⟨⟨⟨⟨⟨⟨h1, h2⟩, h3⟩, h4⟩, h5⟩, h6⟩, h7⟩, h8⟩ := hN
  exact ⟨h1, h2, h3, h4, h5, h6, h7, fun hc => by simpa [hc] using h8⟩
theorem frF_len (L : List Int) : (frF L).length ≤ 16 := by
  unfold frF
  split
  · rename_i h; exact (valid_bd ((frOk_iff _).1 (fr_facts h).1).1).2.2.2
  · simp
end NP
end Go.Proofs.Ythafbdpeignccaa
namespace Go.Proofs.Ythafbdpeignccaa
open Go.RowKit NP
set_option linter.unusedVariables false
def beqZ : List Int → List Int → Bool
  | [], [] => true
  | x :: r, y :: q => if x = y then beqZ r q else false
  | _, _ => false
def fM (m : Int) (x y : Int) : Int × Int := (x % m, y + x / m)
def fS (m : Int) (x y : Int) : Int × Int := (x + y * m, 0)
/-- how often two numbers come, moved -/
def pstep (m : Nat) (f : Int → Int → Int × Int) (T : List Int) (k : Nat) : List Int := (T.set k (f (T.getD k 0) (T.getD (k * m) 0)).1).set (k * m) (f (T.getD k 0) (T.getD (k * m) 0)).2
def pass (m : Nat) (f : Int → Int → Int × Int) (T : List Int) : List Int := (List.range (16 / m)).foldl (fun T i => pstep m f T (i + 1)) T
def passN (m : Nat) (f : Int → Int → Int × Int) : Nat → List Int → List Int
  | 0, T => T
  | n + 1, T => passN m f n (pass m f T)
/-- the model's putting together: one number -/
def puStep (m : Nat) (out : List Int) (k : Nat) : List Int :=
  out.filter (fun x => x != (k : Int)) ++ List.replicate (out.countP (fun x => x == (k : Int)) / m) ((k * m : Nat) : Int) ++ List.replicate (out.countP (fun x => x == (k : Int)) % m) (k : Int)
def puF (m : Nat) (P : List Int) : List Int := mrg ((List.range (sumL P).toNat).foldl (fun out i => puStep m out (i + 1)) P)
/-- the model's taking apart: one part -/
def soG (m : Nat) : Nat → Nat → Nat → Nat × Nat
  | 0, x, n => (x, n)
  | f + 1, x, n => if x % m = 0 then soG m f (x / m) (n * m) else (x, n)
def soL (m : Nat) (x : Int) : List Int := List.replicate (soG m 5 x.toNat 1).2 ((soG m 5 x.toNat 1).1 : Int)
def soF (m : Nat) (P : List Int) : List Int := mrg (P.flatMap (soL m))
def noDiv (m : Nat) (P : List Int) : Bool := P.all fun x => x % (m : Int) != 0
def inR (T : List Int) : Bool := T.all fun x => decide (0 ≤ x) && decide (x ≤ 16)
/-- each tally on the way is of small numbers -/
def stOk (m : Nat) (f : Int → Int → Int × Int) : Nat → Nat → List Int → Bool
  | 0, _, T => inR T
  | n + 1, i, T => inR T && stOk m f n (i + 1) (pstep m f T (i + 1))
def passOk (m : Nat) (f : Int → Int → Int × Int) : Nat → List Int → Bool
  | 0, _ => true
  | n + 1, T => stOk m f (16 / m) 0 T && passOk m f n (pass m f T)
/-- what is put together: by the model, by the program; and taken apart again -/
def mt1 (m : Nat) (P : List Int) : Bool :=
  valid (puF m P) && beqZ (passN m (fM m) 1 (tlyL P)) (tlyL (puF m P)) && beqZ (pass m (fM m) (tlyL (puF m P))) (tlyL (puF m P)) && passOk m (fM m) 2 (tlyL P) && beqZ (soF m (puF m P)) P && kNone m (puF m P) && sumL (puF m P) == sumL P
def st1 (m : Nat) (P : List Int) : Bool :=
  valid (soF m P) && beqZ (passN m (fS m) 4 (tlyL P)) (tlyL (soF m P)) && beqZ (pass m (fS m) (tlyL (soF m P))) (tlyL (soF m P)) && passOk m (fS m) 5 (tlyL P) && beqZ (puF m (soF m P)) P && noDiv m (soF m P) && sumL (soF m P) == sumL P
end Go.Proofs.Ythafbdpeignccaa
