/-
  Plain mathematics of arms and legs (Frobenius). Plain mathematics: arms and legs of the parts that were made of them. Mathematics: kinds of parts; stairs, hooks of own conjugates, Franklin's map. Arrays of numbers compared. Walks of the program: kinds of parts. Walks: corners of the model and of the program. A row loaded under a guard that holds. Walks: cells taken away and put, of the model and of the program.
-/
import Derived.Test.YtcjnmconehfbgaaZBXP1
import Derived.Test.YtcjnmconehfbgaaZBXP2
import Derived.Test.YtcjnmconehfbgaaZBXP3
import Derived.Test.YtcjnmconehfbgaaZBXP4
import Derived.Test.YtcjnmconehfbgaaZBXP5
import Derived.Test.YtcjnmconehfbgaaZBXP6
import Derived.ChangeKeysEq
import Derived.Deep.MidRow
import Derived.Deep.RegionHeld3
import Derived.Deep.RegionLaw
import Derived.Deep.DrawnRows
import Derived.StillTailTactics
namespace Go.Proofs.Ytcjnmconehfbgaa
namespace NP
set_option linter.unusedVariables false
/-- arms of the first d places -/
def armsTo (L : List Int) (d : Nat) : List Int := (List.range d).map fun (i : Nat) => L.getD i 0 - ((i : Int) + 1)
theorem armsTo_len (L : List Int) (d : Nat) : (armsTo L d).length = d := by simp [armsTo]
theorem armsTo_succ (L : List Int) (d : Nat) : armsTo L (d + 1) = armsTo L d ++ [L.getD d 0 - ((d : Int) + 1)] := by
  unfold armsTo; rw [List.range_succ, List.map_append]; rfl
theorem armsTo_getD (L : List Int) (d i : Nat) (h : i < d) : (armsTo L d).getD i 0 = L.getD i 0 - ((i : Int) + 1) := by
  rw [getD_lt (by rw [armsTo_len]; exact h)]; simp [armsTo]
theorem armsTo_congr {L M : List Int} (h : ∀ i, L.getD i 0 = M.getD i 0) (d : Nat) : armsTo L d = armsTo M d := by
  unfold armsTo; exact List.map_congr_left fun i _ => by rw [h]
def froA (L : List Int) : List Int := armsTo L (durS L)
def froB (L : List Int) : List Int := armsTo (conj L) (durS L)
def froAF (L : List Int) : List Int := if valid L then froA L else []
def froBF (L : List Int) : List Int := if valid L then froB L else []
theorem froAF_yes {L : List Int} (h : valid L = true) : froAF L = froA L := by simp [froAF, h]
theorem froAF_no {L : List Int} (h : valid L = false) : froAF L = [] := by simp [froAF, h]
theorem froBF_yes {L : List Int} (h : valid L = true) : froBF L = froB L := by simp [froBF, h]
theorem froBF_no {L : List Int} (h : valid L = false) : froBF L = [] := by simp [froBF, h]
theorem durS_le {L : List Int} (h : valid L = true) : durS L ≤ 16 := Nat.le_trans (durS_spec L).1 (valid_bd h).2.2.2
theorem froAF_len (L : List Int) : (froAF L).length ≤ 16 := by
  unfold froAF
  split
  · rename_i h; unfold froA; rw [armsTo_len]; exact durS_le h
  · simp
theorem froBF_len (L : List Int) : (froBF L).length ≤ 16 := by
  unfold froBF
  split
  · rename_i h; unfold froB; rw [armsTo_len]; exact durS_le h
  · simp
/-- how many of the first n places q holds at -/
def nb (q : Nat → Bool) : Nat → Nat
  | 0 => 0
  | n + 1 => nb q n + if q n then 1 else 0
theorem nb_le (q : Nat → Bool) (n : Nat) : nb q n ≤ n := by
  induction n with
  | zero => exact Nat.le_refl _
  | succ n ih => simp only [nb]; split <;> omega
theorem nb_to {q : Nat → Bool} {m : Nat} (n : Nat) (h : ∀ i, i < n → (q i = true ↔ i < m)) : nb q n = min n m := by
  induction n with
  | zero => simp [nb]
  | succ n ih =>
    rw [nb, ih fun i hi => h i (by omega)]
    have := h n (by omega)
    split
    · rename_i hq; have := this.1 hq; omega
    · rename_i hq
      have : ¬ n < m := fun hc => hq (this.2 hc)
      omega
theorem nb_mono {q r : Nat → Bool} (n : Nat) (h : ∀ i, i < n → q i = true → r i = true) : nb q n ≤ nb r n := by
  induction n with
  | zero => exact Nat.le_refl _
  | succ n ih =>
    have h1 := ih fun i hi => h i (by omega)
    have h2 := h n (by omega)
    simp only [nb]
    split
    · rename_i hq; rw [if_pos (h2 hq)]; omega
    · split <;> omega
theorem nb_all {q : Nat → Bool} (n : Nat) (h : ∀ i, i < n → q i = true) : nb q n = n := by
  rw [nb_to (m := n) n fun i hi => ⟨fun _ => hi, fun _ => h i hi⟩]; omega
/-- strictly falling numbers of at least 0, all less than m -/
def dnB (m : Int) (A : List Int) : Bool := decide (∀ i, i < A.length → (0 ≤ A.getD i 0 ∧ A.getD i 0 < m ∧ (0 < i → A.getD i 0 < A.getD (i - 1) 0)))
theorem dnB_iff (m : Int) (A : List Int) : dnB m A = true ↔ ∀ i, i < A.length → (0 ≤ A.getD i 0 ∧ A.getD i 0 < m ∧ (0 < i → A.getD i 0 < A.getD (i - 1) 0)) := by simp [dnB]
theorem dnB_at {m : Int} {A : List Int} {i : Nat} (hi : i < A.length) (h : ¬ (0 ≤ A.getD i 0 ∧ A.getD i 0 < m ∧ (0 < i → A.getD i 0 < A.getD (i - 1) 0))) : dnB m A = false := by
  cases hd : dnB m A with
  | false => rfl
  | true => exact absurd ((dnB_iff m A).1 hd i hi) h
/-- those of the arms ahead are greater by their distance -/
theorem dn_gap {m : Int} {A : List Int} (h : dnB m A = true) : ∀ i j, j ≤ i → i < A.length → A.getD i 0 + ((i : Int) - j) ≤ A.getD j 0 := by
  intro i
  induction i with
  | zero => intro j hj hi; obtain rfl : j = 0 := (by omega); omega
  | succ i ih =>
    intro j hj hi
    rcases Nat.lt_or_ge j (i + 1) with h1 | h1
    · have h2 := ((dnB_iff m A).1 h (i + 1) hi).2.2 (by omega)
      simp only [Nat.add_sub_cancel] at h2
      have := ih j (by omega) (by omega)
      omega
    · obtain rfl : j = i + 1 := by omega
      omega
theorem dn_low {m : Int} {A : List Int} (h : dnB m A = true) (i : Nat) (hi : i < A.length) : (A.length : Int) - 1 - i ≤ A.getD i 0 := by
  have h1 := dn_gap h (A.length - 1) i (by omega) (by omega)
  have h2 := ((dnB_iff m A).1 h (A.length - 1) (by omega)).1
  omega
def pofOk (A B : List Int) : Bool := dnB 16 A && dnB 16 B && decide (A.length = B.length) && decide (sumL A + sumL B + (A.length : Int) ≤ 16)
/-- how many of the legs come down to row j -/
def leg (B : List Int) (j : Nat) : Nat := nb (fun i => decide ((j : Int) ≤ B.getD i 0 + i)) B.length
def pofG (A B : List Int) (j : Nat) : Int := if j < A.length then A.getD j 0 + j + 1 else leg B j
def pofN (A B : List Int) : Nat := if A.length = 0 then 0 else (B.getD 0 0 + 1).toNat
/-- the parts of arms and legs -/
def pof (A B : List Int) : List Int := (List.range (pofN A B)).map fun (j : Nat) => pofG A B j
theorem pof_len (A B : List Int) : (pof A B).length = pofN A B := by simp [pof]
theorem pof_getD (A B : List Int) (j : Nat) : (pof A B).getD j 0 = if j < pofN A B then pofG A B j else 0 := by
  by_cases h : j < pofN A B
  · rw [getD_lt (by rw [pof_len]; exact h), if_pos h]; simp [pof]
  · rw [getD_ge (by rw [pof_len]; omega), if_neg h]
theorem pofOk_out {A B : List Int} (h : pofOk A B = true) : dnB 16 A = true ∧ dnB 16 B = true ∧ A.length = B.length ∧ sumL A + sumL B + (A.length : Int) ≤ 16 := by
  unfold pofOk at h
  simp only [Bool.and_eq_true, decide_eq_true_eq] at h
  exact ⟨h.1.1.1, h.1.1.2, h.1.2, h.2⟩
def pre2 (A B : List Int) : Prop := dnB 16 A = true ∧ dnB 16 B = true ∧ A.length = B.length
theorem pofOk_pre {A B : List Int} (h : pofOk A B = true) : pre2 A B := ⟨(pofOk_out h).1, (pofOk_out h).2.1, (pofOk_out h).2.2.1⟩
theorem leg_anti (B : List Int) {j k : Nat} (h : j ≤ k) : leg B k ≤ leg B j := nb_mono _ fun i _ hi => by
  have := of_decide_eq_true hi
  exact decide_eq_true (by omega)
theorem leg_zero {B : List Int} (hB : dnB 16 B = true) {j : Nat} (h : B.getD 0 0 < j) : leg B j = 0 := by
  have : leg B j = min B.length 0 := nb_to _ fun i hi => ⟨fun hq => by
    have h1 := of_decide_eq_true hq
    have h2 := dn_gap hB i 0 (by omega) hi
    omega, fun hq => by omega⟩
  omega
theorem leg_le (B : List Int) (j : Nat) : leg B j ≤ B.length := nb_le _ _
theorem leg_pos {B : List Int} (h0 : 0 < B.length) {j : Nat} (h : (j : Int) ≤ B.getD 0 0) : 1 ≤ leg B j := by
  have e : nb (fun i => decide ((j : Int) ≤ B.getD i 0 + i)) 1 = 1 := by
    have e0 : (fun (i : Nat) => decide ((j : Int) ≤ B.getD i 0 + i)) 0 = true := decide_eq_true (by show (j : Int) ≤ B.getD 0 0 + ((0 : Nat) : Int); omega)
    show 0 + (if (fun (i : Nat) => decide ((j : Int) ≤ B.getD i 0 + i)) 0 = true then 1 else 0) = 1
    rw [if_pos e0]
  have : ∀ n, 1 ≤ n → 1 ≤ nb (fun i => decide ((j : Int) ≤ B.getD i 0 + i)) n := by
    intro n hn
    induction n with
    | zero => omega
    | succ n ih =>
      rcases Nat.eq_zero_or_pos n with h1 | h1
      · subst h1; exact Nat.le_of_eq e.symm
      · have := ih h1; simp only [nb]; split <;> omega
  exact this _ h0
theorem pofN_ge {A B : List Int} (h : pre2 A B) : A.length ≤ pofN A B ∧ pofN A B ≤ 16 := by
  obtain ⟨hA, hB, hl⟩ := id h
  unfold pofN
  split
  · omega
  · have h1 := dn_low hB 0 (by omega)
    have h2 := (dnB_iff 16 B).1 hB 0 (by omega)
    omega
theorem pof_pos {A B : List Int} (h : pre2 A B) {j : Nat} (hj : j < pofN A B) : 1 ≤ pofG A B j ∧ pofG A B j ≤ 32 := by
  obtain ⟨hA, hB, hl⟩ := id h
  have hN := pofN_ge h
  unfold pofG
  split
  · rename_i hj2
    have := (dnB_iff 16 A).1 hA j hj2
    omega
  · rename_i hj2
    unfold pofN at hj
    split at hj
    · omega
    · have h1 := leg_pos (B := B) (by omega) (j := j) (by omega)
      have h2 := leg_le B j
      omega
theorem pof_fall {A B : List Int} (h : pre2 A B) {j : Nat} (hj : j + 1 < pofN A B) : pofG A B (j + 1) ≤ pofG A B j := by
  obtain ⟨hA, hB, hl⟩ := id h
  unfold pofG
  by_cases h1 : j + 1 < A.length
  · rw [if_pos h1, if_pos (by omega)]
    have := dn_gap hA (j + 1) j (by omega) h1
    omega
  · rw [if_neg h1]
    by_cases h2 : j < A.length
    · rw [if_pos h2]
      have := (dnB_iff 16 A).1 hA j h2
      have h3 := leg_le B (j + 1)
      omega
    · rw [if_neg h2]
      have := leg_anti B (show j ≤ j + 1 by omega)
      omega
/-- what row i of the diagonal gives to row j -/
def ctr (A B : List Int) (i j : Nat) : Int := (if j = i then 1 + A.getD i 0 else 0) + (if i + 1 ≤ j ∧ (j : Int) ≤ i + B.getD i 0 then 1 else 0)
def fro (A B : List Int) : Nat → Nat → Int
  | 0, _ => 0
  | n + 1, j => fro A B n j + ctr A B n j
/-- the program's diagram, when n rows of the diagonal are done, the arm of the next (t) and k cells of its leg -/
def fmid (A B : List Int) (n : Nat) (t : Bool) (k : Nat) : List Int := (List.range 16).map fun j => fro A B n j + (if t = true ∧ j = n then 1 + A.getD n 0 else 0) + (if n + 1 ≤ j ∧ j < n + 1 + k then 1 else 0)
theorem fmid_len (A B : List Int) (n : Nat) (t : Bool) (k : Nat) : (fmid A B n t k).length = 16 := by simp [fmid]
theorem fmid_get (A B : List Int) (n : Nat) (t : Bool) (k j : Nat) (h : j < (fmid A B n t k).length) : (fmid A B n t k)[j] = fro A B n j + (if t = true ∧ j = n then 1 + A.getD n 0 else 0) + (if n + 1 ≤ j ∧ j < n + 1 + k then 1 else 0) := by simp [fmid]
theorem fmid_zero (A B : List Int) : fmid A B 0 false 0 = List.replicate 16 0 := by
  apply List.ext_getElem
  · rw [fmid_len]; rfl
  · intro j h1 h2
    rw [fmid_get, List.getElem_replicate]
    simp [fro]
    omega
theorem fmid_arm (A B : List Int) (n : Nat) : (fmid A B n false 0).set n (fro A B n n + (1 + A.getD n 0)) = fmid A B n true 0 := by
  apply List.ext_getElem
  · rw [List.length_set, fmid_len, fmid_len]
  · intro j h1 h2
    by_cases hj : n = j
    · subst hj
      rw [List.getElem_set_self, fmid_get, if_pos ⟨rfl, rfl⟩, if_neg (show ¬ (n + 1 ≤ n ∧ n < n + 1 + 0) by omega)]
      omega
    · rw [List.getElem_set_ne hj, fmid_get, fmid_get]
      have : ¬ j = n := fun e => hj e.symm
      simp [this]
theorem fmid_leg (A B : List Int) (n k : Nat) : (fmid A B n true k).set (n + 1 + k) (fro A B n (n + 1 + k) + 1) = fmid A B n true (k + 1) := by
  apply List.ext_getElem
  · rw [List.length_set, fmid_len, fmid_len]
  · intro j h1 h2
    by_cases hj : n + 1 + k = j
    · subst hj
      rw [List.getElem_set_self, fmid_get, if_neg (by omega), if_pos (by omega)]
      omega
    · rw [List.getElem_set_ne hj, fmid_get, fmid_get]
      congr 1
      by_cases h3 : n + 1 ≤ j ∧ j < n + 1 + k
      · rw [if_pos h3, if_pos (by omega)]
      · rw [if_neg h3, if_neg (by omega)]
theorem fmid_next (A B : List Int) (n k : Nat) (hk : (k : Int) = B.getD n 0) : fmid A B n true k = fmid A B (n + 1) false 0 := by
  apply List.ext_getElem
  · rw [fmid_len, fmid_len]
  · intro j h1 h2
    rw [fmid_get, fmid_get]
    simp only [fro, ctr, true_and, Bool.false_eq_true, false_and, if_false]
    rw [if_neg (by omega : ¬ (n + 1 + 1 ≤ j ∧ j < n + 1 + 1 + 0))]
    (repeat' split) <;> omega
theorem fro_eq (A B : List Int) (j : Nat) : ∀ n, fro A B n j = (if j < n then 1 + A.getD j 0 else 0) + (nb (fun i => decide (i + 1 ≤ j) && decide ((j : Int) ≤ i + B.getD i 0)) n : Nat) := by
  intro n
  induction n with
  | zero => rfl
  | succ n ih =>
    rw [fro, ih, ctr, nb]
    have e : (if n + 1 ≤ j ∧ (j : Int) ≤ n + B.getD n 0 then (1 : Int) else 0) = (((if (decide (n + 1 ≤ j) && decide ((j : Int) ≤ n + B.getD n 0)) = true then 1 else 0 : Nat)) : Int) := by
      by_cases hc : n + 1 ≤ j ∧ (j : Int) ≤ n + B.getD n 0
      · rw [if_pos hc, if_pos (by rw [decide_eq_true hc.1, decide_eq_true hc.2]; rfl)]; rfl
      · rw [if_neg hc, if_neg (by intro hq; rw [Bool.and_eq_true, decide_eq_true_eq, decide_eq_true_eq] at hq; exact hc hq)]; rfl
    rw [e]
    by_cases h1 : j = n
    · subst h1
      rw [if_pos rfl, if_neg (show ¬ j < j by omega), if_pos (show j < j + 1 by omega)]
      omega
    · rw [if_neg h1]
      by_cases h2 : j < n
      · rw [if_pos h2, if_pos (show j < n + 1 by omega)]; omega
      · rw [if_neg h2, if_neg (show ¬ j < n + 1 by omega)]; omega
theorem fro_bd {A B : List Int} (hA : dnB 16 A = true) {n j : Nat} (hn : n ≤ A.length) (hn16 : n ≤ 16) : 0 ≤ fro A B n j ∧ fro A B n j ≤ 40 := by
  rw [fro_eq]
  have := nb_le (fun i => decide (i + 1 ≤ j) && decide ((j : Int) ≤ i + B.getD i 0)) n
  split
  · rename_i h
    have := (dnB_iff 16 A).1 hA j (by omega)
    omega
  · omega
theorem fro_end {A B : List Int} (h : pre2 A B) (j : Nat) : fro A B A.length j = if j < pofN A B then pofG A B j else 0 := by
  obtain ⟨hA, hB, hl⟩ := id h
  have hN := pofN_ge h
  rw [fro_eq]
  by_cases h1 : j < A.length
  · rw [if_pos h1, if_pos (by omega), pofG, if_pos h1]
    have : nb (fun i => decide (i + 1 ≤ j) && decide ((j : Int) ≤ i + B.getD i 0)) A.length = min A.length j := nb_to _ fun i hi => by
      have := dn_low hB i (by omega)
      rw [Bool.and_eq_true, decide_eq_true_eq, decide_eq_true_eq]
      omega
    rw [this]
    omega
  · rw [if_neg h1]
    have e : nb (fun i => decide (i + 1 ≤ j) && decide ((j : Int) ≤ i + B.getD i 0)) A.length = leg B j := by
      unfold leg
      rw [← hl]
      have : ∀ n, n ≤ A.length → nb (fun i => decide (i + 1 ≤ j) && decide ((j : Int) ≤ i + B.getD i 0)) n = nb (fun i => decide ((j : Int) ≤ B.getD i 0 + i)) n := by
        intro n
        induction n with
        | zero => intro _; rfl
        | succ n ih =>
          intro hn
          rw [nb, nb, ih (by omega)]
          congr 1
          rw [decide_eq_true (by omega : n + 1 ≤ j), Bool.true_and, Int.add_comm]
      exact this _ (Nat.le_refl _)
    rw [e]
    by_cases h2 : j < pofN A B
    · rw [if_pos h2, pofG, if_neg h1]; omega
    · rw [if_neg h2]
      unfold pofN at h2
      split at h2
      · rename_i h0
        unfold leg
        rw [← hl, h0]
        rfl
      · have h5 := (dnB_iff 16 B).1 hB 0 (by omega)
        rw [leg_zero hB (by omega)]; omega
theorem fmid_end {A B : List Int} (h : pre2 A B) : fmid A B A.length false 0 = pad (pof A B) := by
  have hN := pofN_ge h
  have hl : (pof A B).length ≤ 16 := by rw [pof_len]; exact hN.2
  apply List.ext_getElem
  · rw [fmid_len, pad_len hl]
  · intro j h1 h2
    rw [fmid_get]
    have e := pad_getD hl j
    rw [getD_lt h2, pof_getD] at e
    rw [e, fro_end h]
    simp
    omega
/-- the sum of the program's diagram -/
theorem sumTo_ctr (A B : List Int) (i : Nat) (hi : i < 16) (hA : 0 ≤ B.getD i 0) (hB : i + B.getD i 0 ≤ 15) : ∀ n, (n : Nat) ≤ 16 → sumTo ((List.range 16).map fun j => ctr A B i j) n = (if i < n then 1 + A.getD i 0 else 0) + (if (n : Int) ≤ i + 1 then 0 else if (n : Int) ≤ i + 1 + B.getD i 0 then (n : Int) - (i + 1) else B.getD i 0) := by
  intro n
  induction n with
  | zero => intro _; simp [sumTo]; omega
  | succ n ih =>
    intro hn
    have e : ((List.range 16).map fun j => ctr A B i j).getD n 0 = ctr A B i n := by rw [getD_lt (by simp; omega)]; simp
    rw [sumTo, ih (by omega), e, ctr]
    (repeat' split) <;> omega
theorem sumTo_fro (A B : List Int) (m : Nat) : ∀ d, sumTo ((List.range 16).map fun j => fro A B (d + 1) j) m = sumTo ((List.range 16).map fun j => fro A B d j) m + sumTo ((List.range 16).map fun j => ctr A B d j) m := by
  intro d
  induction m with
  | zero => rfl
  | succ m ih =>
    rw [sumTo, sumTo, sumTo, ih]
    have e : ∀ (f : Nat → Int), ((List.range 16).map f).getD m 0 = if m < 16 then f m else 0 := fun f => by
      by_cases h : m < 16
      · rw [getD_lt (by simp; exact h), if_pos h]; simp
      · rw [getD_ge (by simp; omega), if_neg h]
    rw [e, e, e]
    split
    · rw [fro]; omega
    · omega
theorem pof_sum {A B : List Int} (h : pre2 A B) : sumL (pof A B) = sumL A + sumL B + A.length := by
  obtain ⟨hA, hB, hl⟩ := id h
  have hN := pofN_ge h
  have key : ∀ d, d ≤ A.length → sumTo ((List.range 16).map fun j => fro A B d j) 16 = sumTo A d + sumTo B d + d := by
    intro d
    induction d with
    | zero =>
      intro _
      have : ∀ n, sumTo ((List.range 16).map fun j => fro A B 0 j) n = 0 := by
        intro n
        induction n with
        | zero => rfl
        | succ n ih =>
          rw [sumTo, ih]
          rcases Nat.lt_or_ge n 16 with h | h
          · rw [getD_lt (by simp; exact h)]; simp [fro]
          · rw [getD_ge (by simp; omega)]; rfl
      rw [this]; rfl
    | succ d ih =>
      intro hd
      have h1 := (dnB_iff 16 B).1 hB d (by omega)
      have h2 := dn_gap hB d 0 (by omega) (by omega)
      have h3 := (dnB_iff 16 B).1 hB 0 (by omega)
      rw [sumTo_fro, ih (by omega), sumTo_ctr A B d (by omega) h1.1 (by omega) 16 (Nat.le_refl _), sumTo, sumTo]
      (repeat' split) <;> omega
  have e := key A.length (Nat.le_refl _)
  rw [sumTo_all A _ (Nat.le_refl _), sumTo_all B _ (by omega)] at e
  have e2 : ((List.range 16).map fun j => fro A B A.length j) = pad (pof A B) := by
    rw [← fmid_end h]
    unfold fmid
    apply List.map_congr_left
    intro j _
    simp
    omega
  rw [e2] at e
  have hl2 : (pof A B).length ≤ 16 := by rw [pof_len]; exact hN.2
  have e3 : sumTo (pad (pof A B)) 16 = sumTo (pof A B) 16 := by
    have : ∀ n, sumTo (pad (pof A B)) n = sumTo (pof A B) n := by
      intro n
      induction n with
      | zero => rfl
      | succ n ih => rw [sumTo, sumTo, ih, pad_getD hl2]
    exact this 16
  rw [e3, sumTo_all _ 16 hl2] at e
  exact e
theorem valid_pof {A B : List Int} (h0 : pofOk A B = true) : valid (pof A B) = true := by
  have h := pofOk_pre h0
  have hN := pofN_ge h
  have hs := pof_sum h
  have ho := (pofOk_out h0).2.2.2
  apply valid_of_preS _ (by omega)
  have hge : ∀ x ∈ pof A B, 0 ≤ x := fun x hx => by
    obtain ⟨k, hk, rfl⟩ := List.getElem_of_mem hx
    rw [← getD_lt hk, pof_getD]
    split
    · rename_i h1; have := pof_pos h h1; omega
    · omega
  intro j hj _
  have hj2 : j < pofN A B := by rw [pof_len] at hj; exact hj
  have hb := (elem_le_sum hge hj).1
  have e : (pof A B)[j] = pofG A B j := by rw [← getD_lt hj, pof_getD, if_pos hj2]
  have hp := pof_pos h hj2
  refine ⟨by omega, by omega, fun hj0 => ?_⟩
  have e2 : (pof A B)[j - 1]'(by omega) = pofG A B (j - 1) := by rw [← getD_lt (by omega), pof_getD, if_pos (by omega)]
  have := pof_fall h (j := j - 1) (by omega)
  rw [show j - 1 + 1 = j by omega] at this
  omega
def pofF (A B : List Int) : List Int := if pofOk A B then pof A B else []
theorem pofF_yes {A B : List Int} (h : pofOk A B = true) : pofF A B = pof A B := by simp [pofF, h]
theorem pofF_no {A B : List Int} (h : pofOk A B = false) : pofF A B = [] := by simp [pofF, h]
theorem pofF_len (A B : List Int) : (pofF A B).length ≤ 16 := by
  unfold pofF
  split
  · rename_i h; rw [pof_len]; exact (pofN_ge (pofOk_pre h)).2
  · simp
theorem conj_getD' {L : List Int} (h : valid L = true) (j : Nat) : (conj L).getD j 0 = cnt ((j : Int) + 1) L := by
  rcases Nat.lt_or_ge j (conj L).length with h1 | h1
  · rw [getD_lt h1, conj_get]
  · rw [getD_ge h1]
    rw [conj_len] at h1
    exact (cnt_none fun x hx => by have := head_ge h x hx; omega).symm
theorem dur_lt {L : List Int} {i : Nat} (h : i < durS L) : (i : Int) < L.getD i 0 := (durS_spec L).2.1 i h
theorem froA_dn {L : List Int} (hv : valid L = true) : dnB 16 (froA L) = true := by
  rw [dnB_iff]
  intro i hi
  unfold froA at hi ⊢
  rw [armsTo_len] at hi
  rw [armsTo_getD _ _ _ hi]
  have h1 := dur_lt hi
  have h2 := getD_nn hv i
  refine ⟨by omega, by omega, fun h0 => ?_⟩
  rw [armsTo_getD _ _ _ (by omega)]
  have := getD_fall hv i h0
  omega
theorem froA_conj {L : List Int} (hv : valid L = true) : froA (conj L) = froB L := by unfold froA froB; rw [durS_conj hv]
theorem froB_conj {L : List Int} (hv : valid L = true) : froB (conj L) = froA L := by unfold froA froB; rw [durS_conj hv, conj_conj hv]
theorem fro_pre {L : List Int} (hv : valid L = true) : pre2 (froA L) (froB L) :=
  ⟨froA_dn hv, by rw [← froA_conj hv]; exact froA_dn (valid_conj hv), by unfold froA froB; rw [armsTo_len, armsTo_len]⟩
theorem pof_fro {L : List Int} (hv : valid L = true) : pof (froA L) (froB L) = L := by
  have hA : (froA L).length = durS L := armsTo_len _ _
  have hB : (froB L).length = durS L := armsTo_len _ _
  have hds := durS_spec L
  have hlen : pofN (froA L) (froB L) = L.length := by
    unfold pofN
    rw [hA]
    have h0 := durS_pos hv
    split
    · omega
    · unfold froB
      rw [armsTo_getD _ _ _ (by omega)]
      have hc := head_conj hv
      have e : (conj L).getD 0 0 = (conj L).headD 0 := by cases conj L <;> rfl
      rw [e]
      have := headD_bd (valid_conj hv)
      omega
  apply List.ext_getElem
  · rw [pof_len, hlen]
  · intro j h1 h2
    rw [← getD_lt h1, ← getD_lt h2, pof_getD, if_pos (by omega), pofG, hA]
    by_cases hj : j < durS L
    · rw [if_pos hj]
      unfold froA
      rw [armsTo_getD _ _ _ hj]
      omega
    · rw [if_neg hj]
      have hle : L.getD j 0 ≤ durS L := by
        have h3 : L.getD j 0 ≤ L.getD (durS L) 0 := by
          rw [getD_lt h2, getD_lt (by omega)]
          exact falls_all hv j (durS L) h2 (by omega)
        have := hds.2.2
        omega
      have hnn := getD_nn hv j
      have : leg (froB L) j = min (durS L) (L.getD j 0).toNat := by
        unfold leg
        rw [hB]
        refine nb_to _ fun i hi => ?_
        have e : (froB L).getD i 0 = (conj L).getD i 0 - ((i : Int) + 1) := by unfold froB; exact armsTo_getD _ _ _ hi
        rw [decide_eq_true_eq, e, conj_getD' hv]
        have := cnt_ge_iff hv h2 ((i : Int) + 1)
        rw [getD_lt h2] at hnn ⊢
        omega
      rw [this]
      omega
theorem pofOk_fro {L : List Int} (hv : valid L = true) : pofOk (froA L) (froB L) = true := by
  have hp := fro_pre hv
  have hs := pof_sum hp
  rw [pof_fro hv] at hs
  have := (valid_bd hv).2.1
  unfold pofOk
  rw [hp.1, hp.2.1, decide_eq_true hp.2.2, decide_eq_true (by omega)]
  rfl
end NP
end Go.Proofs.Ytcjnmconehfbgaa
namespace Go.Proofs.Ytcjnmconehfbgaa
namespace NP
set_option linter.unusedVariables false
theorem nb_ge {q : Nat → Bool} {m : Nat} (n : Nat) (hm : m ≤ n) (h : ∀ i, i < m → q i = true) : m ≤ nb q n := by
  induction n with
  | zero => omega
  | succ n ih =>
    simp only [nb]
    rcases Nat.lt_or_ge n m with h1 | h1
    · have e := nb_all (q := q) n fun i hi => h i (by omega)
      rw [e, if_pos (h n h1)]; omega
    · have := ih h1
      omega
theorem nb_few {q : Nat → Bool} {m : Nat} (n : Nat) (h : ∀ i, i < n → q i = true → i < m) : nb q n ≤ m := by
  have key : nb q n ≤ nb (fun i => decide (i < m)) n := nb_mono n fun i hi hq => decide_eq_true (h i hi hq)
  have e : nb (fun i => decide (i < m)) n = min n m := nb_to n fun i _ => by simp
  omega
theorem pof_dur {A B : List Int} (h : pofOk A B = true) : durS (pof A B) = A.length := by
  have hp := pofOk_pre h
  have hN := pofN_ge hp
  refine durS_unique (fun j hj => ?_) ?_
  · rw [pof_getD, if_pos (by omega), pofG, if_pos hj]
    have := (dnB_iff 16 A).1 hp.1 j hj
    omega
  · rw [pof_getD]
    split
    · rw [pofG, if_neg (by omega)]
      have := leg_le B A.length
      have := hp.2.2
      omega
    · omega
theorem froA_pof {A B : List Int} (h : pofOk A B = true) : froA (pof A B) = A := by
  have hp := pofOk_pre h
  have hN := pofN_ge hp
  unfold froA
  rw [pof_dur h]
  apply List.ext_getElem
  · rw [armsTo_len]
  · intro j h1 h2
    rw [← getD_lt h1, ← getD_lt h2, armsTo_getD _ _ _ h2, pof_getD, if_pos (by omega), pofG, if_pos h2]
    omega
theorem cnt_pof {A B : List Int} (h : pofOk A B = true) {i : Nat} (hi : i < A.length) : cnt ((i : Int) + 1) (pof A B) = B.getD i 0 + i + 1 := by
  have hp := pofOk_pre h
  have hN := pofN_ge hp
  have hv := valid_pof h
  have hl := hp.2.2
  have hb := (dnB_iff 16 B).1 hp.2.1 i (by omega)
  have hlow := dn_low hp.2.1 i (by omega)
  have hgap := dn_gap hp.2.1 i 0 (by omega) (by omega)
  have hb0 := (dnB_iff 16 B).1 hp.2.1 0 (by omega)
  have hNe : (pofN A B : Int) = B.getD 0 0 + 1 := by unfold pofN; rw [if_neg (by omega)]; omega
  obtain ⟨m, hm⟩ : ∃ m : Nat, (m : Int) = B.getD i 0 + i + 1 := ⟨(B.getD i 0 + i + 1).toNat, by omega⟩
  have hmN : m ≤ pofN A B := by omega
  have hlen := pof_len A B
  have lo : (m : Int) ≤ cnt ((i : Int) + 1) (pof A B) := by
    have h1 : m - 1 < (pof A B).length := by omega
    have h2 := (cnt_ge_iff hv h1 ((i : Int) + 1)).2 (by
      rw [← getD_lt h1, pof_getD, if_pos (by omega), pofG]
      split
      · have := dn_low hp.1 (m - 1) (by omega)
        omega
      · have : i + 1 ≤ leg B (m - 1) := nb_ge _ (by omega) fun i' hi' => decide_eq_true (by
          have := dn_gap hp.2.1 i i' (by omega) (by omega)
          omega)
        omega)
    omega
  have hi' : cnt ((i : Int) + 1) (pof A B) ≤ m := by
    rcases Nat.lt_or_ge m (pofN A B) with h1 | h1
    · have h2 : m < (pof A B).length := by omega
      have h3 := cnt_ge_iff hv h2 ((i : Int) + 1)
      have h4 : ¬ ((i : Int) + 1 ≤ (pof A B)[m]) := by
        rw [← getD_lt h2, pof_getD, if_pos h1, pofG, if_neg (by omega)]
        have : leg B m ≤ i := nb_few _ fun i' hi' hq => by
          have hq' := of_decide_eq_true hq
          rcases Nat.lt_or_ge i' i with h5 | h5
          · exact h5
          · have := dn_gap hp.2.1 i' i h5 hi'
            omega
        omega
      have : ¬ ((m : Int) + 1 ≤ cnt ((i : Int) + 1) (pof A B)) := fun hc => h4 (h3.1 hc)
      omega
    · have := (cnt_bd ((i : Int) + 1) (pof A B)).2
      omega
  omega
theorem froB_pof {A B : List Int} (h : pofOk A B = true) : froB (pof A B) = B := by
  have hp := pofOk_pre h
  unfold froB
  rw [pof_dur h]
  apply List.ext_getElem
  · rw [armsTo_len]; exact hp.2.2
  · intro j h1 h2
    have hj : j < A.length := by rw [armsTo_len] at h1; exact h1
    rw [← getD_lt h1, ← getD_lt h2, armsTo_getD _ _ _ hj, conj_getD' (valid_pof h), cnt_pof h hj]
    omega
end NP
end Go.Proofs.Ytcjnmconehfbgaa
namespace Go.Proofs.Ytcjnmconehfbgaa
namespace NP
set_option linter.unusedVariables false
def allTo (p : Nat → Bool) (n : Nat) : Bool := (List.range n).all p
theorem allTo_iff (p : Nat → Bool) (n : Nat) : allTo p n = true ↔ ∀ j, j < n → p j = true := by simp [allTo]
theorem allTo_no {p : Nat → Bool} {n j : Nat} (hj : j < n) (h : p j = false) : allTo p n = false := by
  cases e : allTo p n with
  | false => rfl
  | true => rw [(allTo_iff p n).1 e j hj] at h; exact h
theorem allTo_yes {p : Nat → Bool} {n : Nat} (h : ∀ j, j < n → p j = true) : allTo p n = true := (allTo_iff p n).2 h

def kRem (m r : Int) (L : List Int) : Bool := allTo (fun j => L.getD j 0 % m == r || L.getD j 0 % m == m - r) L.length
def kFall (s t : Int) (L : List Int) : Bool := allTo (fun j => decide ((if L.getD j 0 % 3 = 0 then t else s) ≤ L.getD j 0 - L.getD (j + 1) 0)) (L.length - 1)
def kSelf (L : List Int) : Bool := decide (L = conj L)
def kNoOne (L : List Int) : Bool := allTo (fun j => decide (L.getD j 0 ≠ 1)) L.length
def kNone (m : Nat) (L : List Int) : Bool := allTo (fun j => decide (L.getD j 0 ≠ L.getD (j + (m - 1)) 0)) (L.length - (m - 1))

/-- a stair -/
def stairs (s : Nat) : List Int := (List.range s).map fun (i : Nat) => (s : Int) - (i : Int)
theorem stairs_len (s : Nat) : (stairs s).length = s := by simp [stairs]
theorem stairs_getD (s i : Nat) : (stairs s).getD i 0 = if i < s then (s : Int) - (i : Int) else 0 := by
  unfold stairs
  rw [List.getD_eq_getElem?_getD, List.getElem?_map]
  by_cases h : i < s
  · rw [List.getElem?_range h, if_pos h]; rfl
  · rw [List.getElem?_eq_none (by simp; omega), if_neg h]; rfl
theorem stairs_sum {s : Nat} (h : s ≤ 16) : sumL (stairs s) = (s : Int) * ((s : Int) + 1) / 2 := by
  have : ∀ s : Nat, s < 17 → sumL (stairs s) = (s : Int) * ((s : Int) + 1) / 2 := by decide +kernel
  exact this s (by omega)
theorem stairs_mul {s : Nat} (h : s ≤ 16) : 0 ≤ (s : Int) * ((s : Int) + 1) ∧ (s : Int) * ((s : Int) + 1) ≤ 272 := by
  have : ∀ s : Nat, s < 17 → 0 ≤ (s : Int) * ((s : Int) + 1) ∧ (s : Int) * ((s : Int) + 1) ≤ 272 := by decide +kernel
  exact this s (by omega)
theorem stairs_five {s : Nat} (h : s ≤ 16) (h2 : (s : Int) * ((s : Int) + 1) / 2 ≤ 16) : s ≤ 5 := by
  have : ∀ s : Nat, s < 17 → (s : Int) * ((s : Int) + 1) / 2 ≤ 16 → s ≤ 5 := by decide +kernel
  exact this s (by omega) h2
theorem stairs_valid {s : Nat} (h : s ≤ 5) : valid (stairs s) = true := by
  have : ∀ s : Nat, s < 6 → valid (stairs s) = true := by decide +kernel
  exact this s (by omega)
def stOk (P : List Int) (k : Int) : Bool := valid P && decide ((P.length : Int) ≤ k) && decide (k ≤ 16) && decide (sumL P + k * (k + 1) / 2 ≤ 16)
def stPut (P : List Int) (k : Int) : List Int := adp P (stairs k.toNat)
def stPutF (P : List Int) (k : Int) : List Int := if stOk P k then stPut P k else []
theorem stPutF_yes {P : List Int} {k : Int} (h : stOk P k = true) : stPutF P k = stPut P k := by simp [stPutF, h]
theorem stPutF_no {P : List Int} {k : Int} (h : stOk P k = false) : stPutF P k = [] := by simp [stPutF, h]
theorem stOk_iff (P : List Int) (k : Int) : stOk P k = true ↔ valid P = true ∧ (P.length : Int) ≤ k ∧ k ≤ 16 ∧ sumL P + k * (k + 1) / 2 ≤ 16 := by
  unfold stOk; simp only [Bool.and_eq_true, decide_eq_true_eq, and_assoc]
theorem st_put {P : List Int} {s : Nat} (h : stOk P s = true) : s ≤ 5 ∧ two P (stairs s) = true ∧ valid (stPut P s) = true ∧ stPut P s = adp P (stairs s) := by
  obtain ⟨hv, hl, h16, hs⟩ := (stOk_iff _ _).1 h
  have hb := valid_bd hv
  have h5 : s ≤ 5 := stairs_five (by omega) (by omega)
  have ht : two P (stairs s) = true := by
    unfold two
    rw [hv, stairs_valid h5, stairs_sum (by omega)]
    simp only [Bool.and_self, Bool.true_and, decide_eq_true_eq]
    exact hs
  have he : stPut P s = adp P (stairs s) := by unfold stPut; rw [Int.toNat_natCast]
  exact ⟨h5, ht, he ▸ valid_adp ht, he⟩
theorem stPutF_len (P : List Int) (k : Int) : (stPutF P k).length ≤ 16 := by
  unfold stPutF
  split
  · rename_i h
    have h1 := (stOk_iff _ _).1 h
    obtain ⟨s, rfl⟩ := Int.eq_ofNat_of_zero_le (show 0 ≤ k by omega)
    exact (valid_bd (st_put h).2.2.1).2.2.2
  · simp

/-- what is left on a stair -/
def stT (L : List Int) (k : Nat) : List Int := ((List.range k).filter fun (i : Nat) => decide (0 < L.getD i 0 - ((L.length : Int) - (i : Int)))).map fun (i : Nat) => L.getD i 0 - ((L.length : Int) - (i : Int))
theorem stT_succ (L : List Int) (k : Nat) : stT L (k + 1) = stT L k ++ if 0 < L.getD k 0 - ((L.length : Int) - (k : Int)) then [L.getD k 0 - ((L.length : Int) - (k : Int))] else [] := by
  unfold stT
  rw [List.range_succ, List.filter_append, List.map_append]
  obtain ⟨f, hf⟩ : ∃ f : Nat → Int, ∀ i, L.getD i 0 - ((L.length : Int) - (i : Int)) = f i := ⟨_, fun _ => rfl⟩
  simp only [hf]
  congr 1
  by_cases h : 0 < f k <;> simp [h]
theorem stT_len (L : List Int) (k : Nat) : (stT L k).length ≤ k := by
  unfold stT
  rw [List.length_map]
  exact Nat.le_trans (List.length_filter_le _ _) (by simp)
def stCut (L : List Int) : List Int := stT L L.length
def stArr (L : List Int) : List Int := (List.range 16).map fun (j : Nat) => if j < L.length then L.getD j 0 - ((L.length : Int) - (j : Int)) else 0
def dis (L : List Int) : Bool := valid L && kFall 1 1 L
theorem dis_iff (L : List Int) : dis L = true ↔ valid L = true ∧ kFall 1 1 L = true := by unfold dis; simp
def stCutF (L : List Int) : List Int := if dis L then stCut L else []
theorem stCutF_yes {L : List Int} (h : dis L = true) : stCutF L = stCut L := by simp [stCutF, h]
theorem stCutF_no {L : List Int} (h : dis L = false) : stCutF L = [] := by simp [stCutF, h]
def stN (L : List Int) : Int := if dis L then (L.length : Int) else 0
theorem stN_yes {L : List Int} (h : dis L = true) : stN L = (L.length : Int) := by simp [stN, h]
theorem stN_no {L : List Int} (h : dis L = false) : stN L = 0 := by simp [stN, h]
def stTab (N : List Nat) : Bool :=
  let L := N.map Int.ofNat
  !kFall 1 1 L || valid (stCut L) && decide (pad (stCut L) = stArr L) && stOk (stCut L) L.length && decide (stPut (stCut L) L.length = L) && decide (L.length ≤ 5)
set_option maxRecDepth 100000 in
theorem stTab_all : all16.all stTab = true := by decide +kernel
theorem st_facts {L : List Int} (h : dis L = true) : valid (stCut L) = true ∧ pad (stCut L) = stArr L ∧ stOk (stCut L) L.length = true ∧ stPut (stCut L) L.length = L ∧ L.length ≤ 5 := by
  obtain ⟨hv, hk⟩ := (dis_iff L).1 h
  obtain ⟨N, hN, rfl⟩ := of_all stTab_all hv
  simp only [stTab, Bool.or_eq_true, Bool.and_eq_true, decide_eq_true_eq, hk, Bool.not_true, Bool.false_eq_true, false_or] at hN
  obtain ⟨⟨⟨⟨h1, h2⟩, h3⟩, h4⟩, h5⟩ := hN
  exact ⟨h1, h2, h3, h4, h5⟩
theorem stCutF_len (L : List Int) : (stCutF L).length ≤ 16 := by
  unfold stCutF
  split
  · rename_i h; exact (valid_bd (st_facts h).1).2.2.2
  · simp
def stTab2 (N : List Nat) : Bool :=
  let P := N.map Int.ofNat
  (List.range 6).all fun s => !stOk P s || dis (stPut P s) && decide (stCut (stPut P s) = P) && decide ((stPut P s).length = s)
set_option maxRecDepth 100000 in
theorem stTab2_all : all16.all stTab2 = true := by decide +kernel
theorem st_back {P : List Int} {s : Nat} (h : stOk P s = true) : dis (stPut P s) = true ∧ stCut (stPut P s) = P ∧ (stPut P s).length = s := by
  obtain ⟨hv, -, -, -⟩ := (stOk_iff _ _).1 h
  have h5 := (st_put h).1
  obtain ⟨N, hN, rfl⟩ := of_all stTab2_all hv
  have hs := List.all_eq_true.1 hN s (by simp; omega)
  simp only [Bool.or_eq_true, Bool.and_eq_true, decide_eq_true_eq, h, Bool.not_true, Bool.false_eq_true, false_or] at hs
  exact ⟨hs.1.1, hs.1.2, hs.2⟩

/-- hooks of the diagonal of own conjugates -/
def h2o (L : List Int) : List Int := (froA L).map fun a => a + 1 + a
def slf (L : List Int) : Bool := valid L && kSelf L
theorem slf_iff (L : List Int) : slf L = true ↔ valid L = true ∧ kSelf L = true := by unfold slf; simp
def h2oF (L : List Int) : List Int := if slf L then h2o L else []
theorem h2oF_yes {L : List Int} (h : slf L = true) : h2oF L = h2o L := by simp [h2oF, h]
theorem h2oF_no {L : List Int} (h : slf L = false) : h2oF L = [] := by simp [h2oF, h]
def halves (P : List Int) : List Int := P.map fun x => x / 2
def o2h (P : List Int) : List Int := pof (halves P) (halves P)
def dod (L : List Int) : Bool := valid L && (kRem 2 1 L && kFall 1 1 L)
theorem dod_iff (L : List Int) : dod L = true ↔ valid L = true ∧ kRem 2 1 L = true ∧ kFall 1 1 L = true := by unfold dod; simp
def o2hF (L : List Int) : List Int := if dod L then o2h L else []
theorem o2hF_yes {L : List Int} (h : dod L = true) : o2hF L = o2h L := by simp [o2hF, h]
theorem o2hF_no {L : List Int} (h : dod L = false) : o2hF L = [] := by simp [o2hF, h]
def hoTab (N : List Nat) : Bool :=
  let L := N.map Int.ofNat
  (!kSelf L || dod (h2o L) && decide (o2h (h2o L) = L) && decide ((h2o L).length = durS L) && decide (sumL (h2o L) = sumL L)) &&
  (!(kRem 2 1 L && kFall 1 1 L) || pofOk (halves L) (halves L) && slf (o2h L) && decide (h2o (o2h L) = L))
set_option maxRecDepth 100000 in
theorem hoTab_all : all16.all hoTab = true := by decide +kernel
theorem h2o_facts {L : List Int} (h : slf L = true) : dod (h2o L) = true ∧ o2h (h2o L) = L ∧ (h2o L).length = durS L ∧ sumL (h2o L) = sumL L := by
  obtain ⟨hv, hk⟩ := (slf_iff L).1 h
  obtain ⟨N, hN, rfl⟩ := of_all hoTab_all hv
  simp only [hoTab, Bool.or_eq_true, Bool.and_eq_true, decide_eq_true_eq, hk, Bool.not_true, Bool.false_eq_true, false_or] at hN
  exact ⟨hN.1.1.1.1, hN.1.1.1.2, hN.1.1.2, hN.1.2⟩
theorem o2h_facts {L : List Int} (h : dod L = true) : pofOk (halves L) (halves L) = true ∧ slf (o2h L) = true ∧ h2o (o2h L) = L := by
  obtain ⟨hv, hk1, hk2⟩ := (dod_iff L).1 h
  obtain ⟨N, hN, rfl⟩ := of_all hoTab_all hv
  simp only [hoTab, Bool.or_eq_true, Bool.and_eq_true, decide_eq_true_eq, hk1, hk2, Bool.and_self, Bool.not_true, Bool.false_eq_true, false_or] at hN
  exact ⟨hN.2.1.1, hN.2.1.2, hN.2.2⟩
theorem h2oF_len (L : List Int) : (h2oF L).length ≤ 16 := by
  unfold h2oF
  split
  · rename_i h; exact (valid_bd ((dod_iff _).1 (h2o_facts h).1).1).2.2.2
  · simp
theorem o2hF_len (L : List Int) : (o2hF L).length ≤ 16 := by
  unfold o2hF
  split
  · rename_i h; exact (valid_bd ((slf_iff _).1 (o2h_facts h).2.1).1).2.2.2
  · simp

/-- Franklin's map -/
def slp (L : List Int) : Nat := ff (fun n => decide (L.getD n 0 = L.getD 0 0 - (n : Int))) L.length
def lastP (L : List Int) : Int := L.getD (L.length - 1) 0
def frA (L : List Int) : List Int := (List.range (L.length - 1)).map fun (j : Nat) => L.getD j 0 + if (j : Int) < lastP L then 1 else 0
def frB (L : List Int) : List Int := ((List.range L.length).map fun (j : Nat) => L.getD j 0 - if j < slp L then 1 else 0) ++ [(slp L : Int)]
def fr (L : List Int) : List Int := if lastP L ≤ (slp L : Int) then frA L else frB L
def mayS (L : List Int) : Bool := decide (0 < L.length) && (decide (slp L < L.length) || (decide (lastP L ≠ (L.length : Int)) && decide (lastP L ≠ (L.length : Int) + 1)))
def frOk (L : List Int) : Bool := valid L && (kFall 1 1 L && mayS L)
theorem frOk_iff (L : List Int) : frOk L = true ↔ valid L = true ∧ kFall 1 1 L = true ∧ mayS L = true := by unfold frOk; simp
def frF (L : List Int) : List Int := if frOk L then fr L else []
theorem frF_yes {L : List Int} (h : frOk L = true) : frF L = fr L := by simp [frF, h]
theorem frF_no {L : List Int} (h : frOk L = false) : frF L = [] := by simp [frF, h]
def frTab (N : List Nat) : Bool :=
  let L := N.map Int.ofNat
  !(kFall 1 1 L && mayS L) || frOk (fr L) && decide (fr (fr L) = L) && decide (sumL (fr L) = sumL L) && (decide ((fr L).length = L.length + 1) || decide ((fr L).length + 1 = L.length)) &&
   decide (slp L ≤ L.length) && decide (1 ≤ lastP L) && decide (L.length ≤ 5) && (!decide (lastP L ≤ (slp L : Int)) || decide (lastP L ≤ (L.length : Int) - 1))
set_option maxRecDepth 100000 in
theorem frTab_all : all16.all frTab = true := by decide +kernel
theorem fr_facts {L : List Int} (h : frOk L = true) : frOk (fr L) = true ∧ fr (fr L) = L ∧ sumL (fr L) = sumL L ∧ ((fr L).length = L.length + 1 ∨ (fr L).length + 1 = L.length) ∧ slp L ≤ L.length ∧ 1 ≤ lastP L ∧ L.length ≤ 5 ∧ (lastP L ≤ (slp L : Int) → lastP L ≤ (L.length : Int) - 1) := by
  obtain ⟨hv, hk1, hk2⟩ := (frOk_iff L).1 h
  obtain ⟨N, hN, rfl⟩ := of_all frTab_all hv
  simp only [frTab, Bool.or_eq_true, Bool.and_eq_true, decide_eq_true_eq, hk1, hk2, Bool.and_self, Bool.not_true, Bool.false_eq_true, false_or] at hN
  obtain ⟨⟨⟨⟨⟨⟨⟨h1, h2⟩, h3⟩, h4⟩, h5⟩, h6⟩, h7⟩, h8⟩ := hN
  exact ⟨h1, h2, h3, h4, h5, h6, h7, fun hc => by simpa [hc] using h8⟩
theorem frF_len (L : List Int) : (frF L).length ≤ 16 := by
  unfold frF
  split
  · rename_i h; exact (valid_bd ((frOk_iff _).1 (fr_facts h).1).1).2.2.2
  · simp
end NP
end Go.Proofs.Ytcjnmconehfbgaa
namespace Go.Proofs.Ytcjnmconehfbgaa
open Go.RowKit
theorem run_eqItems_arr {P : Program} {e : TypeId} (he : P.underlying e = some (.int .i64)) (hp : P.plainKey e = true) (d : Nat) (D E : List Int) (w : World) :
    ∀ l : List Nat, (∀ k ∈ l, k < D.length ∧ k < E.length) → (Op.eqItems (d + 1) e 1 (arr D) (arr E) l).run P w = .ok (l.all fun k => D.getD k 0 == E.getD k 0) w
  | [], _ => by simp [Op.eqItems]
  | k :: l, h => by
    obtain ⟨h1, h2⟩ := h k (by simp)
    have ih := run_eqItems_arr he hp d D E w l fun j hj => h j (by simp [hj])
    have p1 : (part e (arr D) (k * 1)).run P w = .ok (.int .i64 D[k]) w := run_part_plain w hp (by rw [Nat.mul_one]; exact arr_get D k h1)
    have p2 : (part e (arr E) (k * 1)).run P w = .ok (.int .i64 E[k]) w := run_part_plain w hp (by rw [Nat.mul_one]; exact arr_get E k h2)
    have p3 := run_equalIn_int (P := P) w d e .i64 .i64 D[k] E[k] he
    have g1 : D.getD k 0 = D[k] := by rw [List.getD_eq_getElem?_getD, List.getElem?_eq_getElem h1]; rfl
    have g2 : E.getD k 0 = E[k] := by rw [List.getD_eq_getElem?_getD, List.getElem?_eq_getElem h2]; rfl
    simp only [Op.eqItems, Sem.run_bind, p1, p2, p3, Result.andThen_ok, List.all_cons, g1, g2]
    cases hq : (D[k] == E[k])
    · simp
    · simpa using ih
theorem all_getD_eq {D E : List Int} (h : D.length = E.length) : ((List.range D.length).all fun k => D.getD k 0 == E.getD k 0) = decide (D = E) := by
  rw [Bool.eq_iff_iff, List.all_eq_true, decide_eq_true_eq]
  constructor
  · intro hh
    apply List.ext_getElem h
    intro i h1 h2
    have := hh i (by simpa using h1)
    rw [List.getD_eq_getElem?_getD, List.getElem?_eq_getElem h1, List.getD_eq_getElem?_getD, List.getElem?_eq_getElem h2] at this
    simpa using this
  · rintro rfl k _
    simp
theorem run_equal_arr {P : Program} {t e : TypeId} {n : Nat} {i : TypeInfo} (ht : P.underlying t = some (.array n e)) (he : P.underlying e = some (.int .i64)) (hp : P.plainKey e = true) (hi : P.info? e = some i) (hc : P.cellsOf e = 1) (D E : List Int) (hD : D.length = n) (hE : E.length = n) (w : World) :
    (Op.equalIn 10000 t (.agg (arr D)) (.agg (arr E))).run P w = .ok (decide (D = E)) w := by
  rw [show (10000 : Nat) = 9998 + 1 + 1 from rfl, run_equalIn_array w (9998 + 1) (arr D) (arr E) ht hi, hc, run_eqItems_arr he hp 9998 D E w _ (fun k hk => by simp at hk; omega), ← hD, all_getD_eq (by omega)]
end Go.Proofs.Ytcjnmconehfbgaa
namespace Go.Proofs.Ytcjnmconehfbgaa
open Go.RowKit NP
set_option maxRecDepth 8000
set_option linter.unusedVariables false
set_option linter.unusedSimpArgs false
theorem cnt_pad {M : List Int} (hM : valid M = true) : cntD (pad M) = M.length := by
  have hlen : M.length ≤ 16 := (valid_bd hM).2.2.2
  unfold cntD
  refine ff_eq (fun j hj => ?_) hlen ?_
  · have h1 := preS_of_valid hM j hj hj
    rw [List.getD_eq_getElem?_getD, List.getElem?_eq_getElem (by rw [pad_len hlen]; omega), Option.getD_some, pad_get hlen hj]
    simp; omega
  · rcases Nat.lt_or_ge M.length 16 with h | h
    · right
      rw [List.getD_eq_getElem?_getD, List.getElem?_eq_getElem (by rw [pad_len hlen]; omega), Option.getD_some, pad_get0 hlen (Nat.le_refl _) h]
      simp
    · left; omega
theorem Blk.one {w : World} {g : Nat} {t : TypeId} {v : Value} (h : Blk w g t #[v]) : w.cell? ⟨g, 0, none⟩ = some v := by rw [h.cell 0]; rfl
theorem upto {k : Nat} {p : Nat → Bool} (H : ∀ j, j < k → p j = true) (h : p k = true) : ∀ j, j < k + 1 → p j = true := fun j hj => by
  rcases Nat.lt_or_ge j k with h1 | h1
  · exact H j h1
  · obtain rfl : j = k := by omega
    exact h




end Go.Proofs.Ytcjnmconehfbgaa
namespace Go.Proofs.Ytcjnmconehfbgaa
open Go.RowKit NP
set_option maxRecDepth 8000
set_option linter.unusedVariables false





end Go.Proofs.Ytcjnmconehfbgaa
namespace Go.Proofs.Ytcjnmconehfbgaa
open Go.RowKit
theorem wpList_load_row_g {P : Program} {ops : Array Oper} {rest : List Oper} {o : Oper} {a : Act} {w : World} {Q : Exit → Act → World → Prop} (hgd : Region.wanted o (yielded ops a.tmps) = true) (ty : TypeId) (x : Operand) (ho : o.op = .load ty x)
    (g : Nat) (hx : a.eval x = .pointer (some ⟨g, 0, none⟩)) (t : TypeId) (cs : Array Value) (fr : Nat × Nat) (d : TypeDesc) (hg : w.heap[g]? = some (.cells cs t fr))
    (hu : P.underlying ty = some d) (hd : (match d with | .struct _ | .array _ _ => true | _ => false) = true) (hi : (P.info? ty).map (·.size) = some cs.size)
    (h : wpList P ops Q rest (a.put o.dst (.agg cs)) w) : wpList P ops Q (o :: rest) a w :=
  wpList_step fun K hK => by
    rw [if_pos hgd]
    exact wp_load_row ty x ho g hx t cs fr d hg hu hd hi (hK _ _ h)
end Go.Proofs.Ytcjnmconehfbgaa
namespace Go.Proofs.Ytcjnmconehfbgaa
open Go.RowKit NP
set_option maxRecDepth 8000
set_option linter.unusedVariables false

theorem Own.take {w : World} {lo hi : Nat} {e : TypeId} {a : Option Addr} {n c : Nat} {vs : List Value} (h : Own w lo hi e (.slice a n c) vs) (k : Nat) (hk : k ≤ vs.length) : Own w lo hi e (.slice a k c) (vs.take k) := by
  refine ⟨?_, fun g hg => h.lt g (by cases a with | none => cases hg | some b => exact hg), h.le⟩
  have hlen : (vs.take k).length = k := by simp; omega
  rw [hlen]
  refine ⟨by rw [hlen]; omega, ?_⟩
  rcases h.row.2 with ⟨e1, e2⟩ | ⟨g, cap, cur, e1, hb, hg, hc, hm, hs, ht⟩
  · injection e1 with e3 e4 e5
    subst e3; subst e5
    have : k = 0 := by omega
    subst this
    exact .inl ⟨rfl, rfl⟩
  · injection e1 with e3 e4 e5
    subst e3; subst e5
    refine .inr ⟨g, c, cur, rfl, hb, hg, by omega, hm, hs, ?_⟩
    rw [← ht, List.take_take]
    congr 1
    omega



theorem rmvOk_no {L : List Int} (h : valid L = false) (i : Int) : rmvOk L i = false := by simp [rmvOk, h]
theorem rmvOk_yes {L : List Int} (h : valid L = true) (i : Int) : rmvOk L i = hasI (crn L) i := by
  unfold rmvOk crn
  rw [h, Bool.true_and, crnTo_fl, hasI_fl]
theorem rmv_no {L : List Int} {i : Int} (h : rmvOk L i = false) : rmv L i = [] := by simp [rmv, h]
theorem rmv_yes {L : List Int} {i : Int} (h : rmvOk L i = true) : ∃ k : Nat, i = k ∧ k < L.length ∧ isC L k = true ∧ valid L = true ∧ rmv L i = lessL L k := by
  have h2 := h
  unfold rmvOk at h
  simp only [Bool.and_eq_true, decide_eq_true_eq] at h
  obtain ⟨hv, ⟨h0, hlt⟩, hc⟩ := h
  obtain ⟨k, rfl⟩ := Int.eq_ofNat_of_zero_le h0
  refine ⟨k, rfl, by omega, hc, hv, ?_⟩
  unfold rmv
  rw [if_pos h2]
  rfl
theorem own_nil0 (w : World) (lo : Nat) (e : TypeId) : Own w lo w.heap.size e (.slice none ([] : List Int).length 0) (ints []) := Own.nil w lo e

theorem addOk_no {L : List Int} (h : valid L = false) (i : Int) : addOk L i = false := by simp [addOk, h]
theorem addC_no {L : List Int} {i : Int} (h : addOk L i = false) : addC L i = [] := by simp [addC, h]
theorem addC_yes {L : List Int} {i : Int} (h : addOk L i = true) : addC L i = addL L i.toNat := by simp [addC, h]
theorem addOk_at {L : List Int} (hv : valid L = true) {k : Nat} (hk : k ≤ L.length) : addOk L k = valid (addL L k) := by
  unfold addOk
  rw [hv, decide_eq_true (by omega : (0 : Int) ≤ (k : Int)), decide_eq_true (by omega : (k : Int) ≤ (L.length : Int))]
  rfl
theorem addOk_out {L : List Int} {i : Int} (h : ¬ (0 ≤ i ∧ i ≤ L.length)) : addOk L i = false := by
  unfold addOk
  rcases Int.lt_or_le i 0 with h0 | h0
  · rw [decide_eq_false (by omega : ¬ 0 ≤ i)]; simp
  · rw [decide_eq_false (by omega : ¬ i ≤ (L.length : Int))]; simp
theorem Blk.drs {w : World} {g : Nat} {t : TypeId} {cs : Array Value} (h : Blk w g t cs) (n : Nat) : Blk (w.drewN n) g t cs := h

end Go.Proofs.Ytcjnmconehfbgaa
