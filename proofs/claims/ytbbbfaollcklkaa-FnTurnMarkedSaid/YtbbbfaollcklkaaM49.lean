/-
  Mathematics: marked parts turned twice, and how many marks they have.
-/
import Derived.Test.YtbbbfaollcklkaaM48
namespace Go.Proofs.Ytbbbfaollcklkaa
open Go.RowKit
set_option linter.unusedVariables false
namespace NP
theorem cor {L : List Int} (hv : valid L = true) {i : Nat} (hi : i < L.length) (hc : isC L i = true) :
    ∃ j : Nat, L.getD i 0 = (j : Int) + 1 ∧ j < (conj L).length ∧ isC (conj L) j = true ∧ (conj L).getD j 0 = (i : Int) + 1 := by
  have hp := getD_pos hv hi
  have e : L.getD i 0 = L[i] := by rw [List.getD_eq_getElem?_getD, List.getElem?_eq_getElem hi]; rfl
  refine ⟨(L.getD i 0 - 1).toNat, by omega, ?_⟩
  obtain ⟨j, hj⟩ : ∃ j : Nat, j = (L.getD i 0 - 1).toNat := ⟨_, rfl⟩
  rw [← hj]
  have hj1 : (j : Int) + 1 = L[i] := by omega
  have h1 : (i : Int) + 1 ≤ cnt L[i] L := (cnt_ge_iff hv hi L[i]).2 (Int.le_refl _)
  have h2 : cnt L[i] L ≤ (i : Int) + 1 := by
    have hb := cnt_bd L[i] L
    rcases Nat.lt_or_ge (i + 1) L.length with h | h
    · have hn : L.getD (i + 1) 0 < L.getD i 0 := by
        unfold isC at hc
        rw [Bool.or_eq_true, decide_eq_true_eq, decide_eq_true_eq] at hc
        rcases hc with hc | hc <;> omega
      have e2 : L.getD (i + 1) 0 = L[i + 1] := by rw [List.getD_eq_getElem?_getD, List.getElem?_eq_getElem h]; rfl
      have hg := cnt_ge_iff hv h L[i]
      have hno : ¬ (L[i] ≤ L[i + 1]) := by omega
      have := mt hg.1 hno
      omega
    · omega
  have hlt : j < (conj L).length := by
    have h0 : 0 < L.length := by omega
    have hg := (cnt_ge_iff hv h0 L[i]).1 (by omega)
    have hh : L.headD 0 = L[0] := by cases L with | nil => simp at h0 | cons x r => rfl
    rw [conj_len, hh]
    omega
  have hC : (conj L).getD j 0 = (i : Int) + 1 := by rw [getD_lt hlt, conj_get L j hlt, hj1]; omega
  refine ⟨hlt, ?_, hC⟩
  unfold isC
  rw [hC, Bool.or_eq_true]
  rcases Nat.lt_or_ge (j + 1) (conj L).length with h | h
  · right
    have hno : ¬ ((i : Int) + 1 ≤ cnt (L[i] + 1) L) := by
      have hg := cnt_ge_iff hv hi (L[i] + 1)
      intro hh
      have := hg.1 hh
      omega
    rw [getD_lt h, conj_get L (j + 1) h, decide_eq_true_eq, show (((j + 1 : Nat) : Int) + 1) = L[i] + 1 by omega]
    omega
  · left
    rw [decide_eq_true_eq]
    omega
theorem tnM_at (L : List Int) (bs : List Bool) (j : Nat) : (tnM L bs).getD j false = (decide (j < (conj L).length) && isC (conj L) j && bs.getD ((conj L).getD j 0 - 1).toNat false) := mkOf_getD _ _ _
theorem tnM_len (L : List Int) (bs : List Bool) : (tnM L bs).length = (conj L).length := mkOf_len _ _
/-- a mark of the parts is a mark of the turned parts -/
theorem tnM_cor {L : List Int} {bs : List Bool} (h : vmk L bs = true) {i : Nat} (hi : i < L.length) (hb : bs.getD i false = true) :
    ∃ j : Nat, L.getD i 0 = (j : Int) + 1 ∧ j < (conj L).length ∧ (conj L).getD j 0 = (i : Int) + 1 ∧ (tnM L bs).getD j false = true := by
  obtain ⟨hv, hl, hm⟩ := vmk_iff.1 h
  have hc : isC L i = true := by have := hm i hi; unfold mkC at this; rw [hb] at this; simpa using this
  obtain ⟨j, e1, e2, e3, e4⟩ := cor hv hi hc
  refine ⟨j, e1, e2, e4, ?_⟩
  rw [tnM_at, e3, e4, decide_eq_true e2, show ((i : Int) + 1 - 1).toNat = i by omega, hb]
  rfl
theorem vmk_tn {L : List Int} {bs : List Bool} (h : vmk L bs = true) : vmk (conj L) (tnM L bs) = true := vmk_mkOf (valid_conj (vmk_iff.1 h).1) _
theorem tnM_inv {L : List Int} {bs : List Bool} (h : vmk L bs = true) : tnM (conj L) (tnM L bs) = bs := by
  obtain ⟨hv, hl, hm⟩ := vmk_iff.1 h
  have hlen : (tnM (conj L) (tnM L bs)).length = bs.length := by rw [tnM_len, conj_conj hv, hl]
  apply List.ext_getElem hlen
  intro i h1 h2
  have e1 : (tnM (conj L) (tnM L bs))[i] = (tnM (conj L) (tnM L bs)).getD i false := by rw [List.getD_eq_getElem?_getD, List.getElem?_eq_getElem h1]; rfl
  have e2 : bs[i] = bs.getD i false := by rw [List.getD_eq_getElem?_getD, List.getElem?_eq_getElem h2]; rfl
  have hi : i < L.length := by omega
  rw [e1, e2, tnM_at, conj_conj hv, decide_eq_true hi, Bool.true_and]
  cases hc : isC L i with
  | false =>
    have := hm i hi
    unfold mkC at this
    rw [hc] at this
    cases hb : bs.getD i false with
    | false => rfl
    | true => rw [hb] at this; simp at this
  | true =>
    obtain ⟨j, f1, f2, f3, f4⟩ := cor hv hi hc
    rw [f1, show ((j : Int) + 1 - 1).toNat = j by omega, tnM_at, f3, f4, decide_eq_true f2, show ((i : Int) + 1 - 1).toNat = i by omega]
    simp
theorem inj_len : ∀ (A B : List Nat) (f : Nat → Nat), A.Nodup → (∀ a ∈ A, f a ∈ B) → (∀ a ∈ A, ∀ b ∈ A, f a = f b → a = b) → A.length ≤ B.length
  | [], B, f, _, _, _ => Nat.zero_le _
  | a :: A, B, f, hn, hm, hi => by
    have ha := hm a (by simp)
    rw [List.nodup_cons] at hn
    have h := inj_len A (B.erase (f a)) f hn.2 (fun x hx => by
      refine (List.mem_erase_of_ne ?_).2 (hm x (List.mem_cons_of_mem _ hx))
      intro e
      have := hi x (List.mem_cons_of_mem _ hx) a (by simp) e
      subst this
      exact hn.1 hx) (fun x hx y hy e => hi x (List.mem_cons_of_mem _ hx) y (List.mem_cons_of_mem _ hy) e)
    rw [List.length_erase_of_mem ha] at h
    have : 0 < B.length := List.length_pos_of_mem ha
    simp only [List.length_cons]
    omega
def onB (bs : List Bool) : List Nat := (List.range bs.length).filter fun i => bs.getD i false
theorem onB_nodup (bs : List Bool) : (onB bs).Nodup := List.Pairwise.filter _ List.nodup_range
theorem onB_mem {bs : List Bool} {i : Nat} : i ∈ onB bs ↔ i < bs.length ∧ bs.getD i false = true := by unfold onB; rw [List.mem_filter, List.mem_range]
/-- how many marks there are -/
def cntT (bs : List Bool) : Nat := (bs.filter id).length
theorem cntT_le (bs : List Bool) : cntT bs ≤ bs.length := List.length_filter_le _ _
theorem cntT_take {bs : List Bool} {k : Nat} (hk : k < bs.length) : cntT (bs.take (k + 1)) = cntT (bs.take k) + if bs[k] then 1 else 0 := by
  unfold cntT
  rw [List.take_succ_eq_append_getElem hk, List.filter_append, List.length_append]
  congr 1
  cases bs[k] <;> rfl
theorem cntT_on (bs : List Bool) : ∀ k, k ≤ bs.length → cntT (bs.take k) = ((List.range k).filter fun i => bs.getD i false).length
  | 0, _ => by simp [cntT]
  | k + 1, hk => by
    rw [cntT_take (by omega : k < bs.length), cntT_on bs k (by omega), List.range_succ, List.filter_append, List.length_append]
    congr 1
    have e2 : bs.getD k false = bs[k] := by rw [List.getD_eq_getElem?_getD, List.getElem?_eq_getElem (by omega : k < bs.length)]; rfl
    rw [List.filter_cons, e2]
    cases bs[k] <;> rfl
theorem cntT_onB (bs : List Bool) : cntT bs = (onB bs).length := by
  have := cntT_on bs bs.length (Nat.le_refl _)
  rw [List.take_length] at this
  exact this
theorem cntT_tn_le {L : List Int} {bs : List Bool} (h : vmk L bs = true) : cntT bs ≤ cntT (tnM L bs) := by
  obtain ⟨hv, hl, hm⟩ := vmk_iff.1 h
  rw [cntT_onB, cntT_onB]
  refine inj_len _ _ (fun i => (L.getD i 0 - 1).toNat) (onB_nodup _) ?_ ?_
  · intro i hi
    obtain ⟨h1, h2⟩ := onB_mem.1 hi
    obtain ⟨j, e1, e2, e3, e4⟩ := tnM_cor h (by omega) h2
    refine onB_mem.2 ?_
    simp only [e1, show ((j : Int) + 1 - 1).toNat = j by omega]
    exact ⟨by rw [tnM_len]; exact e2, e4⟩
  · intro a ha b hb e
    obtain ⟨h1, h2⟩ := onB_mem.1 ha
    obtain ⟨k1, k2⟩ := onB_mem.1 hb
    obtain ⟨j, e1, _, e3, _⟩ := tnM_cor h (by omega) h2
    obtain ⟨j', f1, _, f3, _⟩ := tnM_cor h (by omega) k2
    simp only [e1, f1] at e
    have : j = j' := by omega
    subst this
    rw [e3] at f3
    omega
theorem cntT_tn {L : List Int} {bs : List Bool} (h : vmk L bs = true) : cntT (tnM L bs) = cntT bs := by
  have h1 := cntT_tn_le h
  have h2 := cntT_tn_le (vmk_tn h)
  rw [tnM_inv h] at h2
  omega
end NP
end Go.Proofs.Ytbbbfaollcklkaa
