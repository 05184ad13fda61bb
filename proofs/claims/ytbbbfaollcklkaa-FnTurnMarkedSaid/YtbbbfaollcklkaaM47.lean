/-
  Plain mathematics of marked parts: marks beside parts, split, turned, put together.
-/
import Derived.Test.YtbbbfaollcklkaaM3
import Derived.Test.YtbbbfaollcklkaaArr
namespace Go.Proofs.Ytbbbfaollcklkaa
open Go.RowKit
abbrev bls (bs : List Bool) : List Value := bs.map Value.bool
def arrB (bs : List Bool) : Array Value := (bls bs).toArray
namespace NP
def padB (bs : List Bool) : List Bool := bs ++ List.replicate (16 - bs.length) false
theorem padB_len {bs : List Bool} (h : bs.length ≤ 16) : (padB bs).length = 16 := by simp [padB]; omega
theorem padB_set {bs : List Bool} {k : Nat} (hk : k < bs.length) (h : k < 16) : (padB (bs.take k)).set k bs[k] = padB (bs.take (k + 1)) := by
  unfold padB
  have e1 : (bs.take k).length = k := by rw [List.length_take]; omega
  have e2 : (bs.take (k + 1)).length = k + 1 := by rw [List.length_take]; omega
  rw [e1, e2, show 16 - k = (16 - (k + 1)) + 1 by omega, List.replicate_succ, List.set_append_right _ _ (by omega), e1, Nat.sub_self, List.set_cons_zero, List.take_succ_eq_append_getElem hk, List.append_assoc]
  simp
theorem padB_getD (bs : List Bool) (k : Nat) : (padB bs).getD k false = bs.getD k false := by
  unfold padB
  rcases Nat.lt_or_ge k bs.length with h | h
  · rw [List.getD_eq_getElem?_getD, List.getElem?_append_left h, List.getD_eq_getElem?_getD]
  · rw [List.getD_eq_getElem?_getD, List.getElem?_append_right h, List.getD_eq_getElem?_getD, List.getElem?_eq_none h, List.getElem?_replicate]
    split <;> rfl
def mdA (D : List Int) (E : List Bool) : Array Value := (ints D ++ bls E).toArray
theorem mdA_size (D : List Int) (E : List Bool) : (mdA D E).size = D.length + E.length := by simp [mdA]
theorem mdA_one (D : List Int) (E : List Bool) : ∀ v ∈ (mdA D E).toList, v.oneCell' = true := by
  intro v hv
  have h1 : v ∈ ints D ++ bls E := by simpa only [mdA, List.toList_toArray] using hv
  rcases List.mem_append.1 h1 with h2 | h2
  · obtain ⟨x, -, rfl⟩ := List.mem_map.1 h2; rfl
  · obtain ⟨x, -, rfl⟩ := List.mem_map.1 h2; rfl
theorem mdA_set (D : List Int) (E : List Bool) (hD : D.length = 16) (i : Nat) (b : Bool) : (mdA D E).setIfInBounds (16 + i) (.bool b) = mdA D (E.set i b) := by
  apply Array.toList_inj.1
  simp only [mdA, Array.toList_setIfInBounds, ints, bls]
  rw [List.set_append_right _ _ (by simp; omega)]
  simp [hD]
theorem mdA_int (D : List Int) (E : List Bool) (i : Nat) (h : i < D.length) : (mdA D E)[i]? = some (.int .i64 D[i]) := by
  simp only [mdA, List.getElem?_toArray]
  rw [List.getElem?_append_left (by simpa using h)]
  simp [h]
theorem mdA_bool (D : List Int) (E : List Bool) (hD : D.length = 16) (i : Nat) (h : i < E.length) : (mdA D E)[16 + i]? = some (.bool E[i]) := by
  simp only [mdA, List.getElem?_toArray]
  rw [List.getElem?_append_right (by simp; omega)]
  simp [hD, h]
/-- the marks fit the parts -/
def mkC (L : List Int) (bs : List Bool) (i : Nat) : Bool := !(bs.getD i false) || isC L i
def vmk (L : List Int) (bs : List Bool) : Bool := valid L && decide (bs.length = L.length) && (List.range L.length).all (mkC L bs)
theorem vmk_iff {L : List Int} {bs : List Bool} : vmk L bs = true ↔ valid L = true ∧ bs.length = L.length ∧ ∀ i, i < L.length → mkC L bs i = true := by
  unfold vmk
  simp only [Bool.and_eq_true, decide_eq_true_eq, List.all_eq_true, List.mem_range]
  exact ⟨fun h => ⟨h.1.1, h.1.2, h.2⟩, fun h => ⟨⟨h.1, h.2.1⟩, h.2.2⟩⟩
theorem vmk_badL {L : List Int} {bs : List Bool} (h : valid L = false) : vmk L bs = false := by unfold vmk; rw [h]; rfl
theorem vmk_badN {L : List Int} {bs : List Bool} (h : bs.length ≠ L.length) : vmk L bs = false := by
  cases hh : vmk L bs with
  | false => rfl
  | true => exact absurd (vmk_iff.1 hh).2.1 h
theorem vmk_badC {L : List Int} {bs : List Bool} {i : Nat} (hi : i < L.length) (h : mkC L bs i = false) : vmk L bs = false := by
  cases hh : vmk L bs with
  | false => rfl
  | true => have := (vmk_iff.1 hh).2.2 i hi; rw [h] at this; cases this
def mdD (L : List Int) (bs : List Bool) : List Int := if vmk L bs then pad L else List.replicate 16 0
def mdE (L : List Int) (bs : List Bool) : List Bool := if vmk L bs then padB bs else List.replicate 16 false
theorem md_no {L : List Int} {bs : List Bool} (h : vmk L bs = false) : mdD L bs = List.replicate 16 0 ∧ mdE L bs = List.replicate 16 false := by
  constructor
  · unfold mdD; rw [h]; rfl
  · unfold mdE; rw [h]; rfl
theorem md_yes {L : List Int} {bs : List Bool} (h : vmk L bs = true) : mdD L bs = pad L ∧ mdE L bs = padB bs := by
  constructor
  · unfold mdD; rw [h]; rfl
  · unfold mdE; rw [h]; rfl
theorem md_len (L : List Int) (bs : List Bool) : (mdD L bs).length = 16 ∧ (mdE L bs).length = 16 := by
  cases h : vmk L bs with
  | false => rw [(md_no h).1, (md_no h).2]; exact ⟨rfl, rfl⟩
  | true =>
    have h1 := vmk_iff.1 h
    have h2 := (valid_bd h1.1).2.2.2
    rw [(md_yes h).1, (md_yes h).2]
    exact ⟨pad_len h2, padB_len (by omega)⟩
/-- the parts whose mark is b, of the first n -/
def sel (b : Bool) (L : List Int) (bs : List Bool) (n : Nat) : List Int := ((List.range n).filter fun i => bs.getD i false == b).map fun i => L.getD i 0
theorem sel_succ (b : Bool) (L : List Int) (bs : List Bool) (n : Nat) : sel b L bs (n + 1) = sel b L bs n ++ if bs.getD n false = b then [L.getD n 0] else [] := by
  unfold sel
  rw [List.range_succ, List.filter_append, List.map_append]
  congr 1
  by_cases h : bs.getD n false = b
  · rw [if_pos h, List.filter_cons, if_pos (beq_iff_eq.2 h)]; rfl
  · rw [if_neg h, List.filter_cons, if_neg (fun hh => h (beq_iff_eq.1 hh))]; rfl
theorem sel_len (b : Bool) (L : List Int) (bs : List Bool) (n : Nat) : (sel b L bs n).length ≤ n := by
  unfold sel
  rw [List.length_map]
  exact Nat.le_trans (List.length_filter_le _ _) (by simp)
def selF (b : Bool) (L : List Int) (bs : List Bool) : List Int := if vmk L bs then sel b L bs L.length else []
theorem selF_yes {b : Bool} {L : List Int} {bs : List Bool} (h : vmk L bs = true) : selF b L bs = sel b L bs L.length := by unfold selF; rw [h]; rfl
theorem selF_no {b : Bool} {L : List Int} {bs : List Bool} (h : vmk L bs = false) : selF b L bs = [] := by unfold selF; rw [h]; rfl
theorem selF_len (b : Bool) (L : List Int) (bs : List Bool) : (selF b L bs).length ≤ 16 := by
  cases h : vmk L bs with
  | false => rw [selF_no h]; simp
  | true =>
    rw [selF_yes h]
    have := sel_len b L bs L.length
    have := (valid_bd (vmk_iff.1 h).1).2.2.2
    omega
/-- marks of the first k corners of a row, each told by a function of its index -/
def mks (D : List Int) (f : Nat → Bool) (n : Nat) : List Bool := (List.range 16).map fun i => decide (i < n) && isCD D i && f i
theorem mks_len (D : List Int) (f : Nat → Bool) (n : Nat) : (mks D f n).length = 16 := by simp [mks]
end NP
end Go.Proofs.Ytbbbfaollcklkaa
