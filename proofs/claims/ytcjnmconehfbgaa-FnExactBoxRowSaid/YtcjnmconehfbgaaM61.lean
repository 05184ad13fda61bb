/-
  Plain mathematics: the rows of boxes, by adding rows of smaller ones.
-/
import Derived.Test.YtcjnmconehfbgaaBase
namespace Go.Proofs.Ytcjnmconehfbgaa
open Go.RowKit
set_option linter.unusedVariables false
/-- out with the first k of x added from off on -/
def ad (out x : List Int) (off k : Nat) : List Int := (List.range out.length).map fun i => out.getD i 0 + if off ≤ i ∧ i < off + k then x.getD (i - off) 0 else 0
theorem ad_len (out x : List Int) (off k : Nat) : (ad out x off k).length = out.length := by simp [ad]
theorem ad_get (out x : List Int) (off k i : Nat) (h : i < out.length) : (ad out x off k)[i]'(by rw [ad_len]; exact h) = out[i] + if off ≤ i ∧ i < off + k then x.getD (i - off) 0 else 0 := by
  simp [ad, List.getD_eq_getElem?_getD, h]
theorem ad_zero (out x : List Int) (off : Nat) : ad out x off 0 = out := by
  refine List.ext_getElem (ad_len _ _ _ _) fun i h1 h2 => ?_
  rw [ad_get _ _ _ _ _ h2, if_neg (by omega)]
  omega
theorem ad_here (out x : List Int) (off k : Nat) (h : off + k < out.length) : (ad out x off k)[off + k]'(by rw [ad_len]; exact h) = out[off + k] := by
  rw [ad_get _ _ _ _ _ h, if_neg (by omega)]
  omega
theorem ad_step (out x : List Int) (off k : Nat) (h : off + k < out.length) (hk : k < x.length) : (ad out x off k).set (off + k) (out[off + k] + x[k]) = ad out x off (k + 1) := by
  refine List.ext_getElem (by simp [ad_len]) fun i h1 h2 => ?_
  have hi : i < out.length := by rw [ad_len] at h2; exact h2
  rw [List.getElem_set, ad_get _ _ _ _ _ hi]
  by_cases he : off + k = i
  · subst he
    rw [if_pos rfl, ad_get _ _ _ _ _ h, if_pos (by omega)]
    simp [List.getD_eq_getElem?_getD, hk]
  · rw [if_neg he, ad_get _ _ _ _ _ hi]
    by_cases hc : off ≤ i ∧ i < off + k
    · rw [if_pos hc, if_pos (by omega)]
    · rw [if_neg hc, if_neg (by omega)]
theorem ad_bd (out x : List Int) (off k : Nat) (u v : Int) (hu : ∀ y ∈ out, 0 ≤ y ∧ y ≤ u) (hv : ∀ y ∈ x, 0 ≤ y ∧ y ≤ v) (h0 : 0 ≤ u) (h1 : 0 ≤ v) : ∀ y ∈ ad out x off k, 0 ≤ y ∧ y ≤ u + v := by
  intro y hy
  unfold ad at hy
  obtain ⟨i, hi, rfl⟩ := List.mem_map.1 hy
  have hi := List.mem_range.1 hi
  have e1 : out.getD i 0 = out[i] := by simp [List.getD_eq_getElem?_getD, hi]
  have e2 := hu _ (List.getElem_mem hi)
  have e3 : 0 ≤ x.getD (i - off) 0 ∧ x.getD (i - off) 0 ≤ v := by
    by_cases hc : i - off < x.length
    · have e4 : x.getD (i - off) 0 = x[i - off] := by simp [List.getD_eq_getElem?_getD, hc]
      rw [e4]; exact hv _ (List.getElem_mem hc)
    · have e4 : x.getD (i - off) 0 = 0 := by simp [List.getD_eq_getElem?_getD, List.getElem?_eq_none (Nat.le_of_not_lt hc)]
      rw [e4]; omega
  rw [e1]
  split <;> omega
def gnext (a : Nat) (g : Nat → List Int) : Nat → List Int
  | 0 => [1]
  | b + 1 => ad (ad (List.replicate ((a + 1) * (b + 1) + 1) 0) (gnext a g b) 0 (gnext a g b).length) (g (b + 1)) (b + 1) (g (b + 1)).length
def gbox : Nat → Nat → List Int
  | 0 => fun _ => [1]
  | a + 1 => gnext a (gbox a)
theorem gbox_zero (a b : Nat) (h : a = 0 ∨ b = 0) : gbox a b = [1] := by
  cases a with
  | zero => rfl
  | succ a =>
    obtain rfl : b = 0 := by omega
    rfl
theorem gbox_next (a b : Nat) : gbox (a + 1) (b + 1) = ad (ad (List.replicate ((a + 1) * (b + 1) + 1) 0) (gbox (a + 1) b) 0 (gbox (a + 1) b).length) (gbox a (b + 1)) (b + 1) (gbox a (b + 1)).length := rfl
theorem gbox_len (a b : Nat) : (gbox a b).length = a * b + 1 := by
  cases a with
  | zero => simp [gbox]
  | succ a =>
    cases b with
    | zero => rfl
    | succ b => rw [gbox_next, ad_len, ad_len, List.length_replicate]
def gboxTab : Bool := (List.range 5).all fun a => (List.range 5).all fun b => (gbox a b).all fun x => decide (0 ≤ x) && decide (x ≤ 100)
theorem gboxTab_all : gboxTab = true := by decide +kernel
theorem gbox_bd {a b : Nat} (ha : a ≤ 4) (hb : b ≤ 4) : ∀ x ∈ gbox a b, 0 ≤ x ∧ x ≤ 100 := by
  intro x hx
  have h := gboxTab_all
  unfold gboxTab at h
  have h1 := List.all_eq_true.1 h a (by simp; omega)
  have h2 := List.all_eq_true.1 h1 b (by simp; omega)
  have h3 := List.all_eq_true.1 h2 x hx
  simpa using h3
end Go.Proofs.Ytcjnmconehfbgaa
