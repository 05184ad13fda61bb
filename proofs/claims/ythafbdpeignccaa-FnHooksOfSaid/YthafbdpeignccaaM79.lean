/-
  Plain mathematics: hooks divide all orders.
-/
import Derived.Test.YthafbdpeignccaaM78
import Derived.Test.YthafbdpeignccaaW117
namespace Go.Proofs.Ythafbdpeignccaa
open Go.RowKit NP
set_option linter.unusedVariables false
def prodL : List Int → Int
  | [] => 1
  | x :: r => x * prodL r
theorem prodL_append (A B : List Int) : prodL (A ++ B) = prodL A * prodL B := by
  induction A with
  | nil => simp [prodL]
  | cons x r ih => simp only [List.cons_append, prodL, ih, Int.mul_assoc]
theorem prodL_ge1 {A : List Int} (h : ∀ x ∈ A, 1 ≤ x) : 1 ≤ prodL A := by
  induction A with
  | nil => exact Int.le_refl _
  | cons x r ih => exact (mul_ge1 (h x (by simp)) (ih fun y hy => h y (by simp [hy]))).2
theorem prodL_le {A B : List Int} (hA : ∀ x ∈ A, 1 ≤ x) (hB : ∀ x ∈ B, 1 ≤ x) : prodL A ≤ prodL (A ++ B) := by
  rw [prodL_append]
  exact (mul_ge1 (prodL_ge1 hA) (prodL_ge1 hB)).1
def hAll (P : List Int) : List Int := (hkL P P.length).flatten
def hTab (N : List Nat) : Bool :=
  let L := N.map Int.ofNat
  let H := hAll L
  H.all (fun x => decide (1 ≤ x) && decide (x ≤ 16)) && decide (prodL H ≤ 100000000000000) && (Nat.blt 12 (N.foldl (· + ·) 0) || decide (prodL H * gF L = (factN (N.foldl (· + ·) 0) : Int)))
set_option maxRecDepth 100000 in
theorem hTab_all : all16.all hTab = true := by decide +kernel
theorem hk_facts {L : List Int} (hv : valid L = true) : (∀ x ∈ hAll L, 1 ≤ x ∧ x ≤ 16) ∧ prodL (hAll L) ≤ 100000000000000 ∧ (sumL L ≤ 12 → prodL (hAll L) * gF L = (factN (sumL L).toNat : Int)) := by
  obtain ⟨N, hN, rfl⟩ := of_all hTab_all hv
  unfold hTab at hN
  simp only [Bool.or_eq_true, Bool.and_eq_true, decide_eq_true_eq, List.all_eq_true] at hN
  obtain ⟨⟨h1, h2⟩, h3⟩ := hN
  refine ⟨h1, h2, fun h => ?_⟩
  rw [sum_ofNat] at h ⊢
  have hlt : ¬ Nat.blt 12 (N.foldl (· + ·) 0) = true := by rw [Nat.blt_eq]; omega
  rw [h3.resolve_left hlt, Int.toNat_natCast]
theorem fact_bd : ∀ n : Nat, n < 13 → factN n ≤ 479001600 ∧ factN (n + 1) = factN n * (n + 1) := by decide +kernel
/-- the rows ahead, and so much of this one, are the head of all -/
theorem hAll_split {P : List Int} {i k : Nat} (hi : i < P.length) (hk : k ≤ (P.getD i 0).toNat) : ∃ B, hAll P = ((hkL P i).flatten ++ hkR P i k) ++ B := by
  have h1 : hkL P P.length = hkL P i ++ (hkR P i (P.getD i 0).toNat :: ((List.range P.length).drop (i + 1)).map fun (j : Nat) => hkR P j (P.getD j 0).toNat) := by
    unfold hkL
    have e : List.range P.length = List.range i ++ (i :: (List.range P.length).drop (i + 1)) := by
      have h2 := List.take_append_drop i (List.range P.length)
      rw [List.take_range, Nat.min_eq_left (by omega)] at h2
      have h3 : (List.range P.length).drop i = i :: (List.range P.length).drop (i + 1) := by
        rw [List.drop_eq_getElem_cons (by simpa using hi)]
        simp
      rw [h3] at h2
      exact h2.symm
    conv => lhs; rw [e]
    rw [List.map_append, List.map_cons]
  have h2 : hkR P i (P.getD i 0).toNat = hkR P i k ++ (hkR P i (P.getD i 0).toNat).drop k := by
    have h3 := List.take_append_drop k (hkR P i (P.getD i 0).toNat)
    have h4 : (hkR P i (P.getD i 0).toNat).take k = hkR P i k := by
      unfold hkR
      rw [← List.map_take, List.take_range, Nat.min_eq_left hk]
    rw [h4] at h3
    exact h3.symm
  refine ⟨(hkR P i (P.getD i 0).toNat).drop k ++ (((List.range P.length).drop (i + 1)).map fun (j : Nat) => hkR P j (P.getD j 0).toNat).flatten, ?_⟩
  unfold hAll
  rw [h1, List.flatten_append, List.flatten_cons]
  conv => lhs; rw [h2]
  simp
/-- the product so far -/
def hPr (P : List Int) (i k : Nat) : Int := prodL ((hkL P i).flatten ++ hkR P i k)
theorem hPr_bd {P : List Int} (hv : valid P = true) {i k : Nat} (hi : i < P.length) (hk : k ≤ (P.getD i 0).toNat) : 1 ≤ hPr P i k ∧ hPr P i k ≤ 100000000000000 := by
  obtain ⟨B, hB⟩ := hAll_split hi hk
  obtain ⟨h1, h2, -⟩ := hk_facts hv
  rw [hB] at h1 h2
  have hA : ∀ x ∈ (hkL P i).flatten ++ hkR P i k, 1 ≤ x := fun x hx => (h1 x (List.mem_append_left _ hx)).1
  have hBB : ∀ x ∈ B, 1 ≤ x := fun x hx => (h1 x (List.mem_append_right _ hx)).1
  exact ⟨prodL_ge1 hA, Int.le_trans (prodL_le hA hBB) h2⟩
theorem hkR_succ (P : List Int) (i k : Nat) : hkR P i (k + 1) = hkR P i k ++ [P.getD i 0 - (k : Int) + (conj P).getD k 0 - (i : Int) - 1] := by unfold hkR; rw [List.range_succ, List.map_append]; rfl
theorem hPr_succ (P : List Int) (i k : Nat) : hPr P i (k + 1) = hPr P i k * (P.getD i 0 - (k : Int) + (conj P).getD k 0 - (i : Int) - 1) := by
  unfold hPr
  rw [hkR_succ, ← List.append_assoc, prodL_append]
  simp [prodL]
theorem hkL_succ' (P : List Int) (i : Nat) : hkL P (i + 1) = hkL P i ++ [hkR P i (P.getD i 0).toNat] := by unfold hkL; rw [List.range_succ, List.map_append]; rfl
theorem hPr_next (P : List Int) (i : Nat) : prodL (hkL P (i + 1)).flatten = hPr P i (P.getD i 0).toNat := by
  unfold hPr
  rw [hkL_succ', List.flatten_append]
  simp
theorem hPr_zero (P : List Int) (i : Nat) : hPr P i 0 = prodL (hkL P i).flatten := by unfold hPr hkR; simp
end Go.Proofs.Ythafbdpeignccaa
