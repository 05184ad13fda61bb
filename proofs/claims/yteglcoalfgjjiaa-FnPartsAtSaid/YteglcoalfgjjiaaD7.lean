/-
  Walks: the draws of a sum and a place.
-/
import Derived.Test.YteglcoalfgjjiaaD3
import Derived.Test.YteglcoalfgjjiaaD4
import Derived.Test.YteglcoalfgjjiaaM21
import Derived.Test.YteglcoalfgjjiaaC1
namespace Go.Proofs.Yteglcoalfgjjiaa
open Go.RowKit NP
set_option linter.unusedVariables false

theorem Int.emod_le_of_nonneg' {k : Int} (hk : 0 ≤ k) (m : Int) : k % m ≤ k := by
  rcases Int.lt_trichotomy m 0 with h | h | h
  · have := Int.emod_lt_of_neg k h
    rw [← Int.emod_neg]
    rcases Int.lt_or_le k (-m) with h1 | h1
    · rw [Int.emod_eq_of_lt hk h1]; exact Int.le_refl _
    · have := Int.emod_lt_of_pos k (show 0 < -m by omega); omega
  · subst h; simp
  · rcases Int.lt_or_le k m with h1 | h1
    · rw [Int.emod_eq_of_lt hk h1]; exact Int.le_refl _
    · have := Int.emod_lt_of_pos k h; omega

set_option maxHeartbeats 1000000 in
theorem DrawPartsAt_any (a : Option Addr) (c B : Nat) (bs : List Int) (w : World) (h : Rd w B a (bs.map (Value.int .u8))) (hB : B ≤ w.heap.size) (hb : ∀ n ∈ bs, (Lit.int .u8 n).wf = true) (hl : bs.length ≤ 1048576) (hc : bs.length ≤ c) :
    Calls Try.prog 24 #[.slice a bs.length c] w fun e w' => ∃ n k : Int, e = .returned (.tuple #[.int .i64 n, .int .i64 k]) ∧ (-1 ≤ n ∧ n ≤ 17) ∧ (-1 ≤ k ∧ k ≤ 230) ∧ Below w.heap.size w w' := by
  go_enter Try.func24, Try.ntmps24
  go_wp2_with fail
  refine (newReader_any _ _ B bs _ h hB hb hl hc).mono ?_
  rintro e w1 ⟨rfl, h1, hb1, -⟩
  generalize bs.take 2000 = rs at h1
  have hlt1 := h1.lt
  have hs1 := hb1.size
  clear hb hl hc h hB
  go_wp2_with fail
  refine (one_any w.heap.size _ _ _ _ [6, 8, 5, 9, 12, 4, 3, 16, 2, 1, 0, 10, 17, -1] rs _ (by simp) (by simp) (by omega) (h1.below ((Below.refl _ _).alloc hlt1 _)) (rd_new w1 _ _) (by intro b o e; injection e with e; injection e with e; omega)).mono ?_
  rintro e w2 ⟨i, hi, rfl, h2, hg2, -⟩
  have hx : ∀ x ∈ ([6, 8, 5, 9, 12, 4, 3, 16, 2, 1, 0, 10, 17, -1] : List Int), -1 ≤ x ∧ x ≤ 17 := by decide
  have hx1 := hx _ (List.getElem_mem hi)
  obtain ⟨n, hxx⟩ : ∃ x, x = ([6, 8, 5, 9, 12, 4, 3, 16, 2, 1, 0, 10, 17, -1] : List Int)[i] := ⟨_, rfl⟩
  rw [← hxx] at hx1 ⊢
  have hbel2 := chg_low3 (hb1.alloc hs1 (.cells (ints [6, 8, 5, 9, 12, 4, 3, 16, 2, 1, 0, 10, 17, -1]).toArray 3)) (Nat.le_refl _) (Nat.le_refl _) hg2
  clear hx hxx hi h1 hg2 hb1 hs1 hlt1
  go_wp2_with fail
  refine (pick_any w.heap.size _ _ rs _ (by omega) (by omega) h2).mono ?_
  rintro e w3 ⟨k, rfl, hk0, hk1, h3, hg3, -⟩
  have hk2 := hk1 (by omega)
  have hbel3 := chg_low3 hbel2 (Nat.le_refl _) (Nat.le_refl _) hg3
  have hlt3 := h3.lt
  have hs3 := hbel3.size
  clear hk1 h2 hg3 hbel2
  have hq7 : 0 ≤ k % 7 ∧ k % 7 ≤ 230 := by omega
  by_cases hn16 : 16 < n
  · have hcb := ctZ_bd 16 16 (by omega)
    go_wp2_with fail
    refine (countTo_at 16 16 _ (by omega) (by omega) (by omega) (by omega)).mono ?_
    rintro e wv ⟨rfl, rfl⟩
    generalize ctZ 16 16 = z at *
    by_cases hz : z < 1
    · have hz1 : z = 0 := by omega
      subst hz1
      have hM : (1 : Int) ≠ 0 := by omega
      have hM2 : ¬ (1 : Int) = 0 := by omega
      have hrm : 0 ≤ (0 : Int) ∧ (0 : Int) ≤ 230 := by
        have := Int.emod_nonneg k hM
        have := Int.emod_le_of_nonneg' hk0 (1 : Int)
        omega
      go_wp2_with fail
      refine (one_any w.heap.size _ _ _ _ [(0 : Int), k, 0, -1, k % 7] rs _ (by simp) (by simp) (by omega) (h3.below ((Below.refl _ _).alloc hlt3 _)) (rd_new w3 _ _) (by intro b o e; injection e with e; injection e with e; omega)).mono ?_
      rintro e w6 ⟨j, hj, rfl, h6, hg6, -⟩
      have hx : ∀ x ∈ ([(0 : Int), k, 0, -1, k % 7] : List Int), -1 ≤ x ∧ x ≤ 230 := by
        intro x hx
        simp only [List.mem_cons, List.not_mem_nil, or_false] at hx
        omega
      have hx6 := hx _ (List.getElem_mem hj)
      obtain ⟨x6, hxx⟩ : ∃ x, x = ([(0 : Int), k, 0, -1, k % 7] : List Int)[j] := ⟨_, rfl⟩
      rw [← hxx] at hx6 ⊢
      clear hx hxx hj
      have hbel6 := chg_low3 (hbel3.alloc hs3 (.cells (ints [(0 : Int), k, 0, -1, k % 7]).toArray 3)) (Nat.le_refl _) (Nat.le_refl _) hg6
      clear hg6
      go_wp2_with fail
      go_ret2
      exact ⟨n, x6, rfl, hx1, hx6, hbel6⟩
    · have hM : z ≠ 0 := by omega
      have hM2 : ¬ z = 0 := by omega
      have hrm : 0 ≤ k % z ∧ k % z ≤ 230 := by
        have := Int.emod_nonneg k hM
        have := Int.emod_le_of_nonneg' hk0 z
        omega
      go_wp2_with fail
      refine (one_any w.heap.size _ _ _ _ [k % z, k, 0, -1, k % 7] rs _ (by simp) (by simp) (by omega) (h3.below ((Below.refl _ _).alloc hlt3 _)) (rd_new w3 _ _) (by intro b o e; injection e with e; injection e with e; omega)).mono ?_
      rintro e w6 ⟨j, hj, rfl, h6, hg6, -⟩
      have hx : ∀ x ∈ ([k % z, k, 0, -1, k % 7] : List Int), -1 ≤ x ∧ x ≤ 230 := by
        intro x hx
        simp only [List.mem_cons, List.not_mem_nil, or_false] at hx
        omega
      have hx6 := hx _ (List.getElem_mem hj)
      obtain ⟨x6, hxx⟩ : ∃ x, x = ([k % z, k, 0, -1, k % 7] : List Int)[j] := ⟨_, rfl⟩
      rw [← hxx] at hx6 ⊢
      clear hx hxx hj
      have hbel6 := chg_low3 (hbel3.alloc hs3 (.cells (ints [k % z, k, 0, -1, k % 7]).toArray 3)) (Nat.le_refl _) (Nat.le_refl _) hg6
      clear hg6
      go_wp2_with fail
      go_ret2
      exact ⟨n, x6, rfl, hx1, hx6, hbel6⟩
  · by_cases hn0 : n < 0
    · have hcb := ctZ_bd 0 0 (by omega)
      go_wp2_with fail
      refine (countTo_at 0 0 _ (by omega) (by omega) (by omega) (by omega)).mono ?_
      rintro e wv ⟨rfl, rfl⟩
      generalize ctZ 0 0 = z at *
      by_cases hz : z < 1
      · have hz1 : z = 0 := by omega
        subst hz1
        have hM : (1 : Int) ≠ 0 := by omega
        have hM2 : ¬ (1 : Int) = 0 := by omega
        have hrm : 0 ≤ (0 : Int) ∧ (0 : Int) ≤ 230 := by
          have := Int.emod_nonneg k hM
          have := Int.emod_le_of_nonneg' hk0 (1 : Int)
          omega
        go_wp2_with fail
        refine (one_any w.heap.size _ _ _ _ [(0 : Int), k, 0, -1, k % 7] rs _ (by simp) (by simp) (by omega) (h3.below ((Below.refl _ _).alloc hlt3 _)) (rd_new w3 _ _) (by intro b o e; injection e with e; injection e with e; omega)).mono ?_
        rintro e w6 ⟨j, hj, rfl, h6, hg6, -⟩
        have hx : ∀ x ∈ ([(0 : Int), k, 0, -1, k % 7] : List Int), -1 ≤ x ∧ x ≤ 230 := by
          intro x hx
          simp only [List.mem_cons, List.not_mem_nil, or_false] at hx
          omega
        have hx6 := hx _ (List.getElem_mem hj)
        obtain ⟨x6, hxx⟩ : ∃ x, x = ([(0 : Int), k, 0, -1, k % 7] : List Int)[j] := ⟨_, rfl⟩
        rw [← hxx] at hx6 ⊢
        clear hx hxx hj
        have hbel6 := chg_low3 (hbel3.alloc hs3 (.cells (ints [(0 : Int), k, 0, -1, k % 7]).toArray 3)) (Nat.le_refl _) (Nat.le_refl _) hg6
        clear hg6
        go_wp2_with fail
        go_ret2
        exact ⟨n, x6, rfl, hx1, hx6, hbel6⟩
      · have hM : z ≠ 0 := by omega
        have hM2 : ¬ z = 0 := by omega
        have hrm : 0 ≤ k % z ∧ k % z ≤ 230 := by
          have := Int.emod_nonneg k hM
          have := Int.emod_le_of_nonneg' hk0 z
          omega
        go_wp2_with fail
        refine (one_any w.heap.size _ _ _ _ [k % z, k, 0, -1, k % 7] rs _ (by simp) (by simp) (by omega) (h3.below ((Below.refl _ _).alloc hlt3 _)) (rd_new w3 _ _) (by intro b o e; injection e with e; injection e with e; omega)).mono ?_
        rintro e w6 ⟨j, hj, rfl, h6, hg6, -⟩
        have hx : ∀ x ∈ ([k % z, k, 0, -1, k % 7] : List Int), -1 ≤ x ∧ x ≤ 230 := by
          intro x hx
          simp only [List.mem_cons, List.not_mem_nil, or_false] at hx
          omega
        have hx6 := hx _ (List.getElem_mem hj)
        obtain ⟨x6, hxx⟩ : ∃ x, x = ([k % z, k, 0, -1, k % 7] : List Int)[j] := ⟨_, rfl⟩
        rw [← hxx] at hx6 ⊢
        clear hx hxx hj
        have hbel6 := chg_low3 (hbel3.alloc hs3 (.cells (ints [k % z, k, 0, -1, k % 7]).toArray 3)) (Nat.le_refl _) (Nat.le_refl _) hg6
        clear hg6
        go_wp2_with fail
        go_ret2
        exact ⟨n, x6, rfl, hx1, hx6, hbel6⟩
    · have hcb := ctZ_bd n n (by omega)
      go_wp2_with fail
      refine (countTo_at n n _ (by omega) (by omega) (by omega) (by omega)).mono ?_
      rintro e wv ⟨rfl, rfl⟩
      generalize ctZ n n = z at *
      by_cases hz : z < 1
      · have hz1 : z = 0 := by omega
        subst hz1
        have hM : (1 : Int) ≠ 0 := by omega
        have hM2 : ¬ (1 : Int) = 0 := by omega
        have hrm : 0 ≤ (0 : Int) ∧ (0 : Int) ≤ 230 := by
          have := Int.emod_nonneg k hM
          have := Int.emod_le_of_nonneg' hk0 (1 : Int)
          omega
        go_wp2_with fail
        refine (one_any w.heap.size _ _ _ _ [(0 : Int), k, 0, -1, k % 7] rs _ (by simp) (by simp) (by omega) (h3.below ((Below.refl _ _).alloc hlt3 _)) (rd_new w3 _ _) (by intro b o e; injection e with e; injection e with e; omega)).mono ?_
        rintro e w6 ⟨j, hj, rfl, h6, hg6, -⟩
        have hx : ∀ x ∈ ([(0 : Int), k, 0, -1, k % 7] : List Int), -1 ≤ x ∧ x ≤ 230 := by
          intro x hx
          simp only [List.mem_cons, List.not_mem_nil, or_false] at hx
          omega
        have hx6 := hx _ (List.getElem_mem hj)
        obtain ⟨x6, hxx⟩ : ∃ x, x = ([(0 : Int), k, 0, -1, k % 7] : List Int)[j] := ⟨_, rfl⟩
        rw [← hxx] at hx6 ⊢
        clear hx hxx hj
        have hbel6 := chg_low3 (hbel3.alloc hs3 (.cells (ints [(0 : Int), k, 0, -1, k % 7]).toArray 3)) (Nat.le_refl _) (Nat.le_refl _) hg6
        clear hg6
        go_wp2_with fail
        go_ret2
        exact ⟨n, x6, rfl, hx1, hx6, hbel6⟩
      · have hM : z ≠ 0 := by omega
        have hM2 : ¬ z = 0 := by omega
        have hrm : 0 ≤ k % z ∧ k % z ≤ 230 := by
          have := Int.emod_nonneg k hM
          have := Int.emod_le_of_nonneg' hk0 z
          omega
        go_wp2_with fail
        refine (one_any w.heap.size _ _ _ _ [k % z, k, 0, -1, k % 7] rs _ (by simp) (by simp) (by omega) (h3.below ((Below.refl _ _).alloc hlt3 _)) (rd_new w3 _ _) (by intro b o e; injection e with e; injection e with e; omega)).mono ?_
        rintro e w6 ⟨j, hj, rfl, h6, hg6, -⟩
        have hx : ∀ x ∈ ([k % z, k, 0, -1, k % 7] : List Int), -1 ≤ x ∧ x ≤ 230 := by
          intro x hx
          simp only [List.mem_cons, List.not_mem_nil, or_false] at hx
          omega
        have hx6 := hx _ (List.getElem_mem hj)
        obtain ⟨x6, hxx⟩ : ∃ x, x = ([k % z, k, 0, -1, k % 7] : List Int)[j] := ⟨_, rfl⟩
        rw [← hxx] at hx6 ⊢
        clear hx hxx hj
        have hbel6 := chg_low3 (hbel3.alloc hs3 (.cells (ints [k % z, k, 0, -1, k % 7]).toArray 3)) (Nat.le_refl _) (Nat.le_refl _) hg6
        clear hg6
        go_wp2_with fail
        go_ret2
        exact ⟨n, x6, rfl, hx1, hx6, hbel6⟩
end Go.Proofs.Yteglcoalfgjjiaa
