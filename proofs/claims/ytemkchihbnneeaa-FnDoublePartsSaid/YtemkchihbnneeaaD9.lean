/-
  Walks: the draws of squares and doubled parts.
-/
import Derived.Test.YtemkchihbnneeaaD5
import Derived.Test.YtemkchihbnneeaaD4
import Derived.Test.YtemkchihbnneeaaW28
namespace Go.Proofs.Ytemkchihbnneeaa
open Go.RowKit NP
set_option linter.unusedVariables false
set_option linter.unusedSimpArgs false

set_option maxHeartbeats 1000000 in
theorem DrawSquareCut_any (a : Option Addr) (c B : Nat) (bs : List Int) (w : World) (h : Rd w B a (bs.map (Value.int .u8))) (hB : B ≤ w.heap.size) (hb : ∀ n ∈ bs, (Lit.int .u8 n).wf = true) (hl : bs.length ≤ 1048576) (hc : bs.length ≤ c) :
    Calls Try.prog 39 #[.slice a bs.length c] w fun e w' => ∃ a' c' M, e = .returned (.slice a' M.length c') ∧ Own w' w.heap.size w'.heap.size 3 (.slice a' M.length c') (ints M) ∧ Small M ∧ Below w.heap.size w w' := by
  go_enter Try.func39, Try.ntmps39
  go_wp2_with fail
  refine (newReader_any _ _ B bs _ h hB hb hl hc).mono ?_
  rintro e w1 ⟨rfl, h1, hb1, -⟩
  go_wp2_with fail
  refine (someParts_any _ 0 _ _ (by omega) h1).mono ?_
  rintro e w2 ⟨a', c', M, rfl, ho, hs, -, hb2⟩
  go_wp2_with fail
  go_ret
  exact ⟨a', c', M, rfl, ho.lower hb1.size, hs, hb1.trans hb2⟩

set_option maxHeartbeats 1000000 in
theorem DrawDoubleParts_any (a : Option Addr) (c B : Nat) (bs : List Int) (w : World) (h : Rd w B a (bs.map (Value.int .u8))) (hB : B ≤ w.heap.size) (hb : ∀ n ∈ bs, (Lit.int .u8 n).wf = true) (hl : bs.length ≤ 1048576) (hc : bs.length ≤ c) :
    Calls Try.prog 45 #[.slice a bs.length c] w fun e w' => ∃ a' c' M, e = .returned (.slice a' M.length c') ∧ Own w' w.heap.size w'.heap.size 3 (.slice a' M.length c') (ints M) ∧ Small M ∧ Below w.heap.size w w' := by
  go_enter Try.func45, Try.ntmps45
  go_wp2_with fail
  refine (newReader_any _ _ B bs _ h hB hb hl hc).mono ?_
  rintro e w1 ⟨rfl, h1, hb1, -⟩
  clear hb hl hc h
  have hlt := h1.lt
  obtain ⟨rs, hrs⟩ : ∃ rs, rs = bs.take 2000 := ⟨_, rfl⟩
  rw [← hrs] at h1
  clear hrs
  go_wp2_with fail
  refine (one_any w.heap.size _ _ _ _ [4, 5, 6, 8, 3, 2, 1, 0, 9] rs _ (by simp) (by simp) (by omega) (h1.below ((Below.refl _ _).alloc hlt _)) (rd_new w1 _ _) (by intro b o e; injection e with e; injection e with e; omega)).mono ?_
  rintro e w2 ⟨k, hk, rfl, h2, hg2, -⟩
  have hx : ∀ x ∈ ([4, 5, 6, 8, 3, 2, 1, 0, 9] : List Int), 0 ≤ x ∧ x ≤ 16 := by decide
  have hx1 := hx _ (List.getElem_mem hk)
  obtain ⟨x, hxx⟩ : ∃ x, x = ([4, 5, 6, 8, 3, 2, 1, 0, 9] : List Int)[k] := ⟨_, rfl⟩
  rw [← hxx] at hx1 ⊢
  clear hx hxx hk h1
  have hG2 := chg_trans (World.grownBy_alloc w1 (.cells (ints [4, 5, 6, 8, 3, 2, 1, 0, 9]).toArray 3) (some w.heap.size)) hg2
  clear hg2
  go_wp2_with fail
  refine (partsOf_any w.heap.size _ x rs _ hx1.1 hx1.2 (by omega) h2).mono ?_
  rintro e w3 ⟨a1, c1, M1, rfl, ho1, hs1, ⟨q3, hq3, h3⟩, hg3⟩
  have hG3 := chg_trans hG2 hg3
  have hz2 := hG2.size
  replace ho1 := ho1.lower hz2
  have hz3 := hG3.size
  clear hx1 h2 hG2 hg3
  go_wp2_with fail
  refine (bent_any w.heap.size q3 w1.heap.size _ _ M1 rs _ (by omega) h3 hs1 ho1 hlt hz3).mono ?_
  rintro e w4 ⟨a2, c2, M2, rfl, ho2, hs2, -, hb4⟩
  go_wp2_with fail
  go_ret
  exact ⟨a2, c2, M2, rfl, ho2.lower hb1.size, hs2, (chg_low3 hb1 (Nat.le_refl _) (Nat.le_refl _) hG3).trans (hb4.below (by omega))⟩

end Go.Proofs.Ytemkchihbnneeaa
