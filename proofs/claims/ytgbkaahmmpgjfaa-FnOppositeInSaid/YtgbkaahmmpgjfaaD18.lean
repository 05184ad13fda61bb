/-
  Walks: draws of boxes.
-/
import Derived.Test.YtgbkaahmmpgjfaaD3a
import Derived.OwnWalk
namespace Go.Proofs.Ytgbkaahmmpgjfaa
open Go.RowKit NP
set_option linter.unusedVariables false
theorem chg_low5 {B : Nat} {b c : World} {w0 : World} {g : Nat} (hb : Below B w0 b) (hB : B ≤ w0.heap.size) (hg : B ≤ g) (h : b.grownBy c (some g)) : Below B w0 c := hb.grown h (by have := hb.size; omega) fun k hk => by injection hk with hk; omega
theorem aSide_any (g q : Nat) (bs : List Int) (w : World) (hq : q ≤ 900000) (h : Rdr w g bs q) :
    Calls Try.prog 48 #[.pointer (some ⟨g, 0, none⟩)] w fun e w' => ∃ n : Int, e = .returned (.int .i64 n) ∧ (-1 ≤ n ∧ n ≤ 5) ∧ Rdr w' g bs (q + 1) ∧ w.grownBy w' (some g) := by
  have hlt := h.lt
  go_enter Try.func48, Try.ntmps48
  go_wp2_with fail
  refine (one_any g _ _ _ _ [3, 2, 4, 1, 3, 0, 5, -1] bs _ (by simp) (by simp) (by omega) (h.below ((Below.refl _ _).alloc hlt _)) (rd_new w _ _) (by intro b o e; injection e with e; injection e with e; omega)).mono ?_
  rintro e w1 ⟨k, hk, rfl, h1, hg1, -⟩
  have hx : ∀ x ∈ ([3, 2, 4, 1, 3, 0, 5, -1] : List Int), -1 ≤ x ∧ x ≤ 5 := by decide
  have hx1 := hx _ (List.getElem_mem hk)
  obtain ⟨x, hxx⟩ : ∃ x, x = ([3, 2, 4, 1, 3, 0, 5, -1] : List Int)[k] := ⟨_, rfl⟩
  rw [← hxx] at hx1 ⊢
  clear hx hxx hk h
  have hG1 := chg_trans (World.grownBy_alloc w (.cells (ints [3, 2, 4, 1, 3, 0, 5, -1]).toArray 3) (some g)) hg1
  clear hg1
  go_wp2_with fail
  go_ret
  exact ⟨x, rfl, hx1, h1, hG1⟩
set_option maxHeartbeats 1000000 in
theorem DrawInBox_any (a : Option Addr) (c B : Nat) (bs : List Int) (w : World) (h : Rd w B a (bs.map (Value.int .u8))) (hB : B ≤ w.heap.size) (hb : ∀ n ∈ bs, (Lit.int .u8 n).wf = true) (hl : bs.length ≤ 1048576) (hc : bs.length ≤ c) :
    Calls Try.prog 17 #[.slice a bs.length c] w fun e w' => ∃ a' c' M x y, e = .returned (.tuple #[.slice a' M.length c', .int .i64 x, .int .i64 y]) ∧ Own w' w.heap.size w'.heap.size 3 (.slice a' M.length c') (ints M) ∧ Small M ∧ (-1 ≤ x ∧ x ≤ 5) ∧ (-1 ≤ y ∧ y ≤ 5) ∧ Below w.heap.size w w' := by
  go_enter Try.func17, Try.ntmps17
  go_wp2_with fail
  refine (newReader_any _ _ B bs _ h hB hb hl hc).mono ?_
  rintro e w1 ⟨rfl, h1, hb1, -⟩
  generalize bs.take 2000 = rs at h1
  have hlt := h1.lt
  have hs0 := hb1.size
  clear hb hl hc h hB
  go_wp2_with fail
  refine (one_any w.heap.size _ _ _ _ [4, 5, 3, 6, 2, 8, 1, 0] rs _ (by simp) (by simp) (by omega) (h1.below ((Below.refl _ _).alloc hlt _)) (rd_new w1 _ _) (by intro b o e; injection e with e; injection e with e; omega)).mono ?_
  rintro e w2 ⟨k, hk, rfl, h2, hg2, -⟩
  have hx : ∀ x ∈ ([4, 5, 3, 6, 2, 8, 1, 0] : List Int), 0 ≤ x ∧ x ≤ 16 := by decide
  have hx1 := hx _ (List.getElem_mem hk)
  obtain ⟨x, hxx⟩ : ∃ x, x = ([4, 5, 3, 6, 2, 8, 1, 0] : List Int)[k] := ⟨_, rfl⟩
  rw [← hxx] at hx1 ⊢
  clear hx hxx hk
  have hG2 := chg_trans (World.grownBy_alloc w1 (.cells (ints [4, 5, 3, 6, 2, 8, 1, 0]).toArray 3) (some w.heap.size)) hg2
  clear hg2
  go_wp2_with fail
  refine (partsOf_any w.heap.size _ x rs _ hx1.1 hx1.2 (by omega) h2).mono ?_
  rintro e w3 ⟨a1, c1, M1, rfl, ho1, hs1, ⟨q3, hq3, h3⟩, hg3⟩
  have hG3 := chg_trans hG2 hg3
  replace ho1 := ho1.lower hG2.size
  have hC3 : Chg w.heap.size w1.heap.size w1 w3 := .of hG3 (Nat.le_refl _)
  have hz3 := hG3.size
  clear hx1 h2 hG2 hg3
  go_wp2_with fail
  refine (bent_any w.heap.size q3 w1.heap.size _ _ M1 rs _ (by omega) h3 hs1 ho1 hlt hz3).mono ?_
  rintro e w4 ⟨a2, c2, M2, rfl, ho2, hs2, ⟨q4, hq4, h4⟩, hb4⟩
  have hG4 := (hC3.trans hb4).grown
  clear hC3 hb4 hG3 ho1
  go_wp2_with fail
  refine (aSide_any w.heap.size q4 rs _ (by omega) h4).mono ?_
  rintro e w5 ⟨y, rfl, hy, h5, hg5⟩
  have ho5 := (ho2.chg hg5 hlt).more
  have hG5 := chg_trans hG4 hg5
  clear ho2 hG4 hg5 h4
  go_wp2_with fail
  refine (aSide_any w.heap.size _ rs _ (by omega) h5).mono ?_
  rintro e w6 ⟨z, rfl, hz, h6, hg6⟩
  have ho6 := (ho5.chg hg6 hlt).more
  have hG6 := chg_trans hG5 hg6
  clear ho5 hG5 hg6 h5
  go_wp2_with fail
  go_ret3
  exact ⟨a2, c2, M2, y, z, rfl, ho6.lower hs0, hs2, hy, hz, chg_low5 hb1 (Nat.le_refl _) (Nat.le_refl _) hG6⟩
end Go.Proofs.Ytgbkaahmmpgjfaa
