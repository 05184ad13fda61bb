/-
  Walks: the draws of two parts.
-/
import Derived.Test.YtldbjnnolebfbaaD3
namespace Go.Proofs.Ytldbjnnolebfbaa
open Go.RowKit NP
set_option linter.unusedVariables false

theorem small_of_parts {M : List Int} (h : SmallParts M) : Small M := ⟨by have := h.1; omega, fun x hx => by have := h.2 x hx; omega⟩

set_option maxHeartbeats 1000000 in
theorem twoParts_any (g q : Nat) (bs : List Int) (w : World) (hq : q ≤ 600000) (h : Rdr w g bs q) :
    Calls Try.prog 31 #[.pointer (some ⟨g, 0, none⟩)] w fun e w' => ∃ a1 c1 M1 a2 c2 M2, e = .returned (.tuple #[.slice a1 M1.length c1, .slice a2 M2.length c2]) ∧ Own w' w.heap.size w'.heap.size 3 (.slice a1 M1.length c1) (ints M1) ∧ Own w' w.heap.size w'.heap.size 3 (.slice a2 M2.length c2) (ints M2) ∧ Small M1 ∧ Small M2 ∧ w.grownBy w' (some g) := by
  have hlt := h.lt
  go_enter Try.func31, Try.ntmps31
  go_wp2_with fail
  refine (one_any g _ _ _ _ [5, 4, 6, 3, 8, 2, 0, 1] bs _ (by simp) (by simp) (by omega) (h.below ((Below.refl _ _).alloc hlt _)) (rd_new w _ _) (by intro b o e; injection e with e; injection e with e; omega)).mono ?_
  rintro e w1 ⟨k, hk, rfl, h1, hg1, -⟩
  have hx : ∀ x ∈ ([5, 4, 6, 3, 8, 2, 0, 1] : List Int), 0 ≤ x ∧ x ≤ 16 := by decide
  have hx1 := hx _ (List.getElem_mem hk)
  obtain ⟨x, hxx⟩ : ∃ x, x = ([5, 4, 6, 3, 8, 2, 0, 1] : List Int)[k] := ⟨_, rfl⟩
  rw [← hxx] at hx1 ⊢
  clear hx hxx hk h
  have hG1 := chg_trans (World.grownBy_alloc w (.cells (ints [5, 4, 6, 3, 8, 2, 0, 1]).toArray 3) (some g)) hg1
  clear hg1
  go_wp2_with fail
  refine (partsOf_any g _ x bs _ hx1.1 hx1.2 (by omega) h1).mono ?_
  rintro e w2 ⟨a1, c1, M1, rfl, ho1, hs1, ⟨q2, hq2, h2⟩, hg2⟩
  have hG2 := chg_trans hG1 hg2
  have hz1 := hG1.size
  replace ho1 := ho1.lower hz1
  have hs1 := small_of_parts hs1
  have hlt2 := h2.lt
  clear hx1 h1 hG1 hg2
  go_wp2_with fail
  refine (one_any g _ _ _ _ [4, 5, 3, 6, 2, 8, 1, 0] bs _ (by simp) (by simp) (by omega) (h2.below ((Below.refl _ _).alloc hlt2 _)) (rd_new w2 _ _) (by intro b o e; injection e with e; injection e with e; omega)).mono ?_
  rintro e w3 ⟨k, hk, rfl, h3, hg3, -⟩
  have hx : ∀ x ∈ ([4, 5, 3, 6, 2, 8, 1, 0] : List Int), 0 ≤ x ∧ x ≤ 16 := by decide
  have hx1 := hx _ (List.getElem_mem hk)
  obtain ⟨y, hxx⟩ : ∃ x, x = ([4, 5, 3, 6, 2, 8, 1, 0] : List Int)[k] := ⟨_, rfl⟩
  rw [← hxx] at hx1 ⊢
  clear hx hxx hk h2
  have ho3 := ((ho1.alloc (.cells (ints [4, 5, 3, 6, 2, 8, 1, 0]).toArray 3)).chg hg3 hlt).more
  have hG3 := chg_trans (chg_alloc hG2 (.cells (ints [4, 5, 3, 6, 2, 8, 1, 0]).toArray 3)) hg3
  clear hg3 ho1 hG2
  go_wp2_with fail
  refine (partsOf_any g _ y bs _ hx1.1 hx1.2 (by omega) h3).mono ?_
  rintro e w4 ⟨a2, c2, M2, rfl, ho2, hs2, ⟨q4, hq4, h4⟩, hg4⟩
  have ho4 := (ho3.chg hg4 hlt).more
  have hG4 := chg_trans hG3 hg4
  have hz3 := hG3.size
  replace ho2 := ho2.lower hz3
  have hs2 := small_of_parts hs2
  clear hx1 h3 hG3 hg4 ho3
  have HO1 := Lib.hid ho4
  have HO2 := Lib.hid ho2
  clear ho4 ho2
  go_wp2_with fail
  refine (pick_any g _ _ bs _ (by omega) (by omega) h4).mono ?_
  rintro e w5 ⟨z, rfl, hz0, -, h5, hg5, -⟩
  have ho1 := (HO1.out.chg hg5 hlt).more
  have ho2 := (HO2.out.chg hg5 hlt).more
  have hG5 := chg_trans hG4 hg5
  clear HO1 HO2 hG4 hg5 h4
  have HO1 := Lib.hid ho1
  have HO2 := Lib.hid ho2
  clear ho1 ho2
  by_cases hz : z = 0
  · have b0 : (z == 0) = true := beq_iff_eq.2 hz
    clear hz
    go_wp2_with fail
    refine (someParts_grown g _ bs _ (by omega) h5).mono ?_
    rintro e w6 ⟨a3, c3, M3, rfl, ho3, hs3, -, hg6⟩
    have ho2 := (HO2.out.chg hg6 hlt).more
    have hG6 := chg_trans hG5 hg6
    have hz5 := hG5.size
    clear hg6 hG5
    go_wp2_with fail
    go_ret2
    exact ⟨a3, c3, M3, a2, c2, M2, rfl, ho3.lower hz5, ho2, hs3, hs2, hG6⟩
  · have b0 : (z == 0) = false := beq_eq_false_iff_ne.2 hz
    clear hz
    go_wp2_with fail
    go_ret2
    exact ⟨a1, c1, M1, a2, c2, M2, rfl, HO1.out, HO2.out, hs1, hs2, hG5⟩
theorem DrawAddParts_any (a : Option Addr) (c B : Nat) (bs : List Int) (w : World) (h : Rd w B a (bs.map (Value.int .u8))) (hB : B ≤ w.heap.size) (hb : ∀ n ∈ bs, (Lit.int .u8 n).wf = true) (hl : bs.length ≤ 1048576) (hc : bs.length ≤ c) :
    Calls Try.prog 20 #[.slice a bs.length c] w fun e w' => ∃ a1 c1 M1 a2 c2 M2, e = .returned (.tuple #[.slice a1 M1.length c1, .slice a2 M2.length c2]) ∧ Own w' w.heap.size w'.heap.size 3 (.slice a1 M1.length c1) (ints M1) ∧ Own w' w.heap.size w'.heap.size 3 (.slice a2 M2.length c2) (ints M2) ∧ Small M1 ∧ Small M2 ∧ Below w.heap.size w w' := by
  go_enter Try.func20, Try.ntmps20
  go_wp2_with fail
  refine (newReader_any _ _ B bs _ h hB hb hl hc).mono ?_
  rintro e w1 ⟨rfl, h1, hb1, -⟩
  have hz := hb1.size
  go_wp2_with fail
  refine (twoParts_any _ 0 _ _ (by omega) h1).mono ?_
  rintro e w2 ⟨a1, c1, M1, a2, c2, M2, rfl, ho1, ho2, hs1, hs2, hg⟩
  have hB2 : Below w.heap.size w w2 := hb1.grown hg hz (fun k hk => by injection hk with hk; omega)
  clear hg h1 hb1
  have HO1 := Lib.hid (ho1.lower hz)
  have HO2 := Lib.hid (ho2.lower hz)
  clear ho1 ho2
  go_wp2_with fail
  go_ret2
  exact ⟨a1, c1, M1, a2, c2, M2, rfl, HO1.out, HO2.out, hs1, hs2, hB2⟩
theorem DrawUniteParts_any (a : Option Addr) (c B : Nat) (bs : List Int) (w : World) (h : Rd w B a (bs.map (Value.int .u8))) (hB : B ≤ w.heap.size) (hb : ∀ n ∈ bs, (Lit.int .u8 n).wf = true) (hl : bs.length ≤ 1048576) (hc : bs.length ≤ c) :
    Calls Try.prog 15 #[.slice a bs.length c] w fun e w' => ∃ a1 c1 M1 a2 c2 M2, e = .returned (.tuple #[.slice a1 M1.length c1, .slice a2 M2.length c2]) ∧ Own w' w.heap.size w'.heap.size 3 (.slice a1 M1.length c1) (ints M1) ∧ Own w' w.heap.size w'.heap.size 3 (.slice a2 M2.length c2) (ints M2) ∧ Small M1 ∧ Small M2 ∧ Below w.heap.size w w' := by
  go_enter Try.func15, Try.ntmps15
  go_wp2_with fail
  refine (newReader_any _ _ B bs _ h hB hb hl hc).mono ?_
  rintro e w1 ⟨rfl, h1, hb1, -⟩
  have hz := hb1.size
  go_wp2_with fail
  refine (twoParts_any _ 0 _ _ (by omega) h1).mono ?_
  rintro e w2 ⟨a1, c1, M1, a2, c2, M2, rfl, ho1, ho2, hs1, hs2, hg⟩
  have hB2 : Below w.heap.size w w2 := hb1.grown hg hz (fun k hk => by injection hk with hk; omega)
  clear hg h1 hb1
  have HO1 := Lib.hid (ho1.lower hz)
  have HO2 := Lib.hid (ho2.lower hz)
  clear ho1 ho2
  go_wp2_with fail
  go_ret2
  exact ⟨a1, c1, M1, a2, c2, M2, rfl, HO1.out, HO2.out, hs1, hs2, hB2⟩
end Go.Proofs.Ytldbjnnolebfbaa
