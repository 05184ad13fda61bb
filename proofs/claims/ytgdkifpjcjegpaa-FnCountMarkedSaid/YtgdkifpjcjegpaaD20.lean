/-
  Walks: the draws of sums of marked parts and of piles.
-/
import Derived.Test.YtgdkifpjcjegpaaD1
namespace Go.Proofs.Ytgdkifpjcjegpaa
open Go.RowKit NP
set_option linter.unusedVariables false
theorem chg_low20 {a b c : World} {g : Nat} (hb : Below a.heap.size a b) (hg : a.heap.size ≤ g) (h : b.grownBy c (some g)) : Below a.heap.size a c := hb.grown h hb.size fun k hk => by injection hk with hk; omega

theorem DrawCountMarked_any (a : Option Addr) (c B : Nat) (bs : List Int) (w : World) (h : Rd w B a (bs.map (Value.int .u8))) (hB : B ≤ w.heap.size) (hb : ∀ n ∈ bs, (Lit.int .u8 n).wf = true) (hl : bs.length ≤ 1048576) (hc : bs.length ≤ c) :
    Calls Try.prog 16 #[.slice a bs.length c] w fun e w' => ∃ x : Int, e = .returned (.int .i64 x) ∧ (-1000 ≤ x ∧ x ≤ 1000) ∧ Below w.heap.size w w' := by
  go_enter Try.func16, Try.ntmps16
  go_wp2_with fail
  refine (newReader_any _ _ B bs _ h hB hb hl hc).mono ?_
  rintro e w1 ⟨rfl, h1, hb1, -⟩
  go_wp2_with fail
  refine (one_any w.heap.size 0 _ _ _ [4, 5, 3, 6, 8, 2, 1, 0, 7, 16, 20, 41, -1] _ _ (by simp) (by simp) (by omega) (h1.below ((Below.refl _ _).alloc h1.lt _)) (rd_new w1 _ _) (by intro b o e; injection e with e; injection e with e; have := h1.lt; omega)).mono ?_
  rintro e w2 ⟨k, hk, rfl, h2, hg2, -⟩
  have hx : ∀ x ∈ ([4, 5, 3, 6, 8, 2, 1, 0, 7, 16, 20, 41, -1] : List Int), -1000 ≤ x ∧ x ≤ 1000 := by intro x hx; simp only [List.mem_cons, List.not_mem_nil, or_false] at hx; omega
  have hx2 := hx _ (List.getElem_mem hk)
  obtain ⟨x2, hxx⟩ : ∃ x, x = ([4, 5, 3, 6, 8, 2, 1, 0, 7, 16, 20, 41, -1] : List Int)[k] := ⟨_, rfl⟩
  rw [← hxx] at hx2 ⊢
  clear hx hxx hk
  have hb2 : Below w.heap.size w w2 := chg_low20 (hb1.alloc hb1.size _) (Nat.le_refl _) hg2
  clear hg2
  go_wp2_with fail
  go_ret
  exact ⟨x2, rfl, hx2, hb2⟩

theorem DrawCountPiles_any (a : Option Addr) (c B : Nat) (bs : List Int) (w : World) (h : Rd w B a (bs.map (Value.int .u8))) (hB : B ≤ w.heap.size) (hb : ∀ n ∈ bs, (Lit.int .u8 n).wf = true) (hl : bs.length ≤ 1048576) (hc : bs.length ≤ c) :
    Calls Try.prog 19 #[.slice a bs.length c] w fun e w' => ∃ x : Int, e = .returned (.int .i64 x) ∧ (-1000 ≤ x ∧ x ≤ 1000) ∧ Below w.heap.size w w' := by
  go_enter Try.func19, Try.ntmps19
  go_wp2_with fail
  refine (newReader_any _ _ B bs _ h hB hb hl hc).mono ?_
  rintro e w1 ⟨rfl, h1, hb1, -⟩
  go_wp2_with fail
  refine (one_any w.heap.size 0 _ _ _ [3, 4, 2, 5, 1, 0, 6, 10, 16, 17, -1] _ _ (by simp) (by simp) (by omega) (h1.below ((Below.refl _ _).alloc h1.lt _)) (rd_new w1 _ _) (by intro b o e; injection e with e; injection e with e; have := h1.lt; omega)).mono ?_
  rintro e w2 ⟨k, hk, rfl, h2, hg2, -⟩
  have hx : ∀ x ∈ ([3, 4, 2, 5, 1, 0, 6, 10, 16, 17, -1] : List Int), -1000 ≤ x ∧ x ≤ 1000 := by intro x hx; simp only [List.mem_cons, List.not_mem_nil, or_false] at hx; omega
  have hx2 := hx _ (List.getElem_mem hk)
  obtain ⟨x2, hxx⟩ : ∃ x, x = ([3, 4, 2, 5, 1, 0, 6, 10, 16, 17, -1] : List Int)[k] := ⟨_, rfl⟩
  rw [← hxx] at hx2 ⊢
  clear hx hxx hk
  have hb2 : Below w.heap.size w w2 := chg_low20 (hb1.alloc hb1.size _) (Nat.le_refl _) hg2
  clear hg2
  go_wp2_with fail
  go_ret
  exact ⟨x2, rfl, hx2, hb2⟩

end Go.Proofs.Ytgdkifpjcjegpaa
