/-
  Walks: the draw of AllParts.
-/
import Derived.Test.YteglcoalfgjjiaaD1
namespace Go.Proofs.Yteglcoalfgjjiaa
open Go.RowKit NP
set_option linter.unusedVariables false
theorem DrawAllParts_any (a : Option Addr) (c B : Nat) (bs : List Int) (w : World) (h : Rd w B a (bs.map (Value.int .u8))) (hB : B ≤ w.heap.size) (hb : ∀ n ∈ bs, (Lit.int .u8 n).wf = true) (hl : bs.length ≤ 1048576) (hc : bs.length ≤ c) :
    Calls Try.prog 26 #[.slice a bs.length c] w fun e w' => ∃ x : Int, e = .returned (.int .i64 x) ∧ (-1 ≤ x ∧ x ≤ 13) ∧ Below w.heap.size w w' := by
  go_enter Try.func26, Try.ntmps26
  go_wp2_with fail
  refine (newReader_any _ _ B bs _ h hB hb hl hc).mono ?_
  rintro e w1 ⟨rfl, h1, hb1, -⟩
  have hz := hb1.size
  go_wp2_with fail
  refine (one_any w.heap.size _ _ _ _ [6, 8, 5, 4, 7, 3, 10, 2, 12, 1, 0, 9, 13, -1] _ _ (by simp) (by simp) (by omega) (h1.below ((Below.refl _ _).alloc h1.lt _)) (rd_new w1 _ _) (by intro b o e; injection e with e; injection e with e; have := h1.lt; omega)).mono ?_
  rintro e w3 ⟨k, hk, rfl, -, hg3, -⟩
  have hx : ∀ x ∈ ([6, 8, 5, 4, 7, 3, 10, 2, 12, 1, 0, 9, 13, -1] : List Int), -1 ≤ x ∧ x ≤ 13 := by decide
  have hx1 := hx _ (List.getElem_mem hk)
  obtain ⟨x, hxx⟩ : ∃ x, x = ([6, 8, 5, 4, 7, 3, 10, 2, 12, 1, 0, 9, 13, -1] : List Int)[k] := ⟨_, rfl⟩
  rw [← hxx] at hx1 ⊢
  clear hx hxx
  have hG := (hb1.alloc hz (.cells (ints [6, 8, 5, 4, 7, 3, 10, 2, 12, 1, 0, 9, 13, -1]).toArray 3)).grown hg3 (by simp; omega) (fun j hj => by injection hj with hj; omega)
  clear hg3
  go_wp2_with fail
  go_ret
  exact ⟨x, rfl, hx1, hG⟩
end Go.Proofs.Yteglcoalfgjjiaa
