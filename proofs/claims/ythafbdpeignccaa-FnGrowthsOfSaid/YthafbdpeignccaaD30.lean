/-
  Draws of what is right above and below.
-/
import Derived.Test.YthafbdpeignccaaD3a
namespace Go.Proofs.Ythafbdpeignccaa
open Go.RowKit NP
set_option maxRecDepth 8000
set_option linter.unusedVariables false
set_option linter.unusedSimpArgs false
theorem DrawGrowthsOf_any (a : Option Addr) (c B : Nat) (bs : List Int) (w : World) (h : Rd w B a (bs.map (Value.int .u8))) (hB : B ≤ w.heap.size) (hb : ∀ n ∈ bs, (Lit.int .u8 n).wf = true) (hl : bs.length ≤ 1048576) (hc : bs.length ≤ c) :
    Calls Try.prog 28 #[.slice a bs.length c] w fun e w' => ∃ a' c' M, e = .returned (.slice a' M.length c') ∧ Own w' w.heap.size w'.heap.size 3 (.slice a' M.length c') (ints M) ∧ Small M ∧ Below w.heap.size w w' := by
  go_enter Try.func28, Try.ntmps28
  go_wp2_with fail
  refine (newReader_any _ _ B bs _ h hB hb hl hc).mono ?_
  rintro e w1 ⟨rfl, h1, hb1, -⟩
  go_wp2_with fail
  refine (one_any w.heap.size 0 _ _ _ [6, 7, 5, 8, 4, 3, 9, 2, 1, 0, 13] _ _ (by simp) (by simp) (by omega) (h1.below ((Below.refl _ _).alloc h1.lt _)) (rd_new w1 _ _) (by intro b o e; injection e with e; injection e with e; have := h1.lt; omega)).mono ?_
  rintro e w2 ⟨k, hk, rfl, h2, hg2, -⟩
  have hx : ∀ x ∈ ([6, 7, 5, 8, 4, 3, 9, 2, 1, 0, 13] : List Int), 0 ≤ x ∧ x ≤ 16 := by intro x hx; simp only [List.mem_cons, List.not_mem_nil, or_false] at hx; omega
  have hx2 := hx _ (List.getElem_mem hk)
  obtain ⟨x2, hxx⟩ : ∃ x, x = ([6, 7, 5, 8, 4, 3, 9, 2, 1, 0, 13] : List Int)[k] := ⟨_, rfl⟩
  rw [← hxx] at hx2 ⊢
  clear hx hxx hk
  have hz2 : w.heap.size < w2.heap.size := h2.lt
  have hb2 : Below w.heap.size w w2 := (hb1.alloc hb1.size _).grown hg2 (hb1.alloc hb1.size _).size fun k hk => by injection hk with hk; omega
  clear hg2
  go_wp2_with fail
  refine (partsOf_any w.heap.size 1 x2 _ _ hx2.1 hx2.2 (by omega) h2).mono ?_
  rintro e w3 ⟨a', c', M, rfl, ho, hs, ⟨q', hq', h3⟩, hg3⟩
  have hz3 := hg3.size
  have hb3 : Below w.heap.size w w3 := hb2.grown hg3 hb2.size fun k hk => by injection hk with hk; omega
  clear hg3
  go_wp2_with fail
  refine (bent_any w.heap.size q' w2.heap.size _ _ M _ _ (by omega) h3 hs ho hz2 hz3).mono ?_
  rintro e w4 ⟨a4, c4, M4, rfl, ho4, hs4, -, hb4⟩
  go_wp2_with fail
  go_ret
  exact ⟨a4, c4, M4, rfl, ho4.lower hb2.size, hs4, hb3.trans (hb4.below (Nat.le_of_lt hz2))⟩
end Go.Proofs.Ythafbdpeignccaa
