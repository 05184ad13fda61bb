/-
  Piles of the program: sixteen rows of sixteen in one block.
-/
import Derived.Test.YtnheolhgdinjgaaW2
import Derived.Test.YtnheolhgdinjgaaArr5
import Derived.Test.YtnheolhgdinjgaaM43
import Derived.Deep.MidRow
namespace Go.Proofs.Ytnheolhgdinjgaa
open Go.RowKit NP
set_option maxRecDepth 100000
theorem Blk.rangeP {w : World} {g : Nat} {t : TypeId} {R : List (List Int)} (h : Blk w g t (arr R.flatten)) (hR : ∀ L ∈ R, L.length = 16) {j : Nat} (hj : j < R.length) : w.rangeAt g (16 * j) (ints R[j]) := fun i v hv => by
  have hi : i < R[j].length := by have := (List.getElem?_eq_some_iff.1 hv).1; simpa using this
  have hi16 : i < 16 := by rw [hR _ (List.getElem_mem hj)] at hi; exact hi
  rw [h.cell (16 * j + i)]
  have hg := flat_get hR hj hi16
  simp only [arr, ints, List.getElem?_toArray, List.getElem?_map] at hv ⊢
  rw [hg]
  exact hv
theorem Blk.rangeQ {w : World} {g : Nat} {t : TypeId} {vs : List Value} (h : Blk w g t vs.toArray) : w.rangeAt g 0 vs := fun j v hv => by
  rw [Nat.zero_add, h.cell j]; simpa using hv
theorem zsq_rows : ∀ L ∈ zsq, L.length = 16 := fun L hL => by rw [(List.mem_replicate.1 hL).2]; simp
theorem T_info256 : (Try.prog.info? 38).map (·.size) = some 256 := by kernel_rfl
theorem T_zc : Try.zeroCells38 = arr zsq.flatten := by kernel_rfl
end Go.Proofs.Ytnheolhgdinjgaa
