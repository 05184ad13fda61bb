/-
  Walks: the draws of a list and an index: RemoveCell, AddCell.
-/
import Derived.Test.YteglcoalfgjjiaaD3
import Derived.Test.YteglcoalfgjjiaaW6
import Derived.Deep.RegionHeld3
namespace Go.Proofs.Yteglcoalfgjjiaa
open Go.RowKit NP
set_option linter.unusedVariables false

theorem fl_mem_bd (p : Nat → Bool) (n : Nat) : ∀ x ∈ fl p n, 0 ≤ x ∧ x < n := by
  intro x hx
  unfold fl at hx
  simp only [List.mem_map, List.mem_filter, List.mem_range] at hx
  obtain ⟨a, ha, e⟩ := hx
  have : (a : Int) = x := e
  omega
theorem chg_low3 {B : Nat} {b c : World} {w0 : World} {g : Nat} (hb : Below B w0 b) (hB : B ≤ w0.heap.size) (hg : B ≤ g) (h : b.grownBy c (some g)) : Below B w0 c := hb.grown h (by have := hb.size; omega) fun k hk => by injection hk with hk; omega

end Go.Proofs.Yteglcoalfgjjiaa
