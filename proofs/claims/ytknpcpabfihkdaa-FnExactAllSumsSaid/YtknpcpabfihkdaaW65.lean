/-
  Walks: the program's summands: opposite, summandsOf, twoSummands.
-/
import Derived.Test.YtknpcpabfihkdaaW64
import Derived.Deep.RegionWith
import Derived.RegionTactic
namespace Go.Proofs.Ytknpcpabfihkdaa
open Go.RowKit NP
set_option linter.unusedVariables false
theorem two_one (a b : Int) : ∀ v ∈ (#[Value.int .i64 a, Value.int .i64 b]).toList, v.oneCell' = true := by intro v hv; simp at hv; rcases hv with rfl | rfl <;> rfl
theorem link_one (n m x : Nat) (w : World) (h1 : m < 2 ^ (n - 1)) (hx : 1 ≤ x) (hs : n + x ≤ 16) :
    Calls Try.prog 61 #[.agg #[.int .i64 n, .int .i64 m], .agg #[.int .i64 x, .int .i64 0], .bool false] w fun e w' =>
      e = .returned (.agg #[.int .i64 ((n + x : Nat) : Int), .int .i64 ((m + (if n = 0 then 0 else 2 ^ (n - 1)) : Nat) : Int)]) ∧ Below w.heap.size w w' := by
  have := link_any n m x 0 false w h1 (Nat.two_pow_pos _) hs
  have e : lkN n m x 0 false = m + (if n = 0 then 0 else 2 ^ (n - 1)) := by
    unfold lkN
    by_cases h0 : n = 0
    · simp [h0]
    · simp [h0, show ¬ x = 0 by omega]
  rw [e, show (((0 : Nat) : Int)) = 0 from rfl] at this
  exact this
set_option maxHeartbeats 1000000 in
theorem opposite_any (n m : Nat) (w : World) (h1 : m < 2 ^ (n - 1)) (hs : n ≤ 16) :
    Calls Try.prog 59 #[.agg #[.int .i64 n, .int .i64 m]] w fun e w' =>
      e = .returned (.agg #[.int .i64 n, .int .i64 ((2 ^ (n - 1) - 1 - m : Nat) : Int)]) ∧ Below w.heap.size w w' := by
  have hp16 := pow_le16 (n := n - 1) (by omega)
  have hC := fun w => masksOf_any n w hs
  obtain ⟨p, hp⟩ : ∃ p, p = 2 ^ (n - 1) := ⟨_, rfl⟩
  rw [← hp] at h1 hp16
  simp only [← hp] at hC ⊢
  have HC := Lib.hid hC
  clear hC hp
  obtain ⟨q, hq, e1⟩ : ∃ q : Nat, q = p - 1 ∧ IntKind.i64.wrap ((p : Int) - 1) = (q : Int) := ⟨_, rfl, by rw [IntWalk.i64_in _ (by omega)]; omega⟩
  obtain ⟨r, hr, e2⟩ : ∃ r : Nat, r = p - 1 - m ∧ IntKind.i64.wrap ((q : Int) - (m : Int)) = (r : Int) := ⟨_, rfl, by rw [IntWalk.i64_in _ (by omega)]; omega⟩
  rw [← hr]
  clear hr hq h1 hp16
  go_enter Try.func59, Try.ntmps59
  go_wp2_with fail
  go_region_with (go_at_call 56; refine (HC.out _).mono ?_; rintro e w' ⟨rfl, rfl⟩)
  all_goals
    have hbR : Blk ((w.alloc (.cells #[.int .i64 n, .int .i64 m] 48)).alloc (.cells #[.int .i64 n, .int .i64 r] 48)) (w.heap.size + 1) 48 #[.int .i64 n, .int .i64 r] := by
      have e := Blk.new (w.alloc (.cells #[.int .i64 n, .int .i64 m] 48)) 48 #[.int .i64 n, .int .i64 r]
      rw [World.size_alloc] at e
      exact e
    go_wp2
    refine bodyPost_ret (results_cell_row rfl _ _ (w.heap.size + 1) 48 #[.int .i64 n, .int .i64 r] (0, 0) _ rfl hbR.drew Try.underlying48 rfl T_sms) rfl ?_
    exact ⟨rfl, (((Below.refl w.heap.size w).alloc (Nat.le_refl _) _).alloc (by simp) _).trans ((Dr.refl _).drewN 1 |>.below _)⟩
end Go.Proofs.Ytknpcpabfihkdaa
