/-
  Walks of the program: the iterator over all diagrams with a sum.
-/
import Derived.Test.YtcjnmconehfbgaaW57
namespace Go.Proofs.Ytcjnmconehfbgaa
open Go.RowKit Go.Shelf NP
set_option maxRecDepth 8000
set_option linter.unusedVariables false
set_option linter.unusedSimpArgs false
attribute [local go_sem] Oper.semAt_some
theorem topQ_nil (n : Nat) : topQ [] n = n := rfl

set_option maxRecDepth 100000 in
set_option maxHeartbeats 2000000 in
theorem dwith_seq (F : Fence) (hd : F.depth = none) (hf : F.fn 92) (hf1 : F.fn 91) (hro : F.round = none) (n k Bn : Nat) (hk : k ≤ 16) (w : World) (hBn : Bn < w.heap.size) (hc : w.cell? ⟨Bn, 0, none⟩ = some (.int .i64 k)) :
    SeqT F n Try.prog 54 91 #[.pointer (some ⟨Bn, 0, none⟩)] (fun x : VL => #[.agg (arr (pad x.1))]) (fun xs => xs.map (·.1) = allQ k k k) (fun xs => xs.map (·.1) <+: allQ k k k) (allQ k k k).length w := by
  intro l J Jx W hW hJ hJx hY h0
  have hdd : ∀ k : Nat, (F.depth.isSome = true → 1 ≤ k) := fun k h => by rw [hd] at h; cases h
  have hcW : W.cell? ⟨Bn, 0, none⟩ = some (.int .i64 k) := (hW.cell (p := ⟨Bn, 0, none⟩) hBn).trans hc
  have hp := dfrom_in F hd hf hro l W.heap.size (allQ k k k).length J Jx hJ hJx (fun m pre x W1 hj hl => yieldAt_any hd m (hY pre x W1 hj hl)) k [] k (n - 1) [] W (Nat.le_refl _) rfl (by simp [sumL]; omega) h0 (by rw [topQ_nil]; simp) (Nat.le_refl _)
  rw [topQ_nil] at hp
  have hz : arr (pad []) = #[.int .i64 0, .int .i64 0, .int .i64 0, .int .i64 0, .int .i64 0, .int .i64 0, .int .i64 0, .int .i64 0, .int .i64 0, .int .i64 0, .int .i64 0, .int .i64 0, .int .i64 0, .int .i64 0, .int .i64 0, .int .i64 0] := rfl
  rw [hz] at hp
  simp only [List.length_nil] at hp
  refine callsIn_of_wp Try.func91 rfl hf1 ?_ hro
  simp only [Try.ntmps91, List.size_toArray, List.length_cons, List.length_nil, Nat.reduceAdd, Nat.reduceSub, Array.replicate_succ, Array.replicate_zero, List.push_toArray, List.append_toArray, List.nil_append, List.cons_append]
  gi_wp2_with ((try refine ⟨hdd _, ?_⟩); gi_at_call 92; refine hp.mono ?_; clear hp; rintro e W1 (⟨rfl, ⟨xs, hxs, hJ1⟩, _⟩ | ⟨rfl, xs, hxs, hx⟩))
  · go_end0
    exact ⟨⟨_, rfl⟩, .inl ⟨xs, by simpa using hxs, by simpa using hJ1⟩⟩
  · go_end0
    exact ⟨⟨_, rfl⟩, .inr ⟨xs, by simpa using hxs, by simpa using hx⟩⟩

theorem dwith_in (F : Fence) (n : Nat) (hf : F.fn 74) (hro : F.round = none) (k : Int) (w : World) :
    CallsIn F n Try.prog 74 #[.int .i64 k] w fun e w' => e = .returned (.func (.func 91) #[] #[.pointer (some ⟨w.heap.size, 0, none⟩)]) ∧ w' = w.alloc (.cells #[.int .i64 k] 3) := by
  refine callsIn_of_wp Try.func74 rfl hf ?_ hro
  simp only [Try.ntmps74, List.size_toArray, List.length_cons, List.length_nil, Nat.reduceAdd, Nat.reduceSub, Array.replicate_succ, Array.replicate_zero, List.push_toArray, List.append_toArray, List.nil_append, List.cons_append]
  gi_wp2
  go_ret
  exact ⟨rfl, rfl⟩
end Go.Proofs.Ytcjnmconehfbgaa
