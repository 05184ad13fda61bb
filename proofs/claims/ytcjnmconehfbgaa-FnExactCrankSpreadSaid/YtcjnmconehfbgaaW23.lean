/-
  Walks: all parts listed (the model's list).
-/
import Derived.Test.YtcjnmconehfbgaaLL1
import Derived.Test.YtcjnmconehfbgaaM24
namespace Go.Proofs.Ytcjnmconehfbgaa
open Go.RowKit NP
set_option maxRecDepth 8000
set_option linter.unusedVariables false
theorem T_ints : (Try.prog.info? 22).map (fun i => (i.zero, i.size, i.bytes)) = some (some (.slice none 0 0), 1, 24) := by kernel_rfl

theorem slist_zero (a : Option Addr) (c B : Nat) (H : List Int) (most : Int) (w : World) (h : Rd w B a (ints H)) (hB : B ≤ w.heap.size) (hl : H.length ≤ 100) :
    Calls Try.prog 60 #[.slice a H.length c, .int .i64 0, .int .i64 most] w fun e w' => ∃ a' c' vs, e = .returned (.slice a' 1 c') ∧ OwnLL w' w.heap.size w'.heap.size 22 3 (.slice a' 1 c') vs [H] ∧ Below w.heap.size w w' := by
  obtain ⟨i0, hi, hz0, hz1, hz2⟩ := T_int'
  go_enter Try.func60, Try.ntmps60
  go_wp2_with (at_builtin; refine wpList_append_o _ rfl (.tmp 11) (.tmp 12) 22 rfl w.heap.size (w.heap.size + 1) 3 i0 (.int .i64 0) 8 Try.underlying22 hi hz0 hz1 hz2 rfl _ [] rfl (Own.empty w 3) B a H.length c (ints H) rfl (h.alloc hB _) (by simp) (ints_one H) (by simp; unfold maxLen; omega) (by simp; omega) (by simp) ?_; intro v' w1 ho1 hg1 hat1; rw [List.nil_append] at ho1; obtain ⟨a2, c2, rfl⟩ := ho1.form; rw [List.length_map] at ho1 ⊢)
  have hg2 : (w.alloc (.cells #[] 3)).grownBy w1 (some w.heap.size) := hg1
  have hz1' := hg2.size
  simp at hz1'
  have hbl : Below w.heap.size w w1 := below_push (Below.refl _ _) (Nat.le_refl _) hg2 (fun g hg => by cases hg; exact Nat.le_refl _)
  go_ret
  exact ⟨_, _, _, rfl, by have := OwnLL.single (eo := 22) ho1 (by omega); simpa using this, hbl.alloc (by omega) _⟩
end Go.Proofs.Ytcjnmconehfbgaa
