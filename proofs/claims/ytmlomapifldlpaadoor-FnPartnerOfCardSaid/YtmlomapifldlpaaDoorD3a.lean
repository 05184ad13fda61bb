/-
  Walks: the drawing of parts: newReader, sumFor, partsOf, goodParts, bent, someParts: whatever is drawn is a short list of small numbers in new memory.
-/
import Derived.Test.YtmlomapifldlpaaDoorL1
import Derived.Test.YtmlomapifldlpaaDoorD1
import Derived.Test.YtmlomapifldlpaaDoorD2
namespace Go.Proofs.YtmlomapifldlpaaDoor
open Go.RowKit NP
set_option maxRecDepth 8000
set_option linter.unusedVariables false

def Small (M : List Int) : Prop := M.length ≤ 40 ∧ ∀ x ∈ M, -1 ≤ x ∧ x ≤ 17
def SmallParts (M : List Int) : Prop := M.length ≤ 16 ∧ ∀ x ∈ M, 1 ≤ x ∧ x ≤ 16

theorem insK_len (M : List Int) (x : Int) : (insK M x).length = M.length + 1 := by
  unfold insK; simp; omega
theorem insK_mem {M : List Int} {x y : Int} (h : y ∈ insK M x) : y = x ∨ y ∈ M := by
  unfold insK at h
  simp at h
  rcases h with h | h | h
  · exact .inr (List.mem_of_mem_take h)
  · exact .inl h
  · exact .inr (List.mem_of_mem_drop h)
theorem fold_ins (L : List Int) : ∀ M, (L.foldl insK M).length = L.length + M.length ∧ ∀ y ∈ L.foldl insK M, y ∈ L ∨ y ∈ M := by
  induction L with
  | nil => intro M; exact ⟨by simp, fun y hy => .inr hy⟩
  | cons x r ih =>
    intro M
    simp only [List.foldl_cons]
    have h := ih (insK M x)
    refine ⟨by rw [h.1, insK_len]; simp; omega, fun y hy => ?_⟩
    rcases h.2 y hy with h1 | h1
    · exact .inl (by simp [h1])
    · rcases insK_mem h1 with rfl | h2
      · exact .inl (by simp)
      · exact .inr h2
theorem mrg_small {L : List Int} (h : SmallParts L) : SmallParts (mrg L) := by
  have hf := fold_ins L []
  refine ⟨by unfold mrg; rw [hf.1]; simpa using h.1, fun x hx => ?_⟩
  rcases hf.2 x hx with h1 | h1
  · exact h.2 x h1
  · simp at h1




theorem below_push' {g : Nat} {w0 w w1 : World} {o : Obj} {row : Option Nat} (hb : Below g w0 w) (hB : g < w.heap.size) (hg : (w.alloc o).grownBy w1 row) (hr : ∀ k, row = some k → g ≤ k) : Below g w0 w1 :=
  (hb.alloc (by omega) o).grown hg (by simp; omega) hr

/-- what a draw of parts leaves -/
def Drawn (g : Nat) (bs : List Int) (P : List Int → Prop) (top : Nat) (w : World) (e : Ending) (w' : World) : Prop :=
  ∃ a' c' M, e = .returned (.slice a' M.length c') ∧ Own w' w.heap.size w'.heap.size 3 (.slice a' M.length c') (ints M) ∧ P M ∧ (∃ q', q' ≤ top ∧ Rdr w' g bs q') ∧ w.grownBy w' (some g)


/-- but for block g, nothing below lo has turned -/
structure Chg (g lo : Nat) (w w' : World) : Prop where
  os : w'.os = w.os
  tape : w'.tape = w.tape
  output : w'.output = w.output
  size : w.heap.size ≤ w'.heap.size
  block : ∀ k, k < lo → k ≠ g → w'.heap[k]? = w.heap[k]?
theorem Chg.trans {g lo : Nat} {a b c : World} (h : Chg g lo a b) (k : Chg g lo b c) : Chg g lo a c :=
  ⟨k.os.trans h.os, k.tape.trans h.tape, k.output.trans h.output, Nat.le_trans h.size k.size, fun i hi hne => (k.block i hi hne).trans (h.block i hi hne)⟩
theorem Chg.of {g lo : Nat} {w w' : World} (h : w.grownBy w' (some g)) (hlo : lo ≤ w.heap.size) : Chg g lo w w' :=
  ⟨h.os, h.tape, h.output, h.size, fun k hk hne => h.block k (by omega) (fun e => by injection e with e; exact hne e)⟩
theorem Chg.ofBelow {g lo : Nat} {w w' : World} (h : Below lo w w') : Chg g lo w w' := ⟨h.os, h.tape, h.output, h.size, fun k hk _ => h.block k hk⟩
theorem Chg.below {g lo : Nat} {w w' : World} (h : Chg g lo w w') (hg : g ≤ lo) : Below g w w' := ⟨h.os, h.tape, h.output, h.size, fun k hk => h.block k (by omega) (by omega)⟩
theorem Chg.grown {g : Nat} {w w' : World} (h : Chg g w.heap.size w w') : w.grownBy w' (some g) := ⟨h.os, h.tape, h.output, h.size, fun k hk hne => h.block k hk (fun e => hne (by rw [e]))⟩
theorem Chg.push {g lo : Nat} {w0 w w1 : World} {o : Obj} {row : Option Nat} (hb : Chg g lo w0 w) (hB : lo ≤ w.heap.size) (hg : (w.alloc o).grownBy w1 row) (hr : ∀ k, row = some k → lo ≤ k) : Chg g lo w0 w1 :=
  hb.trans (.ofBelow (((Below.refl lo w).alloc hB o).grown hg (by simp; omega) hr))














end Go.Proofs.YtmlomapifldlpaaDoor
