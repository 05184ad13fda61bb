/-
  Walks: the model's kind at three names, its list of the parts of a kind.
-/
import Derived.Test.YtcjnmconehfbgaaW39
import Derived.Test.YtcjnmconehfbgaaW34
import Derived.Test.YtcjnmconehfbgaaW4
import Derived.Test.YtcjnmconehfbgaaD3
namespace Go.Proofs.Ytcjnmconehfbgaa
open Go.RowKit NP
set_option maxRecDepth 8000
set_option linter.unusedVariables false
set_option linter.unusedSimpArgs false
theorem OwnLL.keep {w w' : World} {lo hi : Nat} {eo e : TypeId} {v : Value} {vs : List Value} {LL : List (List Int)} (h : OwnLL w lo hi eo e v vs LL) (hs : w.heap.size ≤ w'.heap.size) (hk : ∀ g, lo ≤ g → g < hi → w'.heap[g]? = w.heap[g]?) : OwnLL w' lo hi eo e v vs LL :=
  ⟨h.outer.keep hs fun g hg => hk g (h.outer.base g hg) (h.outer.lt g hg), h.len, fun k u L hu hL => (h.inner k u L hu hL).keep hs fun g hg => hk g ((h.inner k u L hu hL).base g hg) ((h.inner k u L hu hL).lt g hg), h.apartO, h.apart⟩
def okQ (L : List Int) : Bool := valid L && decide (L.length ≤ 16) && L.all fun x => decide (1 ≤ x) && decide (x ≤ 16)
def okTab : Bool := (List.range 13).all fun n => (allQ n n n).all okQ
set_option maxRecDepth 100000 in
theorem okTab_all : okTab = true := by decide +kernel
theorem allQ_ok {n : Nat} (hn : n ≤ 12) : ∀ L ∈ allQ n n n, valid L = true ∧ SmallParts L := by
  intro L hL
  have h := okTab_all
  unfold okTab at h
  have h1 := List.all_eq_true.1 h n (by simp; omega)
  have h2 := List.all_eq_true.1 h1 L hL
  unfold okQ at h2
  simp only [Bool.and_eq_true, decide_eq_true_eq, List.all_eq_true] at h2
  exact ⟨h2.1.1, h2.1.2, h2.2⟩

/-- what lies between lo and the end of w2 is the same in w' -/
def Kp (w2 w' : World) (lo : Nat) : Prop := w2.heap.size ≤ w'.heap.size ∧ ∀ g, lo ≤ g → g < w2.heap.size → w'.heap[g]? = w2.heap[g]?
theorem Kp.below {w2 w w' : World} {lo : Nat} (h : Kp w2 w lo) (hb : Below w.heap.size w w') : Kp w2 w' lo :=
  ⟨Nat.le_trans h.1 hb.size, fun g h1 h2 => (hb.block g (Nat.lt_of_lt_of_le h2 h.1)).trans (h.2 g h1 h2)⟩
theorem Kp.alloc {w2 w : World} {lo : Nat} (h : Kp w2 w lo) (o : Obj) : Kp w2 (w.alloc o) lo :=
  h.below ((Below.refl _ _).alloc (Nat.le_refl _) o)
theorem Kp.grown {w2 w w' : World} {lo : Nat} {row : Option Nat} (h : Kp w2 w lo) (hg : w.grownBy w' row) (hr : ∀ g, row = some g → g < lo ∨ w2.heap.size ≤ g) : Kp w2 w' lo :=
  ⟨Nat.le_trans h.1 hg.size, fun g h1 h2 => (hg.block g (Nat.lt_of_lt_of_le h2 h.1) (fun e => by have := hr g e.symm; omega)).trans (h.2 g h1 h2)⟩
end Go.Proofs.Ytcjnmconehfbgaa
