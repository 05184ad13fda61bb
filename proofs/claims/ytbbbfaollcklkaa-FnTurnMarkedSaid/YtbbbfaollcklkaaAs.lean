/-
  What lies aside of some blocks stays.
-/
import Derived.Test.YtbbbfaollcklkaaBase
namespace Go.Proofs.Ytbbbfaollcklkaa
open Go.RowKit
/-- nothing outside of the blocks from lo up to hi has changed -/
def Aside (lo hi : Nat) (w w' : World) : Prop := w.heap.size ≤ w'.heap.size ∧ ∀ g, (g < lo ∨ hi ≤ g) → g < w.heap.size → w'.heap[g]? = w.heap[g]?
theorem Aside.refl (lo hi : Nat) (w : World) : Aside lo hi w w := ⟨Nat.le_refl _, fun _ _ _ => rfl⟩
theorem Aside.grown {w w1 w2 : World} {lo hi : Nat} {e : TypeId} {v : Value} {vs : List Value} (h : Aside lo hi w w1) (ho : Own w1 lo hi e v vs) (hg : w1.grownBy w2 v.ownBlock) : Aside lo hi w w2 := by
  refine ⟨Nat.le_trans h.1 hg.size, fun g hgo hgl => ?_⟩
  rw [← h.2 g hgo hgl]
  refine hg.block g (Nat.lt_of_lt_of_le hgl h.1) (fun e => ?_)
  have h1 := ho.lt g e.symm
  have h2 := ho.base g e.symm
  omega
theorem Own.aside {w w' : World} {lo hi lox hix : Nat} {e : TypeId} {v : Value} {vs : List Value} (h : Own w lox hix e v vs) (ha : Aside lo hi w w') (hd : hix ≤ lo ∨ hi ≤ lox) : Own w' lox hix e v vs :=
  h.keep ha.1 fun g hg => ha.2 g (by have h1 := h.lt g hg; have h2 := h.base g hg; omega) (Nat.lt_of_lt_of_le (h.lt g hg) h.le)
theorem Own.wide {w : World} {lo hi lo' hi' : Nat} {e : TypeId} {v : Value} {vs : List Value} (h : Own w lo hi e v vs) (h1 : lo' ≤ lo) (h2 : hi ≤ hi') (h3 : hi' ≤ w.heap.size) : Own w lo' hi' e v vs :=
  ⟨(h.lower h1).row, fun g hg => Nat.lt_of_lt_of_le (h.lt g hg) h2, h3⟩
theorem Aside.alloc {w w1 : World} {lo hi : Nat} (h : Aside lo hi w w1) (o : Obj) : Aside lo hi w (w1.alloc o) :=
  ⟨Nat.le_trans h.1 (by simp), fun g hg hl => (Below.heap_alloc w1 o g (Nat.lt_of_lt_of_le hl h.1)).trans (h.2 g hg hl)⟩
theorem Aside.below {w w1 w2 : World} {lo hi : Nat} (h : Aside lo hi w w1) (hb : Below w.heap.size w1 w2) : Aside lo hi w w2 :=
  ⟨Nat.le_trans h.1 hb.size, fun g hg hl => (hb.block g hl).trans (h.2 g hg hl)⟩
theorem Aside.wide {w w1 : World} {lo hi lo' hi' : Nat} (h : Aside lo hi w w1) (h1 : lo' ≤ lo) (h2 : hi ≤ hi') : Aside lo' hi' w w1 :=
  ⟨h.1, fun g hg hl => h.2 g (by omega) hl⟩
end Go.Proofs.Ytbbbfaollcklkaa
