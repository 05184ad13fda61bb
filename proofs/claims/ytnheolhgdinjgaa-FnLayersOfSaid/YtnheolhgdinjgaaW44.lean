/-
  Walks: ranks: the program's and the model's.
-/
import Derived.Test.YtnheolhgdinjgaaW4
import Derived.Test.YtnheolhgdinjgaaM28
import Derived.Deep.RegionHeld3
import Derived.Deep.MidRow
import Derived.StillTailTactics
namespace Go.Proofs.Ytnheolhgdinjgaa
open Go.RowKit NP
set_option maxRecDepth 8000
set_option linter.unusedVariables false
set_option linter.unusedSimpArgs false
theorem Blk.range {w : World} {g : Nat} {t : TypeId} {vs : List Value} (h : Blk w g t vs.toArray) : w.rangeAt g 0 vs := fun j v hv => by
  rw [Nat.zero_add, h.cell j]; simpa using hv
theorem range_below {w w' : World} {b o : Nat} {cs : List Value} (h : w.rangeAt b o cs) (hb : Below w.heap.size w w') : w'.rangeAt b o cs := fun j v hv => by
  have := h j v hv
  exact (hb.cell (p := ⟨b, o + j, none⟩) (World.block_lt_of_cell? w _ this)).trans this
theorem keep_cr {w0 w w' : World} {g : Nat} {x : Value} {cs : List Value} (h : w.cell? ⟨g, 0, none⟩ = some x ∧ w.rangeAt g 0 cs ∧ Below w0.heap.size w0 w) (hb : Below w.heap.size w w') :
    w'.cell? ⟨g, 0, none⟩ = some x ∧ w'.rangeAt g 0 cs ∧ Below w0.heap.size w0 w' :=
  ⟨(hb.cell (p := ⟨g, 0, none⟩) (World.block_lt_of_cell? w _ h.1)).trans h.1, range_below h.2.1 hb, h.2.2.trans (hb.mono h.2.2.size)⟩
theorem cntD_le (D : List Int) : cntD D ≤ 16 := (ff_spec _ 16).1
theorem cntD_pad {M : List Int} (hM : valid M = true) : cntD (pad M) = M.length := by
  have hbd := valid_bd hM
  have hlen : M.length ≤ 16 := hbd.2.2.2
  unfold cntD
  refine ff_eq (fun j hj => ?_) hlen ?_
  · have h1 := preS_of_valid hM j hj hj
    rw [List.getD_eq_getElem?_getD, List.getElem?_eq_getElem (by rw [pad_len hlen]; omega), Option.getD_some, pad_get hlen hj]
    simp; omega
  · rcases Nat.lt_or_ge M.length 16 with h | h
    · right
      rw [List.getD_eq_getElem?_getD, List.getElem?_eq_getElem (by rw [pad_len hlen]; omega), Option.getD_some, pad_get0 hlen (Nat.le_refl _) h]
      simp
    · left; omega
theorem getD0 (L : List Int) : L.getD 0 0 = L.headD 0 := by cases L <;> rfl
theorem cntD_zeros : cntD (List.replicate 16 0) = 0 := by decide
theorem dg_bd (L : List Int) : ∀ k (h : k < (dg L).length), 0 ≤ (dg L)[k] ∧ (dg L)[k] ≤ 16 := by
  cases hv : valid L with
  | true => rw [dg_yes hv]; exact pad_nonneg hv
  | false => rw [dg_no hv]; intro k h; rw [List.getElem_replicate]; omega
theorem rnk_dg (L : List Int) : (dg L).getD 0 0 - cntD (dg L) = rnk L := by
  cases hv : valid L with
  | true => rw [dg_yes hv, cntD_pad hv, pad_getD (valid_bd hv).2.2.2, getD0, rnk_yes hv]
  | false => rw [dg_no hv, cntD_zeros, rnk_no hv]; rfl
theorem info_diag (D : List Int) (hD : D.length = 16) : (Try.prog.info? 36).map (·.size) = some (ints D).length := by rw [List.length_map, hD]; exact T_info35




end Go.Proofs.Ytnheolhgdinjgaa
