/-
  Walks: ranks: the program's and the model's.
-/
import Derived.Test.YtcjnmconehfbgaaW4
import Derived.Test.YtcjnmconehfbgaaM28
import Derived.Deep.RegionHeld3
import Derived.Deep.MidRow
import Derived.StillTailTactics
namespace Go.Proofs.Ytcjnmconehfbgaa
open Go.RowKit NP
set_option maxRecDepth 8000
set_option linter.unusedVariables false
set_option linter.unusedSimpArgs false
theorem Blk.range {w : World} {g : Nat} {t : TypeId} {vs : List Value} (h : Blk w g t vs.toArray) : w.rangeAt g 0 vs := fun j v hv => by
  rw [Nat.zero_add, h.cell j]; simpa using hv
theorem range_below {w w' : World} {b o : Nat} {cs : List Value} (h : w.rangeAt b o cs) (hb : Below w.heap.size w w') : w'.rangeAt b o cs := fun j v hv => by
  have := h j v hv
  exact (hb.cell (p := ⟨b, o + j, none⟩) (World.block_lt_of_cell? w _ this)).trans this
theorem keep_cr {w0 w w' : World} {g : Nat} {x : Value} {cs : List Value} (h : w.cell? ⟨g, 0, none⟩ = some x ∧ w.rangeAt g 0 cs ∧ Below w0.heap.size w0 w) (hb : Below w.heap.size w w') :
    w'.cell? ⟨g, 0, none⟩ = some x ∧ w'.rangeAt g 0 cs ∧ Below w0.heap.size w0 w' :=
  ⟨(hb.cell (p := ⟨g, 0, none⟩) (World.block_lt_of_cell? w _ h.1)).trans h.1, range_below h.2.1 hb, h.2.2.trans (hb.mono h.2.2.size)⟩
theorem cntD_le (D : List Int) : cntD D ≤ 16 := (ff_spec _ 16).1
theorem cntD_pad {M : List Int} (hM : valid M = true) : cntD (pad M) = M.length := by
  have hbd := valid_bd hM
  have hlen : M.length ≤ 16 := hbd.2.2.2
  unfold cntD
  refine ff_eq (fun j hj => ?_) hlen ?_
  · have h1 := preS_of_valid hM j hj hj
    rw [List.getD_eq_getElem?_getD, List.getElem?_eq_getElem (by rw [pad_len hlen]; omega), Option.getD_some, pad_get hlen hj]
    simp; omega
  · rcases Nat.lt_or_ge M.length 16 with h | h
    · right
      rw [List.getD_eq_getElem?_getD, List.getElem?_eq_getElem (by rw [pad_len hlen]; omega), Option.getD_some, pad_get0 hlen (Nat.le_refl _) h]
      simp
    · left; omega
theorem getD0 (L : List Int) : L.getD 0 0 = L.headD 0 := by cases L <;> rfl
theorem cntD_zeros : cntD (List.replicate 16 0) = 0 := by decide
theorem dg_bd (L : List Int) : ∀ k (h : k < (dg L).length), 0 ≤ (dg L)[k] ∧ (dg L)[k] ≤ 16 := by
  cases hv : valid L with
  | true => rw [dg_yes hv]; exact pad_nonneg hv
  | false => rw [dg_no hv]; intro k h; rw [List.getElem_replicate]; omega
theorem rnk_dg (L : List Int) : (dg L).getD 0 0 - cntD (dg L) = rnk L := by
  cases hv : valid L with
  | true => rw [dg_yes hv, cntD_pad hv, pad_getD (valid_bd hv).2.2.2, getD0, rnk_yes hv]
  | false => rw [dg_no hv, cntD_zeros, rnk_no hv]; rfl
theorem info_diag (D : List Int) (hD : D.length = 16) : (Try.prog.info? 54).map (·.size) = some (ints D).length := by rw [List.length_map, hD]; exact T_info35

theorem drank_any (D : List Int) (hD : D.length = 16) (h0 : ∀ k (h : k < D.length), 0 ≤ D[k] ∧ D[k] ≤ 16) (w : World) :
    Calls Try.prog 50 #[.agg (arr D)] w fun e w' => e = .returned (.int .i64 (D.getD 0 0 - cntD D)) ∧ Below w.heap.size w w' := by
  have hd0 : 0 < D.length := by omega
  have hi := info_diag D hD
  have hu := Try.underlying54
  have hb := Blk.new w 54 (arr D)
  have hr : (w.alloc (.cells (arr D) 54)).rangeAt w.heap.size 0 (ints D) := Blk.range hb
  have hc := box_cell w D 0 hd0
  have hx := h0 0 hd0
  have hcn := cntD_le D
  have hal := (Below.refl w.heap.size w).alloc (Nat.le_refl _) (.cells (arr D) 54)
  have hg : D.getD 0 0 = D[0] := getD_lt hd0
  rw [hg]
  generalize D[0] = x at *
  clear hg h0 hb
  have HD := Lib.hid hD
  have hwr : IntKind.i64.wrap (x - (cntD D : Int)) = x - (cntD D : Int) := IntWalk.i64_in _ (by omega)
  clear hD hd0
  go_enter Try.func50, Try.ntmps50
  go_wp2_with fail
  go_region_held3 (fun w' => w'.cell? ⟨w.heap.size, 0, none⟩ = some (.int .i64 x) ∧ w'.rangeAt w.heap.size 0 (ints D) ∧ Below w.heap.size w w') (first | exact ⟨hc, hr, hal⟩ | exact ⟨hc, hr, hal.trans ((Dr.n _ 1).below _)⟩ | exact keep_cr (by assumption) hbd)
    (first | (go_at_call 76; refine (count_any D HD.out _).mono ?_; rintro e w' ⟨rfl, hbd⟩))
  go_wp2
  go_ret
  exact ⟨rfl, by rename_i hH; exact hH.2.2⟩


theorem srankOf_any (a : Option Addr) (c B : Nat) (L : List Int) (w : World) (h : Rd w B a (ints L)) (hv : valid L = true) :
    Calls Try.prog 72 #[.slice a L.length c] w fun e w' => e = .returned (.int .i64 (rnk L)) ∧ Dr w w' := by
  have hl16 := (valid_bd hv).2.2.2
  have hp := preS_of_valid hv
  rw [rnk_yes hv]
  clear hv
  by_cases h0 : 0 < L.length
  · have h0' : (L.length == 0) = false := by simp; intro e; subst e; simp at h0
    obtain ⟨b, o, rfl, hbB, hc⟩ := h.at_ h0
    have hx := hp 0 h0 h0
    have hg : L.headD 0 = L[0] := headD_get L h0
    rw [hg]
    have hc' : w.cell? ⟨b, o, none⟩ = some (.int .i64 L[0]) := hc
    clear hp hg hc
    generalize L[0] = x at *
    go_enter Try.func72, Try.ntmps72
    go_wp2_with fail
    go_ret
    exact ⟨by go_num, Dr.refl _⟩
  · obtain rfl : L = [] := List.eq_nil_of_length_eq_zero (by omega)
    go_enter Try.func72, Try.ntmps72
    go_wp2_with fail
    go_ret
    exact ⟨rfl, Dr.refl _⟩

end Go.Proofs.Ytcjnmconehfbgaa
