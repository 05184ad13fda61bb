/-
  Walks: ranks: the program's and the model's.
-/
import Derived.Test.YtlgglbgdopmkpaaW4
import Derived.Test.YtlgglbgdopmkpaaM28
import Derived.Deep.RegionHeld3
import Derived.Deep.MidRow
import Derived.StillTailTactics
namespace Go.Proofs.Ytlgglbgdopmkpaa
open Go.RowKit NP
set_option linter.unusedVariables false
set_option linter.unusedSimpArgs false
theorem Blk.range {w : World} {g : Nat} {t : TypeId} {vs : List Value} (h : Blk w g t vs.toArray) : w.rangeAt g 0 vs := fun j v hv => by
  rw [Nat.zero_add, h.cell j]; simpa using hv
theorem range_below {w w' : World} {b o : Nat} {cs : List Value} (h : w.rangeAt b o cs) (hb : Below w.heap.size w w') : w'.rangeAt b o cs := fun j v hv => by
  have := h j v hv
  exact (hb.cell (p := ⟨b, o + j, none⟩) (World.block_lt_of_cell? w _ this)).trans this
theorem keep_cr {w0 w w' : World} {g : Nat} {x : Value} {cs : List Value} (h : w.cell? ⟨g, 0, none⟩ = some x ∧ w.rangeAt g 0 cs ∧ Below w0.heap.size w0 w) (hb : Below w.heap.size w w') :
    w'.cell? ⟨g, 0, none⟩ = some x ∧ w'.rangeAt g 0 cs ∧ Below w0.heap.size w0 w' :=
  ⟨(hb.cell (p := ⟨g, 0, none⟩) (World.block_lt_of_cell? w _ h.1)).trans h.1, range_below h.2.1 hb, h.2.2.trans (hb.mono h.2.2.size)⟩
theorem cntD_le (D : List Int) : cntD D ≤ 16 := (ff_spec _ 16).1
theorem cntD_pad {M : List Int} (hM : valid M = true) : cntD (pad M) = M.length := by
  have hbd := valid_bd hM
  have hlen : M.length ≤ 16 := hbd.2.2.2
  unfold cntD
  refine ff_eq (fun j hj => ?_) hlen ?_
  · have h1 := preS_of_valid hM j hj hj
    rw [List.getD_eq_getElem?_getD, List.getElem?_eq_getElem (by rw [pad_len hlen]; omega), Option.getD_some, pad_get hlen hj]
    simp; omega
  · rcases Nat.lt_or_ge M.length 16 with h | h
    · right
      rw [List.getD_eq_getElem?_getD, List.getElem?_eq_getElem (by rw [pad_len hlen]; omega), Option.getD_some, pad_get0 hlen (Nat.le_refl _) h]
      simp
    · left; omega
theorem getD0 (L : List Int) : L.getD 0 0 = L.headD 0 := by cases L <;> rfl
theorem cntD_zeros : cntD (List.replicate 16 0) = 0 := by decide
theorem dg_bd (L : List Int) : ∀ k (h : k < (dg L).length), 0 ≤ (dg L)[k] ∧ (dg L)[k] ≤ 16 := by
  cases hv : valid L with
  | true => rw [dg_yes hv]; exact pad_nonneg hv
  | false => rw [dg_no hv]; intro k h; rw [List.getElem_replicate]; omega
theorem rnk_dg (L : List Int) : (dg L).getD 0 0 - cntD (dg L) = rnk L := by
  cases hv : valid L with
  | true => rw [dg_yes hv, cntD_pad hv, pad_getD (valid_bd hv).2.2.2, getD0, rnk_yes hv]
  | false => rw [dg_no hv, cntD_zeros, rnk_no hv]; rfl
theorem info_diag (D : List Int) (hD : D.length = 16) : (Try.prog.info? 40).map (·.size) = some (ints D).length := by rw [List.length_map, hD]; exact T_info35

theorem drank_any (D : List Int) (hD : D.length = 16) (h0 : ∀ k (h : k < D.length), 0 ≤ D[k] ∧ D[k] ≤ 16) (w : World) :
    Calls Try.prog 50 #[.agg (arr D)] w fun e w' => e = .returned (.int .i64 (D.getD 0 0 - cntD D)) ∧ Below w.heap.size w w' := by
  have hd0 : 0 < D.length := by omega
  have hi := info_diag D hD
  have hu := Try.underlying40
  have hb := Blk.new w 40 (arr D)
  have hr : (w.alloc (.cells (arr D) 40)).rangeAt w.heap.size 0 (ints D) := Blk.range hb
  have hc := box_cell w D 0 hd0
  have hx := h0 0 hd0
  have hcn := cntD_le D
  have hal := (Below.refl w.heap.size w).alloc (Nat.le_refl _) (.cells (arr D) 40)
  have hg : D.getD 0 0 = D[0] := getD_lt hd0
  rw [hg]
  generalize D[0] = x at *
  clear hg h0 hb
  have HD := Lib.hid hD
  have hwr : IntKind.i64.wrap (x - (cntD D : Int)) = x - (cntD D : Int) := IntWalk.i64_in _ (by omega)
  clear hD hd0
  go_enter Try.func50, Try.ntmps50
  go_wp2_with fail
  go_region_held3 (fun w' => w'.cell? ⟨w.heap.size, 0, none⟩ = some (.int .i64 x) ∧ w'.rangeAt w.heap.size 0 (ints D) ∧ Below w.heap.size w w') (first | exact ⟨hc, hr, hal⟩ | exact ⟨hc, hr, hal.trans ((Dr.n _ 1).below _)⟩ | exact keep_cr (by assumption) hbd)
    (first | (go_at_call 75; refine (count_any D HD.out _).mono ?_; rintro e w' ⟨rfl, hbd⟩))
  go_wp2
  go_ret
  exact ⟨rfl, by rename_i hH; exact hH.2.2⟩

theorem iRankOf_any (a : Option Addr) (c B : Nat) (L : List Int) (w : World) (h : Rd w B a (ints L)) (hB : B ≤ w.heap.size) (hl : L.length ≤ 4611686018427387904) :
    Calls Try.prog 19 #[.slice a L.length c] w fun e w' => e = .returned (.int .i64 (rnk L)) ∧ Below w.heap.size w w' := by
  have hi16 : (Try.prog.info? 40).map (·.size) = some (arr (dg L)).size := by rw [arr_size, dg_len]; exact T_info35
  have hsz : (arr (dg L)).size = (arr (List.replicate 16 0)).size := by rw [arr_size, arr_size, dg_len]; rfl
  go_enter Try.func19, Try.ntmps19
  go_wp2_with (first | (go_at_call 49; refine (diagramOf_any _ _ B L _ h hB hl).mono ?_; rintro e w1 ⟨rfl, hb1⟩) | (refine wpList_store_row rfl 40 (.tmp 3) (.tmp 8) rfl w1.heap.size rfl (arr (dg L)) rfl 40 (arr (List.replicate 16 0)) (Blk.new w1 _ _) hi16 hsz (arr_one _) ?_) | (refine wpList_load_row rfl 40 (.tmp 3) rfl w1.heap.size rfl 40 (arr (dg L)) (0, 0) _ (Blk.new w1 _ _).row Try.underlying40 rfl hi16 ?_) | (go_at_call 50; refine (drank_any (dg L) (dg_len L) (dg_bd L) _).mono ?_; rintro e w2 ⟨rfl, hb2⟩))
  go_ret
  refine ⟨ret_i64 (rnk_dg L), ?_⟩
  exact (below_setRow' (hb1.alloc hb1.size _) (by exact hb1.size) _).trans (hb2.mono (by have := hb1.size; simp; omega))

theorem srankOf_any (a : Option Addr) (c B : Nat) (L : List Int) (w : World) (h : Rd w B a (ints L)) (hv : valid L = true) :
    Calls Try.prog 48 #[.slice a L.length c] w fun e w' => e = .returned (.int .i64 (rnk L)) ∧ Dr w w' := by
  have hl16 := (valid_bd hv).2.2.2
  have hp := preS_of_valid hv
  rw [rnk_yes hv]
  clear hv
  by_cases h0 : 0 < L.length
  · have h0' : (L.length == 0) = false := by simp; intro e; subst e; simp at h0
    obtain ⟨b, o, rfl, hbB, hc⟩ := h.at_ h0
    have hx := hp 0 h0 h0
    have hg : L.headD 0 = L[0] := headD_get L h0
    rw [hg]
    have hc' : w.cell? ⟨b, o, none⟩ = some (.int .i64 L[0]) := hc
    clear hp hg hc
    generalize L[0] = x at *
    go_enter Try.func48, Try.ntmps48
    go_wp2_with fail
    go_ret
    exact ⟨by go_num, Dr.refl _⟩
  · obtain rfl : L = [] := List.eq_nil_of_length_eq_zero (by omega)
    go_enter Try.func48, Try.ntmps48
    go_wp2_with fail
    go_ret
    exact ⟨rfl, Dr.refl _⟩

theorem sRankOf_any (a : Option Addr) (c B : Nat) (L : List Int) (w : World) (h : Rd w B a (ints L)) (hl : L.length ≤ 4611686018427387904) :
    Calls Try.prog 17 #[.slice a L.length c] w fun e w' => e = .returned (.int .i64 (rnk L)) ∧ Dr w w' := by
  cases hv : valid L with
  | true =>
    have HV := Lib.hid hv
    clear hv
    go_enter Try.func17, Try.ntmps17
    go_wp2_with (first
      | (go_at_call 48; refine (srankOf_any _ _ B L _ (h.dr (Dr.n w n1)) HV.out).mono ?_; rintro e w2 ⟨rfl, hd⟩)
      | (go_at_call 47; refine (validParts_any _ _ B L _ h hl).mono ?_; rintro e wv ⟨rfl, n1, rfl⟩; rw [HV.out]))
    go_ret
    exact ⟨rfl, (Dr.n w n1).trans hd⟩
  | false =>
    have HV := Lib.hid hv
    rw [rnk_no hv]
    clear hv
    go_enter Try.func17, Try.ntmps17
    go_wp2_with (go_at_call 47; refine (validParts_any _ _ B L _ h hl).mono ?_; rintro e wv ⟨rfl, n1, rfl⟩; rw [HV.out])
    go_ret
    exact ⟨rfl, Dr.n w n1⟩
end Go.Proofs.Ytlgglbgdopmkpaa
