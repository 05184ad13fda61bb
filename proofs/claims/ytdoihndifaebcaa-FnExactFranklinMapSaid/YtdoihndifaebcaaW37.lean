/-
  Walks of the program: Franklin's map.
-/
import Derived.Test.YtdoihndifaebcaaW33
namespace Go.Proofs.Ytdoihndifaebcaa
open Go.RowKit NP
set_option linter.unusedVariables false
set_option linter.unusedSimpArgs false
theorem pad_cellD {w : World} {g : Nat} {t : TypeId} {L : List Int} (hl : L.length ≤ 16) (hb : Blk w g t (arr (pad L))) (j : Nat) (hj : j < 16) : w.cell? ⟨g, j, none⟩ = some (.int .i64 (L.getD j 0)) := by
  have hp : j < (pad L).length := by rw [pad_len hl]; exact hj
  rw [hb.cell j, arr_get _ j hp, ← getD_lt hp, pad_getD hl]
theorem slp_eq {L : List Int} {k : Nat} (h : ∀ j, j < k → (fun n : Nat => decide (L.getD n 0 = L.getD 0 0 - (n : Int))) j = true) (h2 : k ≤ L.length) (h3 : k = L.length ∨ (fun n : Nat => decide (L.getD n 0 = L.getD 0 0 - (n : Int))) k = false) : slp L = k := ff_eq h h2 h3

set_option maxHeartbeats 4000000 in
theorem slope_any (L : List Int) (hv : valid L = true) (w : World) :
    Calls Try.prog 99 #[.agg (arr (pad L))] w fun e w' => e = .returned (.int .i64 (slp L : Int)) ∧ Below w.heap.size w w' := by
  have hl16 := (valid_bd hv).2.2.2
  have HPL := Lib.hid (pad_len hl16)
  have HC := Lib.hid (cnt_pad hv)
  have HNN := Lib.hid (getD_nn hv)
  have hiL := hiL_of hl16
  have hB0 := Blk.new w 55 (arr (pad L))
  have hbel0 : Below w.heap.size w (w.alloc (.cells (arr (pad L)) 55)) := (Below.refl _ _).alloc (Nat.le_refl _) _
  have hu := Try.underlying55
  have hiL' : (Try.prog.info? 55).map (·.size) = some (ints (pad L)).length := by rw [List.length_map, pad_len hl16]; exact T_info35
  clear hv
  by_cases h0 : L.length = 0
  · have hmin : ¬ 1 ≤ (L.length : Int) := by omega
    have HS : Hid (slp L = 0) := Lib.hid (slp_eq (fun j hj => by omega) (Nat.zero_le _) (.inl h0.symm))
    have H0 : Hid ((L.length : Int) = 0) := Lib.hid (by omega)
    go_enter Try.func99, Try.ntmps99
    go_wp2_with (first
      | (go_at_call 94; refine (count_any (pad L) HPL.out _).mono ?_; rintro e w1 ⟨rfl, hb1⟩; rw [HC.out]; have hB1 := hB0.below hb1 hB0.lt; have hbel1 := hbel0.trans (hb1.mono hbel0.size))
      | (refine wpList_load_row rfl 55 (.tmp 1) rfl (w.heap.size) rfl 55 (arr (pad L)) (0, 0) _ hB0 Try.underlying55 rfl hiL ?_))
    clear hmin
    go_loopw [3] (fun vi wr => vi = .int .i64 0 ∧ Below w.heap.size w wr ∧ Blk wr w.heap.size 55 (arr (pad L))) (fun vi _ => 0)
    case atStart => exact ⟨rfl, hbel1, hB1⟩
    case round =>
      obtain ⟨rfl, hbel, hB2⟩ := hrel
      have hrw : wr.rangeAt w.heap.size 0 (ints (pad L)) := Blk.range (vs := ints (pad L)) hB2
      clear hB1 hbel1 hb1
      go_wp2_with fail
      refine wp_region_held_drew (S := fun w' => w'.rangeAt w.heap.size 0 (ints (pad L)) ∧ Below w.heap.size w w') (by kernel_rfl) ⟨hrw, hbel.trans ((Dr.n _ 1).below _)⟩ (fun hHeld => ?_)
      refine wpAnyH_take (i := 0) (v := .int .i64 0) (by simp only [List.getElem?_toArray, List.getElem?_cons_succ, List.getElem?_cons_zero]; exact rfl) (by kernel_rfl) (by kernel_rfl) (by kernel_rfl) (by intro _ _ _ h; exact h) (Or.inl ⟨by kernel_rfl, by intro w hSw; go_simp⟩) (by assumption) ?_
      simp only [Act.put, List.setIfInBounds_toArray, List.set_cons_zero, List.set_cons_succ, List.toList_toArray]
      refine wpAnyH_take (i := 1) (v := _) (by simp only [List.getElem?_toArray, List.getElem?_cons_succ, List.getElem?_cons_zero]; exact rfl) (by kernel_rfl) (by kernel_rfl) (by kernel_rfl) (by intro _ _ _ h; exact h) (yieldsIf_load_mid (by kernel_rfl) _ _ rfl w.heap.size 0 rfl (ints (pad L)) _ (fun _ hw => hw.1) hu rfl hiL') (by assumption) ?_
      simp only [Act.put, List.setIfInBounds_toArray, List.set_cons_zero, List.set_cons_succ, List.toList_toArray]
      refine wpAnyH_ready (rs := [2]) (by kernel_rfl) (by simp) ?_
      refine AllReadyH.cons (o := _) (by simp only [List.getElem?_toArray, List.getElem?_cons_succ, List.getElem?_cons_zero]; exact rfl) (fun K hK => ?_) AllReadyH.nil
      rw [if_pos (by rfl)]
      go_simp
      go_at_call 94
      refine (count_any (pad L) HPL.out _).mono ?_
      rintro e w1 ⟨rfl, hb1⟩
      rw [HC.out]
      refine hK.out _ _ ⟨range_below hHeld.1 hb1, hHeld.2.trans (hb1.mono hHeld.2.size)⟩ (fun hH2 => ?_)
      clear hK K
      try simp only [Act.put, List.setIfInBounds_toArray, List.set_cons_zero, List.set_cons_succ, List.toList_toArray]
      refine wpAnyH_take (i := 3) (v := .bool false) (by simp only [List.getElem?_toArray, List.getElem?_cons_succ, List.getElem?_cons_zero]; exact rfl) (by kernel_rfl) (by kernel_rfl) (by kernel_rfl) (by intro _ _ _ h; exact h) (Or.inl ⟨by kernel_rfl, by intro w hSw; go_simp⟩) (by assumption) ?_
      simp only [Act.put, List.setIfInBounds_toArray, List.set_cons_zero, List.set_cons_succ, List.toList_toArray]
      refine wpAnyH_take (i := 4) (v := .bool false) (by simp only [List.getElem?_toArray, List.getElem?_cons_succ, List.getElem?_cons_zero]; exact rfl) (by kernel_rfl) (by kernel_rfl) (by kernel_rfl) (by intro _ _ _ h; exact h) (Or.inl ⟨by kernel_rfl, by intro w hSw; go_simp⟩) (by assumption) ?_
      simp only [Act.put, List.setIfInBounds_toArray, List.set_cons_zero, List.set_cons_succ, List.toList_toArray]
      refine wpAnyH_take (i := 5) (v := undef) (by simp only [List.getElem?_toArray, List.getElem?_cons_succ, List.getElem?_cons_zero]; exact rfl) (by kernel_rfl) (by kernel_rfl) (by kernel_rfl) (by intro _ _ _ h; exact h) (Or.inr ⟨by kernel_rfl, rfl⟩) (by assumption) ?_
      simp only [Act.put, List.setIfInBounds_toArray, List.set_cons_zero, List.set_cons_succ, List.toList_toArray]
      refine wpAnyH_take (i := 6) (v := undef) (by simp only [List.getElem?_toArray, List.getElem?_cons_succ, List.getElem?_cons_zero]; exact rfl) (by kernel_rfl) (by kernel_rfl) (by kernel_rfl) (by intro _ _ _ h; exact h) (Or.inr ⟨by kernel_rfl, rfl⟩) (by assumption) ?_
      simp only [Act.put, List.setIfInBounds_toArray, List.set_cons_zero, List.set_cons_succ, List.toList_toArray]
      refine wpAnyH_take (i := 7) (v := undef) (by simp only [List.getElem?_toArray, List.getElem?_cons_succ, List.getElem?_cons_zero]; exact rfl) (by kernel_rfl) (by kernel_rfl) (by kernel_rfl) (by intro _ _ _ h; exact h) (Or.inr ⟨by kernel_rfl, rfl⟩) (by assumption) ?_
      simp only [Act.put, List.setIfInBounds_toArray, List.set_cons_zero, List.set_cons_succ, List.toList_toArray]
      refine wpAnyH_take (i := 8) (v := undef) (by simp only [List.getElem?_toArray, List.getElem?_cons_succ, List.getElem?_cons_zero]; exact rfl) (by kernel_rfl) (by kernel_rfl) (by kernel_rfl) (by intro _ _ _ h; exact h) (Or.inr ⟨by kernel_rfl, rfl⟩) (by assumption) ?_
      simp only [Act.put, List.setIfInBounds_toArray, List.set_cons_zero, List.set_cons_succ, List.toList_toArray]
      refine wpAnyH_take (i := 9) (v := undef) (by simp only [List.getElem?_toArray, List.getElem?_cons_succ, List.getElem?_cons_zero]; exact rfl) (by kernel_rfl) (by kernel_rfl) (by kernel_rfl) (by intro _ _ _ h; exact h) (Or.inr ⟨by kernel_rfl, rfl⟩) (by assumption) ?_
      simp only [Act.put, List.setIfInBounds_toArray, List.set_cons_zero, List.set_cons_succ, List.toList_toArray]
      refine wpAnyH_take (i := 10) (v := undef) (by simp only [List.getElem?_toArray, List.getElem?_cons_succ, List.getElem?_cons_zero]; exact rfl) (by kernel_rfl) (by kernel_rfl) (by kernel_rfl) (by intro _ _ _ h; exact h) (Or.inr ⟨by kernel_rfl, rfl⟩) (by assumption) ?_
      simp only [Act.put, List.setIfInBounds_toArray, List.set_cons_zero, List.set_cons_succ, List.toList_toArray]
      refine wpAnyH_take (i := 11) (v := undef) (by simp only [List.getElem?_toArray, List.getElem?_cons_succ, List.getElem?_cons_zero]; exact rfl) (by kernel_rfl) (by kernel_rfl) (by kernel_rfl) (by intro _ _ _ h; exact h) (Or.inr ⟨by kernel_rfl, rfl⟩) (by assumption) ?_
      simp only [Act.put, List.setIfInBounds_toArray, List.set_cons_zero, List.set_cons_succ, List.toList_toArray]
      refine wpAnyH_take (i := 12) (v := undef) (by simp only [List.getElem?_toArray, List.getElem?_cons_succ, List.getElem?_cons_zero]; exact rfl) (by kernel_rfl) (by kernel_rfl) (by kernel_rfl) (by intro _ _ _ h; exact h) (Or.inr ⟨by kernel_rfl, rfl⟩) (by assumption) ?_
      simp only [Act.put, List.setIfInBounds_toArray, List.set_cons_zero, List.set_cons_succ, List.toList_toArray]
      refine wpAnyH_take (i := 13) (v := undef) (by simp only [List.getElem?_toArray, List.getElem?_cons_succ, List.getElem?_cons_zero]; exact rfl) (by kernel_rfl) (by kernel_rfl) (by kernel_rfl) (by intro _ _ _ h; exact h) (Or.inr ⟨by kernel_rfl, rfl⟩) (by assumption) ?_
      simp only [Act.put, List.setIfInBounds_toArray, List.set_cons_zero, List.set_cons_succ, List.toList_toArray]
      refine wpAnyH_take (i := 14) (v := .bool false) (by simp only [List.getElem?_toArray, List.getElem?_cons_succ, List.getElem?_cons_zero]; exact rfl) (by kernel_rfl) (by kernel_rfl) (by kernel_rfl) (by intro _ _ _ h; exact h) (Or.inl ⟨by kernel_rfl, by intro w hSw; go_simp⟩) (by assumption) ?_
      simp only [Act.put, List.setIfInBounds_toArray, List.set_cons_zero, List.set_cons_succ, List.toList_toArray]
      refine wpAnyH_done (by kernel_rfl) ?_ _
      try simp only [Act.put, List.setIfInBounds_toArray, List.set_cons_zero, List.set_cons_succ]
      go_wp2_with fail
      go_ret
      exact ⟨ret_i64 (by rw [HS.out]; rfl), hH2.2⟩
  · have hmin : 1 ≤ (L.length : Int) := by omega
    have h16i : (L.length : Int) ≤ 16 := by omega
    go_enter Try.func99, Try.ntmps99
    go_wp2_with (first
      | (go_at_call 94; refine (count_any (pad L) HPL.out _).mono ?_; rintro e w1 ⟨rfl, hb1⟩; rw [HC.out]; have hB1 := hB0.below hb1 hB0.lt; have hbel1 := hbel0.trans (hb1.mono hbel0.size))
      | (refine wpList_load_row rfl 55 (.tmp 1) rfl (w.heap.size) rfl 55 (arr (pad L)) (0, 0) _ hB0 Try.underlying55 rfl hiL ?_))
    clear hmin
    go_loopw [3] (fun vi wr => ∃ k : Nat, 1 ≤ k ∧ k ≤ L.length ∧ vi = .int .i64 (k : Int) ∧ Below w.heap.size w wr ∧ Blk wr w.heap.size 55 (arr (pad L)) ∧ Hid (∀ j, j < k → (fun n : Nat => decide (L.getD n 0 = L.getD 0 0 - (n : Int))) j = true)) (fun vi _ => 16 - (intOf vi).toNat)
    case atStart => exact ⟨1, Nat.le_refl _, by omega, rfl, hbel1, hB1, Lib.hid (fun j hj => by obtain rfl : j = 0 := (by omega); simp)⟩
    case round =>
      obtain ⟨k, hk1, hkl, rfl, hbel, hB2, HJ⟩ := hrel
      have hrw : wr.rangeAt w.heap.size 0 (ints (pad L)) := Blk.range (vs := ints (pad L)) hB2
      have hk1' : (1 : Int) ≤ (k : Int) := by omega
      have hk16 : k ≤ 16 := by omega
      clear hB1 hbel1 hb1
      by_cases hk : k < L.length
      · have hki : (k : Int) < (L.length : Int) := by omega
        have hk16' : k < 16 := by omega
        have hk16i : (k : Int) < 16 := by omega
        have hkm : (k : Int) - 1 < 16 := by omega
        have hkm0 : 0 ≤ (k : Int) - 1 := by omega
        obtain ⟨x, hx⟩ : ∃ x, x = L.getD k 0 := ⟨_, rfl⟩
        obtain ⟨y, hy⟩ : ∃ y, y = L.getD (k - 1) 0 := ⟨_, rfl⟩
        have hcx := pad_cellD hl16 hB2 k (by omega)
        have hcy := pad_cellD hl16 hB2 (k - 1) (by omega)
        have hx16 := HNN.out k
        have hy16 := HNN.out (k - 1)
        rw [← hx] at hcx hx16
        rw [← hy] at hcy hy16
        have hJ : y = L.getD 0 0 - ((k : Int) - 1) := by have := HJ.out (k - 1) (by omega); simp only [decide_eq_true_eq] at this; rw [hy, this]; omega
        have HXY : Hid (x = y - 1 ↔ L.getD k 0 = L.getD 0 0 - (k : Int)) := Lib.hid (by rw [← hx, hJ]; omega)
        clear hx hy hJ
        have hw1 : IntKind.i64.wrap ((k : Int) - 1) = (k : Int) - 1 := IntWalk.i64_in _ (by omega)
        have hw2 : IntKind.i64.wrap (y - 1) = y - 1 := IntWalk.i64_in _ (by omega)
        by_cases hxy : x = y - 1
        · have hq : (x == y - 1) = true := beq_iff_eq.2 hxy
          have HXE := Lib.hid hxy
          clear hxy
          go_wp2_with fail
          refine wp_region_held_drew (S := fun w' => w'.rangeAt w.heap.size 0 (ints (pad L)) ∧ w'.cell? ⟨w.heap.size, k, none⟩ = some (.int .i64 x) ∧ w'.cell? ⟨w.heap.size, k - 1, none⟩ = some (.int .i64 y) ∧ Below w.heap.size w w' ∧ Blk w' w.heap.size 55 (arr (pad L))) (by kernel_rfl) ⟨hrw, hcx, hcy, hbel.trans ((Dr.n _ 1).below _), hB2.below ((Dr.n _ 1).below _) hB2.lt⟩ (fun hHeld => ?_)
          refine wpAnyH_take (i := 0) (v := .int .i64 (k : Int)) (by simp only [List.getElem?_toArray, List.getElem?_cons_succ, List.getElem?_cons_zero]; exact rfl) (by kernel_rfl) (by kernel_rfl) (by kernel_rfl) (by intro _ _ _ h; exact h) (Or.inl ⟨by kernel_rfl, by intro w hSw; go_simp⟩) (by assumption) ?_
          simp only [Act.put, List.setIfInBounds_toArray, List.set_cons_zero, List.set_cons_succ, List.toList_toArray]
          refine wpAnyH_take (i := 1) (v := _) (by simp only [List.getElem?_toArray, List.getElem?_cons_succ, List.getElem?_cons_zero]; exact rfl) (by kernel_rfl) (by kernel_rfl) (by kernel_rfl) (by intro _ _ _ h; exact h) (yieldsIf_load_mid (by kernel_rfl) _ _ rfl w.heap.size 0 rfl (ints (pad L)) _ (fun _ hw => hw.1) hu rfl hiL') (by assumption) ?_
          simp only [Act.put, List.setIfInBounds_toArray, List.set_cons_zero, List.set_cons_succ, List.toList_toArray]
          refine wpAnyH_ready (rs := [2]) (by kernel_rfl) (by simp) ?_
          refine AllReadyH.cons (o := _) (by simp only [List.getElem?_toArray, List.getElem?_cons_succ, List.getElem?_cons_zero]; exact rfl) (fun K hK => ?_) AllReadyH.nil
          rw [if_pos (by rfl)]
          go_simp
          go_at_call 94
          refine (count_any (pad L) HPL.out _).mono ?_
          rintro e w1 ⟨rfl, hb1⟩
          rw [HC.out]
          refine hK.out _ _ ⟨range_below hHeld.1 hb1, (hb1.cell (p := ⟨w.heap.size, k, none⟩) (World.block_lt_of_cell? _ _ hHeld.2.1)).trans hHeld.2.1, (hb1.cell (p := ⟨w.heap.size, k - 1, none⟩) (World.block_lt_of_cell? _ _ hHeld.2.2.1)).trans hHeld.2.2.1, hHeld.2.2.2.1.trans (hb1.mono hHeld.2.2.2.1.size), hHeld.2.2.2.2.below hb1 hHeld.2.2.2.2.lt⟩ (fun hH2 => ?_)
          clear hK K
          try simp only [Act.put, List.setIfInBounds_toArray, List.set_cons_zero, List.set_cons_succ, List.toList_toArray]
          refine wpAnyH_take (i := 3) (v := .bool true) (by simp only [List.getElem?_toArray, List.getElem?_cons_succ, List.getElem?_cons_zero]; exact rfl) (by kernel_rfl) (by kernel_rfl) (by kernel_rfl) (by intro _ _ _ h; exact h) (Or.inl ⟨by kernel_rfl, by intro w hSw; go_simp⟩) (by assumption) ?_
          simp only [Act.put, List.setIfInBounds_toArray, List.set_cons_zero, List.set_cons_succ, List.toList_toArray]
          refine wpAnyH_take (i := 4) (v := .bool true) (by simp only [List.getElem?_toArray, List.getElem?_cons_succ, List.getElem?_cons_zero]; exact rfl) (by kernel_rfl) (by kernel_rfl) (by kernel_rfl) (by intro _ _ _ h; exact h) (Or.inl ⟨by kernel_rfl, by intro w hSw; go_simp⟩) (by assumption) ?_
          simp only [Act.put, List.setIfInBounds_toArray, List.set_cons_zero, List.set_cons_succ, List.toList_toArray]
          refine wpAnyH_take (i := 5) (v := .int .i64 (k : Int)) (by simp only [List.getElem?_toArray, List.getElem?_cons_succ, List.getElem?_cons_zero]; exact rfl) (by kernel_rfl) (by kernel_rfl) (by kernel_rfl) (by intro _ _ _ h; exact h) (Or.inl ⟨by kernel_rfl, by intro w hSw; go_simp⟩) (by assumption) ?_
          simp only [Act.put, List.setIfInBounds_toArray, List.set_cons_zero, List.set_cons_succ, List.toList_toArray]
          refine wpAnyH_take (i := 6) (v := .pointer (some ⟨w.heap.size, k, none⟩)) (by simp only [List.getElem?_toArray, List.getElem?_cons_succ, List.getElem?_cons_zero]; exact rfl) (by kernel_rfl) (by kernel_rfl) (by kernel_rfl) (by intro _ _ _ h; exact h) (Or.inl ⟨by kernel_rfl, by intro w hSw; go_simp⟩) (by assumption) ?_
          simp only [Act.put, List.setIfInBounds_toArray, List.set_cons_zero, List.set_cons_succ, List.toList_toArray]
          refine wpAnyH_take (i := 7) (v := .int .i64 x) (by simp only [List.getElem?_toArray, List.getElem?_cons_succ, List.getElem?_cons_zero]; exact rfl) (by kernel_rfl) (by kernel_rfl) (by kernel_rfl) (by intro _ _ _ h; exact h) (Or.inl ⟨by kernel_rfl, by intro w hSw; obtain ⟨hs0, hs1, hs2, hs3, hs4⟩ := hSw; go_simp⟩) (by assumption) ?_
          simp only [Act.put, List.setIfInBounds_toArray, List.set_cons_zero, List.set_cons_succ, List.toList_toArray]
          refine wpAnyH_take (i := 8) (v := .int .i64 (k : Int)) (by simp only [List.getElem?_toArray, List.getElem?_cons_succ, List.getElem?_cons_zero]; exact rfl) (by kernel_rfl) (by kernel_rfl) (by kernel_rfl) (by intro _ _ _ h; exact h) (Or.inl ⟨by kernel_rfl, by intro w hSw; go_simp⟩) (by assumption) ?_
          simp only [Act.put, List.setIfInBounds_toArray, List.set_cons_zero, List.set_cons_succ, List.toList_toArray]
          refine wpAnyH_take (i := 9) (v := .int .i64 ((k : Int) - 1)) (by simp only [List.getElem?_toArray, List.getElem?_cons_succ, List.getElem?_cons_zero]; exact rfl) (by kernel_rfl) (by kernel_rfl) (by kernel_rfl) (by intro _ _ _ h; exact h) (Or.inl ⟨by kernel_rfl, by intro w hSw; go_simp⟩) (by assumption) ?_
          simp only [Act.put, List.setIfInBounds_toArray, List.set_cons_zero, List.set_cons_succ, List.toList_toArray]
          refine wpAnyH_take (i := 10) (v := .pointer (some ⟨w.heap.size, k - 1, none⟩)) (by simp only [List.getElem?_toArray, List.getElem?_cons_succ, List.getElem?_cons_zero]; exact rfl) (by kernel_rfl) (by kernel_rfl) (by kernel_rfl) (by intro _ _ _ h; exact h) (Or.inl ⟨by kernel_rfl, by intro w hSw; go_simp⟩) (by assumption) ?_
          simp only [Act.put, List.setIfInBounds_toArray, List.set_cons_zero, List.set_cons_succ, List.toList_toArray]
          refine wpAnyH_take (i := 11) (v := .int .i64 y) (by simp only [List.getElem?_toArray, List.getElem?_cons_succ, List.getElem?_cons_zero]; exact rfl) (by kernel_rfl) (by kernel_rfl) (by kernel_rfl) (by intro _ _ _ h; exact h) (Or.inl ⟨by kernel_rfl, by intro w hSw; obtain ⟨hs0, hs1, hs2, hs3, hs4⟩ := hSw; go_simp⟩) (by assumption) ?_
          simp only [Act.put, List.setIfInBounds_toArray, List.set_cons_zero, List.set_cons_succ, List.toList_toArray]
          refine wpAnyH_take (i := 12) (v := .int .i64 (y - 1)) (by simp only [List.getElem?_toArray, List.getElem?_cons_succ, List.getElem?_cons_zero]; exact rfl) (by kernel_rfl) (by kernel_rfl) (by kernel_rfl) (by intro _ _ _ h; exact h) (Or.inl ⟨by kernel_rfl, by intro w hSw; go_simp⟩) (by assumption) ?_
          simp only [Act.put, List.setIfInBounds_toArray, List.set_cons_zero, List.set_cons_succ, List.toList_toArray]
          refine wpAnyH_take (i := 13) (v := .bool true) (by simp only [List.getElem?_toArray, List.getElem?_cons_succ, List.getElem?_cons_zero]; exact rfl) (by kernel_rfl) (by kernel_rfl) (by kernel_rfl) (by intro _ _ _ h; exact h) (Or.inl ⟨by kernel_rfl, by intro w hSw; go_simp⟩) (by assumption) ?_
          simp only [Act.put, List.setIfInBounds_toArray, List.set_cons_zero, List.set_cons_succ, List.toList_toArray]
          refine wpAnyH_take (i := 14) (v := .bool true) (by simp only [List.getElem?_toArray, List.getElem?_cons_succ, List.getElem?_cons_zero]; exact rfl) (by kernel_rfl) (by kernel_rfl) (by kernel_rfl) (by intro _ _ _ h; exact h) (Or.inl ⟨by kernel_rfl, by intro w hSw; go_simp⟩) (by assumption) ?_
          simp only [Act.put, List.setIfInBounds_toArray, List.set_cons_zero, List.set_cons_succ, List.toList_toArray]
          refine wpAnyH_done (by kernel_rfl) ?_ _
          try simp only [Act.put, List.setIfInBounds_toArray, List.set_cons_zero, List.set_cons_succ]
          clear hw1 hw2
          go_wp2_with fail
          go_roundw
          case rel =>
            refine ⟨k + 1, by omega, by omega, by go_num, hH2.2.2.2.1, hH2.2.2.2.2, Lib.hid fun j hj => ?_⟩
            by_cases hjk : j < k
            · exact HJ.out j hjk
            · obtain rfl : j = k := by omega
              simp only [decide_eq_true_eq]
              exact HXY.out.1 HXE.out
          case measure => simp [intOf]; omega
        · have hq : (x == y - 1) = false := beq_eq_false_iff_ne.2 hxy
          have HXE := Lib.hid hxy
          clear hxy
          go_wp2_with fail
          refine wp_region_held_drew (S := fun w' => w'.rangeAt w.heap.size 0 (ints (pad L)) ∧ w'.cell? ⟨w.heap.size, k, none⟩ = some (.int .i64 x) ∧ w'.cell? ⟨w.heap.size, k - 1, none⟩ = some (.int .i64 y) ∧ Below w.heap.size w w' ∧ Blk w' w.heap.size 55 (arr (pad L))) (by kernel_rfl) ⟨hrw, hcx, hcy, hbel.trans ((Dr.n _ 1).below _), hB2.below ((Dr.n _ 1).below _) hB2.lt⟩ (fun hHeld => ?_)
          refine wpAnyH_take (i := 0) (v := .int .i64 (k : Int)) (by simp only [List.getElem?_toArray, List.getElem?_cons_succ, List.getElem?_cons_zero]; exact rfl) (by kernel_rfl) (by kernel_rfl) (by kernel_rfl) (by intro _ _ _ h; exact h) (Or.inl ⟨by kernel_rfl, by intro w hSw; go_simp⟩) (by assumption) ?_
          simp only [Act.put, List.setIfInBounds_toArray, List.set_cons_zero, List.set_cons_succ, List.toList_toArray]
          refine wpAnyH_take (i := 1) (v := _) (by simp only [List.getElem?_toArray, List.getElem?_cons_succ, List.getElem?_cons_zero]; exact rfl) (by kernel_rfl) (by kernel_rfl) (by kernel_rfl) (by intro _ _ _ h; exact h) (yieldsIf_load_mid (by kernel_rfl) _ _ rfl w.heap.size 0 rfl (ints (pad L)) _ (fun _ hw => hw.1) hu rfl hiL') (by assumption) ?_
          simp only [Act.put, List.setIfInBounds_toArray, List.set_cons_zero, List.set_cons_succ, List.toList_toArray]
          refine wpAnyH_ready (rs := [2]) (by kernel_rfl) (by simp) ?_
          refine AllReadyH.cons (o := _) (by simp only [List.getElem?_toArray, List.getElem?_cons_succ, List.getElem?_cons_zero]; exact rfl) (fun K hK => ?_) AllReadyH.nil
          rw [if_pos (by rfl)]
          go_simp
          go_at_call 94
          refine (count_any (pad L) HPL.out _).mono ?_
          rintro e w1 ⟨rfl, hb1⟩
          rw [HC.out]
          refine hK.out _ _ ⟨range_below hHeld.1 hb1, (hb1.cell (p := ⟨w.heap.size, k, none⟩) (World.block_lt_of_cell? _ _ hHeld.2.1)).trans hHeld.2.1, (hb1.cell (p := ⟨w.heap.size, k - 1, none⟩) (World.block_lt_of_cell? _ _ hHeld.2.2.1)).trans hHeld.2.2.1, hHeld.2.2.2.1.trans (hb1.mono hHeld.2.2.2.1.size), hHeld.2.2.2.2.below hb1 hHeld.2.2.2.2.lt⟩ (fun hH2 => ?_)
          clear hK K
          try simp only [Act.put, List.setIfInBounds_toArray, List.set_cons_zero, List.set_cons_succ, List.toList_toArray]
          refine wpAnyH_take (i := 3) (v := .bool true) (by simp only [List.getElem?_toArray, List.getElem?_cons_succ, List.getElem?_cons_zero]; exact rfl) (by kernel_rfl) (by kernel_rfl) (by kernel_rfl) (by intro _ _ _ h; exact h) (Or.inl ⟨by kernel_rfl, by intro w hSw; go_simp⟩) (by assumption) ?_
          simp only [Act.put, List.setIfInBounds_toArray, List.set_cons_zero, List.set_cons_succ, List.toList_toArray]
          refine wpAnyH_take (i := 4) (v := .bool true) (by simp only [List.getElem?_toArray, List.getElem?_cons_succ, List.getElem?_cons_zero]; exact rfl) (by kernel_rfl) (by kernel_rfl) (by kernel_rfl) (by intro _ _ _ h; exact h) (Or.inl ⟨by kernel_rfl, by intro w hSw; go_simp⟩) (by assumption) ?_
          simp only [Act.put, List.setIfInBounds_toArray, List.set_cons_zero, List.set_cons_succ, List.toList_toArray]
          refine wpAnyH_take (i := 5) (v := .int .i64 (k : Int)) (by simp only [List.getElem?_toArray, List.getElem?_cons_succ, List.getElem?_cons_zero]; exact rfl) (by kernel_rfl) (by kernel_rfl) (by kernel_rfl) (by intro _ _ _ h; exact h) (Or.inl ⟨by kernel_rfl, by intro w hSw; go_simp⟩) (by assumption) ?_
          simp only [Act.put, List.setIfInBounds_toArray, List.set_cons_zero, List.set_cons_succ, List.toList_toArray]
          refine wpAnyH_take (i := 6) (v := .pointer (some ⟨w.heap.size, k, none⟩)) (by simp only [List.getElem?_toArray, List.getElem?_cons_succ, List.getElem?_cons_zero]; exact rfl) (by kernel_rfl) (by kernel_rfl) (by kernel_rfl) (by intro _ _ _ h; exact h) (Or.inl ⟨by kernel_rfl, by intro w hSw; go_simp⟩) (by assumption) ?_
          simp only [Act.put, List.setIfInBounds_toArray, List.set_cons_zero, List.set_cons_succ, List.toList_toArray]
          refine wpAnyH_take (i := 7) (v := .int .i64 x) (by simp only [List.getElem?_toArray, List.getElem?_cons_succ, List.getElem?_cons_zero]; exact rfl) (by kernel_rfl) (by kernel_rfl) (by kernel_rfl) (by intro _ _ _ h; exact h) (Or.inl ⟨by kernel_rfl, by intro w hSw; obtain ⟨hs0, hs1, hs2, hs3, hs4⟩ := hSw; go_simp⟩) (by assumption) ?_
          simp only [Act.put, List.setIfInBounds_toArray, List.set_cons_zero, List.set_cons_succ, List.toList_toArray]
          refine wpAnyH_take (i := 8) (v := .int .i64 (k : Int)) (by simp only [List.getElem?_toArray, List.getElem?_cons_succ, List.getElem?_cons_zero]; exact rfl) (by kernel_rfl) (by kernel_rfl) (by kernel_rfl) (by intro _ _ _ h; exact h) (Or.inl ⟨by kernel_rfl, by intro w hSw; go_simp⟩) (by assumption) ?_
          simp only [Act.put, List.setIfInBounds_toArray, List.set_cons_zero, List.set_cons_succ, List.toList_toArray]
          refine wpAnyH_take (i := 9) (v := .int .i64 ((k : Int) - 1)) (by simp only [List.getElem?_toArray, List.getElem?_cons_succ, List.getElem?_cons_zero]; exact rfl) (by kernel_rfl) (by kernel_rfl) (by kernel_rfl) (by intro _ _ _ h; exact h) (Or.inl ⟨by kernel_rfl, by intro w hSw; go_simp⟩) (by assumption) ?_
          simp only [Act.put, List.setIfInBounds_toArray, List.set_cons_zero, List.set_cons_succ, List.toList_toArray]
          refine wpAnyH_take (i := 10) (v := .pointer (some ⟨w.heap.size, k - 1, none⟩)) (by simp only [List.getElem?_toArray, List.getElem?_cons_succ, List.getElem?_cons_zero]; exact rfl) (by kernel_rfl) (by kernel_rfl) (by kernel_rfl) (by intro _ _ _ h; exact h) (Or.inl ⟨by kernel_rfl, by intro w hSw; go_simp⟩) (by assumption) ?_
          simp only [Act.put, List.setIfInBounds_toArray, List.set_cons_zero, List.set_cons_succ, List.toList_toArray]
          refine wpAnyH_take (i := 11) (v := .int .i64 y) (by simp only [List.getElem?_toArray, List.getElem?_cons_succ, List.getElem?_cons_zero]; exact rfl) (by kernel_rfl) (by kernel_rfl) (by kernel_rfl) (by intro _ _ _ h; exact h) (Or.inl ⟨by kernel_rfl, by intro w hSw; obtain ⟨hs0, hs1, hs2, hs3, hs4⟩ := hSw; go_simp⟩) (by assumption) ?_
          simp only [Act.put, List.setIfInBounds_toArray, List.set_cons_zero, List.set_cons_succ, List.toList_toArray]
          refine wpAnyH_take (i := 12) (v := .int .i64 (y - 1)) (by simp only [List.getElem?_toArray, List.getElem?_cons_succ, List.getElem?_cons_zero]; exact rfl) (by kernel_rfl) (by kernel_rfl) (by kernel_rfl) (by intro _ _ _ h; exact h) (Or.inl ⟨by kernel_rfl, by intro w hSw; go_simp⟩) (by assumption) ?_
          simp only [Act.put, List.setIfInBounds_toArray, List.set_cons_zero, List.set_cons_succ, List.toList_toArray]
          refine wpAnyH_take (i := 13) (v := .bool false) (by simp only [List.getElem?_toArray, List.getElem?_cons_succ, List.getElem?_cons_zero]; exact rfl) (by kernel_rfl) (by kernel_rfl) (by kernel_rfl) (by intro _ _ _ h; exact h) (Or.inl ⟨by kernel_rfl, by intro w hSw; go_simp⟩) (by assumption) ?_
          simp only [Act.put, List.setIfInBounds_toArray, List.set_cons_zero, List.set_cons_succ, List.toList_toArray]
          refine wpAnyH_take (i := 14) (v := .bool false) (by simp only [List.getElem?_toArray, List.getElem?_cons_succ, List.getElem?_cons_zero]; exact rfl) (by kernel_rfl) (by kernel_rfl) (by kernel_rfl) (by intro _ _ _ h; exact h) (Or.inl ⟨by kernel_rfl, by intro w hSw; go_simp⟩) (by assumption) ?_
          simp only [Act.put, List.setIfInBounds_toArray, List.set_cons_zero, List.set_cons_succ, List.toList_toArray]
          refine wpAnyH_done (by kernel_rfl) ?_ _
          try simp only [Act.put, List.setIfInBounds_toArray, List.set_cons_zero, List.set_cons_succ]
          clear hw1 hw2
          go_wp2_with fail
          go_ret
          exact ⟨ret_i64 (by rw [slp_eq HJ.out hkl (.inr (by simp only [decide_eq_false_iff_not]; exact fun e => HXE.out (HXY.out.2 e)))]), hH2.2.2.2.1⟩
      · have hki : ¬ (k : Int) < (L.length : Int) := by omega
        go_wp2_with fail
        refine wp_region_held_drew (S := fun w' => w'.rangeAt w.heap.size 0 (ints (pad L)) ∧ Below w.heap.size w w') (by kernel_rfl) ⟨hrw, hbel.trans ((Dr.n _ 1).below _)⟩ (fun hHeld => ?_)
        refine wpAnyH_take (i := 0) (v := .int .i64 (k : Int)) (by simp only [List.getElem?_toArray, List.getElem?_cons_succ, List.getElem?_cons_zero]; exact rfl) (by kernel_rfl) (by kernel_rfl) (by kernel_rfl) (by intro _ _ _ h; exact h) (Or.inl ⟨by kernel_rfl, by intro w hSw; go_simp⟩) (by assumption) ?_
        simp only [Act.put, List.setIfInBounds_toArray, List.set_cons_zero, List.set_cons_succ, List.toList_toArray]
        refine wpAnyH_take (i := 1) (v := _) (by simp only [List.getElem?_toArray, List.getElem?_cons_succ, List.getElem?_cons_zero]; exact rfl) (by kernel_rfl) (by kernel_rfl) (by kernel_rfl) (by intro _ _ _ h; exact h) (yieldsIf_load_mid (by kernel_rfl) _ _ rfl w.heap.size 0 rfl (ints (pad L)) _ (fun _ hw => hw.1) hu rfl hiL') (by assumption) ?_
        simp only [Act.put, List.setIfInBounds_toArray, List.set_cons_zero, List.set_cons_succ, List.toList_toArray]
        refine wpAnyH_ready (rs := [2]) (by kernel_rfl) (by simp) ?_
        refine AllReadyH.cons (o := _) (by simp only [List.getElem?_toArray, List.getElem?_cons_succ, List.getElem?_cons_zero]; exact rfl) (fun K hK => ?_) AllReadyH.nil
        rw [if_pos (by rfl)]
        go_simp
        go_at_call 94
        refine (count_any (pad L) HPL.out _).mono ?_
        rintro e w1 ⟨rfl, hb1⟩
        rw [HC.out]
        refine hK.out _ _ ⟨range_below hHeld.1 hb1, hHeld.2.trans (hb1.mono hHeld.2.size)⟩ (fun hH2 => ?_)
        clear hK K
        try simp only [Act.put, List.setIfInBounds_toArray, List.set_cons_zero, List.set_cons_succ, List.toList_toArray]
        refine wpAnyH_take (i := 3) (v := .bool false) (by simp only [List.getElem?_toArray, List.getElem?_cons_succ, List.getElem?_cons_zero]; exact rfl) (by kernel_rfl) (by kernel_rfl) (by kernel_rfl) (by intro _ _ _ h; exact h) (Or.inl ⟨by kernel_rfl, by intro w hSw; go_simp⟩) (by assumption) ?_
        simp only [Act.put, List.setIfInBounds_toArray, List.set_cons_zero, List.set_cons_succ, List.toList_toArray]
        refine wpAnyH_take (i := 4) (v := .bool false) (by simp only [List.getElem?_toArray, List.getElem?_cons_succ, List.getElem?_cons_zero]; exact rfl) (by kernel_rfl) (by kernel_rfl) (by kernel_rfl) (by intro _ _ _ h; exact h) (Or.inl ⟨by kernel_rfl, by intro w hSw; go_simp⟩) (by assumption) ?_
        simp only [Act.put, List.setIfInBounds_toArray, List.set_cons_zero, List.set_cons_succ, List.toList_toArray]
        refine wpAnyH_take (i := 5) (v := undef) (by simp only [List.getElem?_toArray, List.getElem?_cons_succ, List.getElem?_cons_zero]; exact rfl) (by kernel_rfl) (by kernel_rfl) (by kernel_rfl) (by intro _ _ _ h; exact h) (Or.inr ⟨by kernel_rfl, rfl⟩) (by assumption) ?_
        simp only [Act.put, List.setIfInBounds_toArray, List.set_cons_zero, List.set_cons_succ, List.toList_toArray]
        refine wpAnyH_take (i := 6) (v := undef) (by simp only [List.getElem?_toArray, List.getElem?_cons_succ, List.getElem?_cons_zero]; exact rfl) (by kernel_rfl) (by kernel_rfl) (by kernel_rfl) (by intro _ _ _ h; exact h) (Or.inr ⟨by kernel_rfl, rfl⟩) (by assumption) ?_
        simp only [Act.put, List.setIfInBounds_toArray, List.set_cons_zero, List.set_cons_succ, List.toList_toArray]
        refine wpAnyH_take (i := 7) (v := undef) (by simp only [List.getElem?_toArray, List.getElem?_cons_succ, List.getElem?_cons_zero]; exact rfl) (by kernel_rfl) (by kernel_rfl) (by kernel_rfl) (by intro _ _ _ h; exact h) (Or.inr ⟨by kernel_rfl, rfl⟩) (by assumption) ?_
        simp only [Act.put, List.setIfInBounds_toArray, List.set_cons_zero, List.set_cons_succ, List.toList_toArray]
        refine wpAnyH_take (i := 8) (v := undef) (by simp only [List.getElem?_toArray, List.getElem?_cons_succ, List.getElem?_cons_zero]; exact rfl) (by kernel_rfl) (by kernel_rfl) (by kernel_rfl) (by intro _ _ _ h; exact h) (Or.inr ⟨by kernel_rfl, rfl⟩) (by assumption) ?_
        simp only [Act.put, List.setIfInBounds_toArray, List.set_cons_zero, List.set_cons_succ, List.toList_toArray]
        refine wpAnyH_take (i := 9) (v := undef) (by simp only [List.getElem?_toArray, List.getElem?_cons_succ, List.getElem?_cons_zero]; exact rfl) (by kernel_rfl) (by kernel_rfl) (by kernel_rfl) (by intro _ _ _ h; exact h) (Or.inr ⟨by kernel_rfl, rfl⟩) (by assumption) ?_
        simp only [Act.put, List.setIfInBounds_toArray, List.set_cons_zero, List.set_cons_succ, List.toList_toArray]
        refine wpAnyH_take (i := 10) (v := undef) (by simp only [List.getElem?_toArray, List.getElem?_cons_succ, List.getElem?_cons_zero]; exact rfl) (by kernel_rfl) (by kernel_rfl) (by kernel_rfl) (by intro _ _ _ h; exact h) (Or.inr ⟨by kernel_rfl, rfl⟩) (by assumption) ?_
        simp only [Act.put, List.setIfInBounds_toArray, List.set_cons_zero, List.set_cons_succ, List.toList_toArray]
        refine wpAnyH_take (i := 11) (v := undef) (by simp only [List.getElem?_toArray, List.getElem?_cons_succ, List.getElem?_cons_zero]; exact rfl) (by kernel_rfl) (by kernel_rfl) (by kernel_rfl) (by intro _ _ _ h; exact h) (Or.inr ⟨by kernel_rfl, rfl⟩) (by assumption) ?_
        simp only [Act.put, List.setIfInBounds_toArray, List.set_cons_zero, List.set_cons_succ, List.toList_toArray]
        refine wpAnyH_take (i := 12) (v := undef) (by simp only [List.getElem?_toArray, List.getElem?_cons_succ, List.getElem?_cons_zero]; exact rfl) (by kernel_rfl) (by kernel_rfl) (by kernel_rfl) (by intro _ _ _ h; exact h) (Or.inr ⟨by kernel_rfl, rfl⟩) (by assumption) ?_
        simp only [Act.put, List.setIfInBounds_toArray, List.set_cons_zero, List.set_cons_succ, List.toList_toArray]
        refine wpAnyH_take (i := 13) (v := undef) (by simp only [List.getElem?_toArray, List.getElem?_cons_succ, List.getElem?_cons_zero]; exact rfl) (by kernel_rfl) (by kernel_rfl) (by kernel_rfl) (by intro _ _ _ h; exact h) (Or.inr ⟨by kernel_rfl, rfl⟩) (by assumption) ?_
        simp only [Act.put, List.setIfInBounds_toArray, List.set_cons_zero, List.set_cons_succ, List.toList_toArray]
        refine wpAnyH_take (i := 14) (v := .bool false) (by simp only [List.getElem?_toArray, List.getElem?_cons_succ, List.getElem?_cons_zero]; exact rfl) (by kernel_rfl) (by kernel_rfl) (by kernel_rfl) (by intro _ _ _ h; exact h) (Or.inl ⟨by kernel_rfl, by intro w hSw; go_simp⟩) (by assumption) ?_
        simp only [Act.put, List.setIfInBounds_toArray, List.set_cons_zero, List.set_cons_succ, List.toList_toArray]
        refine wpAnyH_done (by kernel_rfl) ?_ _
        try simp only [Act.put, List.setIfInBounds_toArray, List.set_cons_zero, List.set_cons_succ]
        go_wp2_with fail
        go_ret
        exact ⟨ret_i64 (by rw [slp_eq HJ.out hkl (.inl (by omega))]), hH2.2⟩

set_option maxHeartbeats 4000000 in
theorem mayShift_any (L : List Int) (hv : valid L = true) (w : World) :
    Calls Try.prog 64 #[.agg (arr (pad L))] w fun e w' => e = .returned (.bool (mayS L)) ∧ Below w.heap.size w w' := by
  have HV := Lib.hid hv
  have hl16 := (valid_bd hv).2.2.2
  have HPL := Lib.hid (pad_len hl16)
  have HC := Lib.hid (cnt_pad hv)
  have HNN := Lib.hid (getD_nn hv)
  have hiL := hiL_of hl16
  have hB0 := Blk.new w 55 (arr (pad L))
  have hbel0 : Below w.heap.size w (w.alloc (.cells (arr (pad L)) 55)) := (Below.refl _ _).alloc (Nat.le_refl _) _
  have hu := Try.underlying55
  clear hv
  by_cases h0 : L.length = 0
  · have hq0 : ((L.length : Int) == 0) = true := beq_iff_eq.2 (by omega)
    have HM : Hid (mayS L = false) := Lib.hid (by unfold mayS; rw [show decide (0 < L.length) = false from decide_eq_false (by omega)]; rfl)
    go_enter Try.func64, Try.ntmps64
    go_wp2_with (first
      | (go_at_call 94; refine (count_any (pad L) HPL.out _).mono ?_; rintro e w1 ⟨rfl, hb1⟩; rw [HC.out]; have hbel1 := hbel0.trans (hb1.mono hbel0.size))
      | (refine wpList_load_row rfl 55 (.tmp 1) rfl (w.heap.size) rfl 55 (arr (pad L)) (0, 0) _ hB0 Try.underlying55 rfl hiL ?_))
    go_ret
    exact ⟨by rw [HM.out]; rfl, hbel1⟩
  · have hq0 : ((L.length : Int) == 0) = false := beq_eq_false_iff_ne.2 (by omega)
    have hc0 : 0 ≤ (L.length : Int) - 1 := by omega
    have hc16 : (L.length : Int) - 1 < 16 := by omega
    have hw1 : IntKind.i64.wrap ((L.length : Int) - 1) = (L.length : Int) - 1 := IntWalk.i64_in _ (by omega)
    have hw2 : IntKind.i64.wrap ((L.length : Int) + 1) = (L.length : Int) + 1 := IntWalk.i64_in _ (by omega)
    obtain ⟨x, hx⟩ : ∃ x, x = lastP L := ⟨_, rfl⟩
    have hx16 : 0 ≤ x ∧ x ≤ 16 := by rw [hx]; exact HNN.out _
    have HX := Lib.hid hx
    have HM : Hid (mayS L = (decide (slp L < L.length) || (decide (x ≠ (L.length : Int)) && decide (x ≠ (L.length : Int) + 1)))) := Lib.hid (by unfold mayS; rw [show decide (0 < L.length) = true from decide_eq_true (by omega), hx]; simp)
    clear hx
    by_cases hs : slp L < L.length
    · have hs' : (slp L : Int) < (L.length : Int) := by omega
      have HF : Hid (mayS L = true) := Lib.hid (by rw [HM.out]; simp [hs])
      go_enter Try.func64, Try.ntmps64
      go_wp2_with (first
        | (go_at_call 99; refine (slope_any L HV.out _).mono ?_; rintro e w2 ⟨rfl, hb2⟩; have hbel2 := hbel1.trans (hb2.mono hbel1.size))
        | (refine wpList_load_row rfl 55 (.tmp 1) rfl (w.heap.size) rfl 55 (arr (pad L)) (0, 0) _ hB1 Try.underlying55 rfl hiL ?_)
        | (go_at_call 94; refine (count_any (pad L) HPL.out _).mono ?_; rintro e w1 ⟨rfl, hb1⟩; rw [HC.out]; have hbel1 := hbel0.trans (hb1.mono hbel0.size); have hB1 := hB0.below hb1 hB0.lt; have hcl := pad_cellD hl16 hB1 (L.length - 1) (by omega); rw [show L.getD (L.length - 1) 0 = x from HX.out.symm] at hcl)
        | (refine wpList_load_row rfl 55 (.tmp 1) rfl (w.heap.size) rfl 55 (arr (pad L)) (0, 0) _ hB0 Try.underlying55 rfl hiL ?_))
      go_ret
      exact ⟨by rw [HF.out]; rfl, hbel2⟩
    · have hs' : ¬ (slp L : Int) < (L.length : Int) := by omega
      by_cases hx1 : x = (L.length : Int)
      · have HF : Hid (mayS L = false) := Lib.hid (by rw [HM.out]; simp [hs, hx1])
        have hn1 : (x != (L.length : Int)) = false := by simp [hx1]
        have hn1' : (x == (L.length : Int)) = true := by simp [hx1]
        clear hx1
        go_enter Try.func64, Try.ntmps64
        go_wp2_with (first
          | (go_at_call 99; refine (slope_any L HV.out _).mono ?_; rintro e w2 ⟨rfl, hb2⟩; have hbel2 := hbel1.trans (hb2.mono hbel1.size))
          | (refine wpList_load_row rfl 55 (.tmp 1) rfl (w.heap.size) rfl 55 (arr (pad L)) (0, 0) _ hB1 Try.underlying55 rfl hiL ?_)
          | (go_at_call 94; refine (count_any (pad L) HPL.out _).mono ?_; rintro e w1 ⟨rfl, hb1⟩; rw [HC.out]; have hbel1 := hbel0.trans (hb1.mono hbel0.size); have hB1 := hB0.below hb1 hB0.lt; have hcl := pad_cellD hl16 hB1 (L.length - 1) (by omega); rw [show L.getD (L.length - 1) 0 = x from HX.out.symm] at hcl)
          | (refine wpList_load_row rfl 55 (.tmp 1) rfl (w.heap.size) rfl 55 (arr (pad L)) (0, 0) _ hB0 Try.underlying55 rfl hiL ?_))
        go_ret
        exact ⟨by rw [HF.out]; rfl, hbel2⟩
      · have hn1 : (x != (L.length : Int)) = true := by simp [hx1]
        have hn1' : (x == (L.length : Int)) = false := by simp [hx1]
        by_cases hx2 : x = (L.length : Int) + 1
        · have HF : Hid (mayS L = false) := Lib.hid (by rw [HM.out]; simp [hs, hx2])
          have hn2 : (x != (L.length : Int) + 1) = false := by simp [hx2]
          have hn2' : (x == (L.length : Int) + 1) = true := by simp [hx2]
          clear hx1 hx2
          go_enter Try.func64, Try.ntmps64
          go_wp2_with (first
            | (go_at_call 99; refine (slope_any L HV.out _).mono ?_; rintro e w2 ⟨rfl, hb2⟩; have hbel2 := hbel1.trans (hb2.mono hbel1.size))
            | (refine wpList_load_row rfl 55 (.tmp 1) rfl (w.heap.size) rfl 55 (arr (pad L)) (0, 0) _ hB1 Try.underlying55 rfl hiL ?_)
            | (go_at_call 94; refine (count_any (pad L) HPL.out _).mono ?_; rintro e w1 ⟨rfl, hb1⟩; rw [HC.out]; have hbel1 := hbel0.trans (hb1.mono hbel0.size); have hB1 := hB0.below hb1 hB0.lt; have hcl := pad_cellD hl16 hB1 (L.length - 1) (by omega); rw [show L.getD (L.length - 1) 0 = x from HX.out.symm] at hcl)
            | (refine wpList_load_row rfl 55 (.tmp 1) rfl (w.heap.size) rfl 55 (arr (pad L)) (0, 0) _ hB0 Try.underlying55 rfl hiL ?_))
          go_ret
          exact ⟨by rw [HF.out]; rfl, hbel2⟩
        · have HF : Hid (mayS L = true) := Lib.hid (by rw [HM.out]; simp [hs, hx1, hx2])
          have hn2 : (x != (L.length : Int) + 1) = true := by simp [hx2]
          have hn2' : (x == (L.length : Int) + 1) = false := by simp [hx2]
          clear hx1 hx2
          go_enter Try.func64, Try.ntmps64
          go_wp2_with (first
            | (go_at_call 99; refine (slope_any L HV.out _).mono ?_; rintro e w2 ⟨rfl, hb2⟩; have hbel2 := hbel1.trans (hb2.mono hbel1.size))
            | (refine wpList_load_row rfl 55 (.tmp 1) rfl (w.heap.size) rfl 55 (arr (pad L)) (0, 0) _ hB1 Try.underlying55 rfl hiL ?_)
            | (go_at_call 94; refine (count_any (pad L) HPL.out _).mono ?_; rintro e w1 ⟨rfl, hb1⟩; rw [HC.out]; have hbel1 := hbel0.trans (hb1.mono hbel0.size); have hB1 := hB0.below hb1 hB0.lt; have hcl := pad_cellD hl16 hB1 (L.length - 1) (by omega); rw [show L.getD (L.length - 1) 0 = x from HX.out.symm] at hcl)
            | (refine wpList_load_row rfl 55 (.tmp 1) rfl (w.heap.size) rfl 55 (arr (pad L)) (0, 0) _ hB0 Try.underlying55 rfl hiL ?_))
          go_ret
          exact ⟨by rw [HF.out]; rfl, hbel2⟩
end Go.Proofs.Ytdoihndifaebcaa
