/-
  Walks of the program: kinds made of kinds; the makers of kinds.
-/
import Derived.Test.YtfcmfjhlmjnjiaaW30
namespace Go.Proofs.Ytfcmfjhlmjnjiaa
open Go.RowKit NP
set_option linter.unusedVariables false
set_option linter.unusedSimpArgs false
theorem hiL_of {L : List Int} (h : L.length ≤ 16) : (Try.prog.info? 58).map (·.size) = some (arr (pad L)).size := by rw [arr_size, pad_len h]; exact T_info35
theorem ints_getD (D : List Int) (k : Nat) (h : k < D.length) : (ints D)[k]? = some (.int .i64 (D.getD k 0)) := by
  rw [List.getElem?_map, List.getElem?_eq_getElem h, List.getD_eq_getElem?_getD, List.getElem?_eq_getElem h]; rfl

set_option maxHeartbeats 2000000 in
theorem noneK_any (m : Nat) (hm : 2 ≤ m ∧ m ≤ 16) (g1 : Nat) (L : List Int) (hv : valid L = true) (w : World) (h1 : Blk w g1 3 #[.int .i64 (m : Int)]) :
    Calls Try.prog 79 #[.agg (arr (pad L)), .pointer (some ⟨g1, 0, none⟩)] w fun e w' => e = .returned (.bool (kNone m L)) ∧ Below w.heap.size w w' := by
  have hl16 := (valid_bd hv).2.2.2
  have HC := Lib.hid (cnt_pad hv)
  have HPL := Lib.hid (pad_len hl16)
  have HPG := Lib.hid (fun k => pad_getD hl16 k)
  have hB0 := Blk.new w 58 (arr (pad L))
  have hbel0 : Below w.heap.size w (w.alloc (.cells (arr (pad L)) 58)) := (Below.refl _ _).alloc (Nat.le_refl _) _
  have hr0 : (w.alloc (.cells (arr (pad L)) 58)).rangeAt w.heap.size 0 (ints (pad L)) := Blk.range (vs := ints (pad L)) hB0
  have hc0 := (h1.alloc (.cells (arr (pad L)) 58)).one
  have hu := Try.underlying58
  have hiL' : (Try.prog.info? 58).map (·.size) = some (ints (pad L)).length := by rw [List.length_map, pad_len hl16]; exact T_info35
  have hw1 : IntKind.i64.wrap ((m : Int) - 1) = (m : Int) - 1 := IntWalk.i64_in _ (by omega)
  have hw2 : IntKind.i64.wrap ((L.length : Int) - ((m : Int) - 1)) = (L.length : Int) - ((m : Int) - 1) := IntWalk.i64_in _ (by omega)
  clear hv
  go_enter Try.func79, Try.ntmps79
  go_wp2_with fail
  refine wp_region_held_drew (S := fun w' => w'.rangeAt w.heap.size 0 (ints (pad L)) ∧ w'.cell? ⟨g1, 0, none⟩ = some (.int .i64 (m : Int)) ∧ Below w.heap.size w w') (by kernel_rfl) ⟨hr0, hc0, hbel0.trans ((Dr.n _ 1).below _)⟩ (fun hHeld => ?_)
  refine wpAnyH_take (i := 0) (v := _) (by simp only [List.getElem?_toArray, List.getElem?_cons_succ, List.getElem?_cons_zero]; exact rfl) (by kernel_rfl) (by kernel_rfl) (by kernel_rfl) (by intro _ _ _ h; exact h) (yieldsIf_load_mid (by kernel_rfl) _ _ rfl w.heap.size 0 rfl (ints (pad L)) _ (fun _ hw => hw.1) hu rfl hiL') (by assumption) ?_
  simp only [Act.put, List.setIfInBounds_toArray, List.set_cons_zero, List.set_cons_succ, List.toList_toArray]
  refine wpAnyH_take (i := 2) (v := .int .i64 (m : Int)) (by simp only [List.getElem?_toArray, List.getElem?_cons_succ, List.getElem?_cons_zero]; exact rfl) (by kernel_rfl) (by kernel_rfl) (by kernel_rfl) (by intro _ _ _ h; exact h) (Or.inl ⟨by kernel_rfl, by intro w hSw; obtain ⟨hs1, hs2, hs3⟩ := hSw; go_simp⟩) (by assumption) ?_
  simp only [Act.put, List.setIfInBounds_toArray, List.set_cons_zero, List.set_cons_succ, List.toList_toArray]
  refine wpAnyH_take (i := 3) (v := .int .i64 ((m : Int) - 1)) (by simp only [List.getElem?_toArray, List.getElem?_cons_succ, List.getElem?_cons_zero]; exact rfl) (by kernel_rfl) (by kernel_rfl) (by kernel_rfl) (by intro _ _ _ h; exact h) (Or.inl ⟨by kernel_rfl, by intro w hSw; go_simp⟩) (by assumption) ?_
  simp only [Act.put, List.setIfInBounds_toArray, List.set_cons_zero, List.set_cons_succ, List.toList_toArray]
  refine wpAnyH_take (i := 5) (v := .int .i64 0) (by simp only [List.getElem?_toArray, List.getElem?_cons_succ, List.getElem?_cons_zero]; exact rfl) (by kernel_rfl) (by kernel_rfl) (by kernel_rfl) (by intro _ _ _ h; exact h) (Or.inl ⟨by kernel_rfl, by intro w hSw; go_simp⟩) (by assumption) ?_
  simp only [Act.put, List.setIfInBounds_toArray, List.set_cons_zero, List.set_cons_succ, List.toList_toArray]
  refine wpAnyH_ready (rs := [1]) (by kernel_rfl) (by simp) ?_
  refine AllReadyH.cons (o := _) (by simp only [List.getElem?_toArray, List.getElem?_cons_succ, List.getElem?_cons_zero]; exact rfl) (fun K hK => ?_) AllReadyH.nil
  rw [if_pos (by rfl)]
  go_simp
  go_at_call 76
  refine (count_any (pad L) HPL.out _).mono ?_
  rintro e w1 ⟨rfl, hb1⟩
  rw [HC.out]
  refine hK.out _ _ ⟨range_below hHeld.1 hb1, (hb1.cell (p := ⟨g1, 0, none⟩) (Nat.lt_of_lt_of_le h1.lt hHeld.2.2.size)).trans hHeld.2.1, hHeld.2.2.trans (hb1.mono hHeld.2.2.size)⟩ (fun hH2 => ?_)
  clear hK K
  try simp only [Act.put, List.setIfInBounds_toArray, List.set_cons_zero, List.set_cons_succ, List.toList_toArray]
  refine wpAnyH_take (i := 4) (v := .int .i64 ((L.length : Int) - ((m : Int) - 1))) (by simp only [List.getElem?_toArray, List.getElem?_cons_succ, List.getElem?_cons_zero]; exact rfl) (by kernel_rfl) (by kernel_rfl) (by kernel_rfl) (by intro _ _ _ h; exact h) (Or.inl ⟨by kernel_rfl, by intro w hSw; go_simp⟩) (by assumption) ?_
  simp only [Act.put, List.setIfInBounds_toArray, List.set_cons_zero, List.set_cons_succ, List.toList_toArray]
  refine wpAnyH_done (by kernel_rfl) ?_ _
  try simp only [Act.put, List.setIfInBounds_toArray, List.set_cons_zero, List.set_cons_succ]
  have hR1 := hH2.1
  have hK1 := hH2.2.1
  have hbel := hH2.2.2
  clear hH2 hHeld hb1 hr0 hc0 hbel0 hB0 hw1 hw2
  go_wp2_with fail
  go_loopw [4, 10] (fun _ vi wr => ∃ k : Nat, k ≤ L.length - (m - 1) ∧ vi = .int .i64 k ∧ Dr w1 wr ∧ Hid (∀ j, j < k → (fun j => decide (L.getD j 0 ≠ L.getD (j + (m - 1)) 0)) j = true)) (fun _ vi _ => L.length - (intOf vi).toNat)
  case atStart => exact ⟨0, Nat.zero_le _, rfl, Dr.refl _, Lib.hid fun j hj => by omega⟩
  case round =>
    obtain ⟨k, hk, rfl, hdr, HP⟩ := hrel
    obtain ⟨hm1, hm2⟩ := hm
    by_cases hlt : k < L.length - (m - 1)
    · have hlt' : (k : Int) < (L.length : Int) - ((m : Int) - 1) := by omega
      have hk16 : (k : Int) < 16 := by omega
      have hj16 : (k : Int) + (m : Int) - 1 < 16 := by omega
      have hj0 : 0 ≤ (k : Int) + (m : Int) - 1 := by omega
      have hej : ((k : Int) + (m : Int) - 1).toNat = k + (m - 1) := by omega
      have hrw := range_below hR1 (hdr.below _)
      have hkw : wr.cell? ⟨g1, 0, none⟩ = some (.int .i64 (m : Int)) := ((hdr.below w1.heap.size).cell (p := ⟨g1, 0, none⟩) (World.block_lt_of_cell? w1 _ hK1)).trans hK1
      have hx := hrw k (.int .i64 (L.getD k 0)) ((ints_getD (pad L) k (by rw [HPL.out]; omega)).trans (by rw [HPG.out k]))
      have hy := hrw (k + (m - 1)) (.int .i64 (L.getD (k + (m - 1)) 0)) ((ints_getD (pad L) (k + (m - 1)) (by rw [HPL.out]; omega)).trans (by rw [HPG.out (k + (m - 1))]))
      rw [Nat.zero_add] at hx hy
      clear hrw
      obtain ⟨x, hxx⟩ : ∃ x, x = L.getD k 0 := ⟨_, rfl⟩
      obtain ⟨y, hyy⟩ : ∃ y, y = L.getD (k + (m - 1)) 0 := ⟨_, rfl⟩
      rw [← hxx] at hx
      rw [← hyy] at hy
      have HX := Lib.hid hxx
      have HY := Lib.hid hyy
      clear hxx hyy
      obtain ⟨j, hjj⟩ : ∃ j, j = k + (m - 1) := ⟨_, rfl⟩
      have hje : (k : Int) + (m : Int) - 1 = (j : Int) := by omega
      have hjl : j < 16 := by omega
      rw [← hjj] at hy
      have HJ := Lib.hid hjj
      clear hjj hej
      by_cases e1 : x = y
      · have b1 : (x == y) = true := beq_iff_eq.2 e1
        have HF : Hid (kNone m L = false) := Lib.hid (allTo_no hlt (by rw [← HX.out, ← HY.out]; simp [e1]))
        clear e1
        go_wp2_with fail
        go_quiet (fail)
        go_wp2
        go_ret
        exact ⟨ret_bool HF.out.symm, hbel.trans ((hdr.trans (Dr.n _ _)).below _)⟩
      · have b1 : (x == y) = false := beq_eq_false_iff_ne.2 e1
        have HN : Hid (decide (x ≠ y) = true) := Lib.hid (decide_eq_true e1)
        clear e1
        go_wp2_with fail
        go_quiet (fail)
        go_wp2
        go_roundw
        case rel => exact ⟨k + 1, by omega, by go_num, hdr.drewN _, Lib.hid (upto HP.out (by show decide (_ ≠ _) = true; rw [← HX.out, ← HY.out]; exact HN.out))⟩
        case measure => simp [intOf]; omega
    · have hge : ¬ (k : Int) < (L.length : Int) - ((m : Int) - 1) := by omega
      obtain rfl : k = L.length - (m - 1) := by omega
      have HF : Hid (kNone m L = true) := Lib.hid (allTo_yes HP.out)
      clear hlt
      go_wp2
      go_ret
      exact ⟨ret_bool HF.out.symm, hbel.trans (hdr.below _)⟩

set_option maxHeartbeats 2000000 in
theorem bothK_any (g1 g2 : Nat) (v1 v2 : Value) (K1 K2 : List Int → Bool) (L : List Int) (hv : valid L = true) (w : World) (h1 : Blk w g1 47 #[v1]) (h2 : Blk w g2 47 #[v2]) (hK1 : IsK w v1 K1) (hK2 : IsK w v2 K2) :
    Calls Try.prog 78 #[.agg (arr (pad L)), .pointer (some ⟨g1, 0, none⟩), .pointer (some ⟨g2, 0, none⟩)] w fun e w' => e = .returned (.bool (K1 L && K2 L)) ∧ Below w.heap.size w w' := by
  obtain ⟨f1, p1, c1, rfl, he1, hc1⟩ := hK1
  obtain ⟨f2, p2, c2, rfl, he2, hc2⟩ := hK2
  have hiL := hiL_of (valid_bd hv).2.2.2
  have HV := Lib.hid hv
  have hB0 := Blk.new w 58 (arr (pad L))
  have hbel0 : Below w.heap.size w (w.alloc (.cells (arr (pad L)) 58)) := (Below.refl _ _).alloc (Nat.le_refl _) _
  have k1 := (h1.alloc (.cells (arr (pad L)) 58)).one
  have h2' := h2.alloc (.cells (arr (pad L)) 58)
  clear hv
  cases ha : K1 L with
  | false =>
    have HA := Lib.hid ha
    clear ha
    go_enter Try.func78, Try.ntmps78
    go_wp2_with (first
      | (refine wpList_load_row rfl 58 (.tmp 3) rfl w.heap.size rfl 58 (arr (pad L)) (0, 0) _ hB0 Try.underlying58 rfl hiL ?_)
      | (refine (hc1 _ hbel0 L HV.out).mono ?_; rintro e w3 ⟨rfl, hb3⟩; rw [HA.out]))
    go_ret
    exact ⟨rfl, hbel0.trans (hb3.mono (by simp))⟩
  | true =>
    have HA := Lib.hid ha
    clear ha
    go_enter Try.func78, Try.ntmps78
    go_wp2_with (first
      | (refine wpList_load_row rfl 58 (.tmp 3) rfl w.heap.size rfl 58 (arr (pad L)) (0, 0) _ hB0 Try.underlying58 rfl hiL ?_)
      | (refine wpList_load_row_g rfl 58 (.tmp 3) rfl w.heap.size rfl 58 (arr (pad L)) (0, 0) _ hB3 Try.underlying58 rfl hiL ?_)
      | (refine (hc1 _ hbel0 L HV.out).mono ?_; rintro e w3 ⟨rfl, hb3⟩; rw [HA.out]; have hbel3 := hbel0.trans (hb3.mono hbel0.size); have hB3 := hB0.below hb3 hB0.lt; have k2 := (h2'.below hb3 h2'.lt).one)
      | (refine (hc2 _ hbel3 L HV.out).mono ?_; rintro e w4 ⟨rfl, hb4⟩))
    go_ret
    exact ⟨by simp, hbel3.trans (hb4.mono hbel3.size)⟩
end Go.Proofs.Ytfcmfjhlmjnjiaa
