/-
  Walks of the program: diagrams added to and taken from each other; a square's diagram.
-/
import Derived.Test.YtldbjnnolebfbaaW12
import Derived.Test.YtldbjnnolebfbaaM25
namespace Go.Proofs.Ytldbjnnolebfbaa
open Go.RowKit NP
set_option linter.unusedVariables false
theorem pad_full {D : List Int} (h : D.length = 16) : pad D = D := by simp [pad, h]
def neg (E : List Int) : List Int := E.map fun x => -x
theorem neg_getD (E : List Int) (i : Nat) : (neg E).getD i 0 = -E.getD i 0 := by
  unfold neg
  rw [List.getD_eq_getElem?_getD, List.getD_eq_getElem?_getD, List.getElem?_map]
  cases E[i]? <;> simp

theorem plus_any (D E : List Int) (hD : D.length = 16) (hE : E.length = 16) (hb : ∀ i, (0 ≤ D.getD i 0 ∧ D.getD i 0 ≤ 1000) ∧ (0 ≤ E.getD i 0 ∧ E.getD i 0 ≤ 1000)) (w : World) :
    Calls Try.prog 33 #[.agg (arr D), .agg (arr E)] w fun e w' => e = .returned (.agg (arr (amid D E 16))) ∧ Below w.heap.size w w' := by
  have hiE : (Try.prog.info? 40).map (·.size) = some (arr E).size := by rw [arr_size, hE]; exact T_info35
  have hiA : (Try.prog.info? 40).map (·.size) = some (arr (amid D E 16)).size := by rw [arr_size, amid_len]; exact T_info35
  have hsA : (arr (amid D E 16)).size = (arr (List.replicate 16 0)).size := by rw [arr_size, arr_size, amid_len]; rfl
  have hz : amid D E 0 = D := by rw [amid_zero (by omega), pad_full hD]
  have hb0 := ((Blk.new w 40 (arr D)).alloc (.cells (arr E) 40)).alloc (.cells (arr (List.replicate 16 0)) 40)
  have hb1 := (Blk.new (w.alloc (.cells (arr D) 40)) 40 (arr E)).alloc (.cells (arr (List.replicate 16 0)) 40)
  have hb2 := Blk.new ((w.alloc (.cells (arr D) 40)).alloc (.cells (arr E) 40)) 40 (arr (List.replicate 16 0))
  rw [World.size_alloc] at hb1
  rw [World.size_alloc, World.size_alloc] at hb2
  have hbel0 : Below w.heap.size w (((w.alloc (.cells (arr D) 40)).alloc (.cells (arr E) 40)).alloc (.cells (arr (List.replicate 16 0)) 40)) :=
    (((Below.refl _ _).alloc (Nat.le_refl _) _).alloc (by simp) _).alloc (by simp; omega) _
  have HB := Lib.hid hb
  have HZ := Lib.hid hz
  have he16 : 16 ≤ E.length := by omega
  clear hD hE hb hz
  go_enter Try.func33, Try.ntmps33
  go_wp2_with (refine wpList_load_row rfl 40 (.tmp 3) rfl (w.heap.size + 1) rfl 40 (arr E) (0, 0) _ hb1 Try.underlying40 rfl hiE ?_)
  rw [← HZ.out] at hb0
  go_loopw [5, 6, 8] (fun _ _ vi wr => ∃ i : Nat, i ≤ 16 ∧ vi = .int .i64 i ∧ Below w.heap.size w wr ∧ Blk wr w.heap.size 40 (arr (amid D E i)) ∧ Blk wr (w.heap.size + 2) 40 (arr (List.replicate 16 0))) (fun _ _ vi _ => 16 - (intOf vi).toNat)
  case atStart => exact ⟨0, Nat.zero_le _, rfl, hbel0, by rw [HZ.out] at hb0 ⊢; exact hb0, hb2⟩
  case round =>
    obtain ⟨i, hi, rfl, hbel, hbD, hbR⟩ := hrel
    clear hb0 hb1 hb2 hbel0
    by_cases hlt : i < 16
    · have hlt' : (i : Int) < 16 := by omega
      have hT := T_index E i (by omega) hlt
      have hc1 : wr.cell? ⟨w.heap.size, i, none⟩ = some (.int .i64 (D.getD i 0)) := by rw [hbD.cell i, arr_get _ i (by rw [amid_len]; exact hlt), amid_get, if_neg (by omega)]
      have hf1 : wr.frozen? ⟨w.heap.size, i, none⟩ = false := hbD.free i
      rw [← getD_lt (by omega)] at hT
      have hx := HB.out i
      have HS := Lib.hid (amid_set D E i)
      generalize D.getD i 0 = x at *
      generalize E.getD i 0 = y at *
      obtain ⟨⟨hx1, hx2⟩, hy1, hy2⟩ := hx
      go_wp2
      go_roundw
      case rel =>
        refine ⟨i + 1, by omega, by go_num, hbel.setCell (Nat.le_refl _) _, ?_, hbR.off (by show w.heap.size + 2 ≠ w.heap.size; omega) _⟩
        have e := hbD.set i (.int .i64 (x + y))
        rw [arr_set, HS.out] at e
        exact e
      case measure => simp [intOf]; omega
    · obtain rfl : i = 16 := by omega
      go_wp2_with (first
        | (refine wpList_load_row rfl 40 (.tmp 2) rfl w.heap.size rfl 40 (arr (amid D E 16)) (0, 0) _ hbD Try.underlying40 rfl hiA ?_)
        | (refine wpList_store_row rfl 40 (.tmp 4) (.tmp 19) rfl (w.heap.size + 2) rfl (arr (amid D E 16)) rfl 40 _ hbR hiA hsA (arr_one _) ?_))
      refine bodyPost_ret (results_cell_row rfl _ _ (w.heap.size + 2) 40 (arr (amid D E 16)) (0, 0) _ rfl hbR.row Try.underlying40 rfl hiA) rfl ?_
      exact ⟨rfl, below_setRow' hbel (by omega) _⟩

theorem minus_any (D E : List Int) (hD : D.length = 16) (hE : E.length = 16) (hb : ∀ i, (0 ≤ D.getD i 0 ∧ D.getD i 0 ≤ 1000) ∧ (0 ≤ E.getD i 0 ∧ E.getD i 0 ≤ 1000)) (w : World) :
    Calls Try.prog 53 #[.agg (arr D), .agg (arr E)] w fun e w' => e = .returned (.agg (arr (amid D (neg E) 16))) ∧ Below w.heap.size w w' := by
  have hiE : (Try.prog.info? 40).map (·.size) = some (arr E).size := by rw [arr_size, hE]; exact T_info35
  have hiA : (Try.prog.info? 40).map (·.size) = some (arr (amid D (neg E) 16)).size := by rw [arr_size, amid_len]; exact T_info35
  have hsA : (arr (amid D (neg E) 16)).size = (arr (List.replicate 16 0)).size := by rw [arr_size, arr_size, amid_len]; rfl
  have hz : amid D (neg E) 0 = D := by rw [amid_zero (by omega), pad_full hD]
  have hb0 := ((Blk.new w 40 (arr D)).alloc (.cells (arr E) 40)).alloc (.cells (arr (List.replicate 16 0)) 40)
  have hb1 := (Blk.new (w.alloc (.cells (arr D) 40)) 40 (arr E)).alloc (.cells (arr (List.replicate 16 0)) 40)
  have hb2 := Blk.new ((w.alloc (.cells (arr D) 40)).alloc (.cells (arr E) 40)) 40 (arr (List.replicate 16 0))
  rw [World.size_alloc] at hb1
  rw [World.size_alloc, World.size_alloc] at hb2
  have hbel0 : Below w.heap.size w (((w.alloc (.cells (arr D) 40)).alloc (.cells (arr E) 40)).alloc (.cells (arr (List.replicate 16 0)) 40)) :=
    (((Below.refl _ _).alloc (Nat.le_refl _) _).alloc (by simp) _).alloc (by simp; omega) _
  have HB := Lib.hid hb
  have HZ := Lib.hid hz
  have he16 : 16 ≤ E.length := by omega
  clear hD hE hb hz
  go_enter Try.func53, Try.ntmps53
  go_wp2_with (refine wpList_load_row rfl 40 (.tmp 3) rfl (w.heap.size + 1) rfl 40 (arr E) (0, 0) _ hb1 Try.underlying40 rfl hiE ?_)
  rw [← HZ.out] at hb0
  go_loopw [5, 6, 8] (fun _ _ vi wr => ∃ i : Nat, i ≤ 16 ∧ vi = .int .i64 i ∧ Below w.heap.size w wr ∧ Blk wr w.heap.size 40 (arr (amid D (neg E) i)) ∧ Blk wr (w.heap.size + 2) 40 (arr (List.replicate 16 0))) (fun _ _ vi _ => 16 - (intOf vi).toNat)
  case atStart => exact ⟨0, Nat.zero_le _, rfl, hbel0, by rw [HZ.out] at hb0 ⊢; exact hb0, hb2⟩
  case round =>
    obtain ⟨i, hi, rfl, hbel, hbD, hbR⟩ := hrel
    clear hb0 hb1 hb2 hbel0
    by_cases hlt : i < 16
    · have hlt' : (i : Int) < 16 := by omega
      have hT := T_index E i (by omega) hlt
      have hc1 : wr.cell? ⟨w.heap.size, i, none⟩ = some (.int .i64 (D.getD i 0)) := by rw [hbD.cell i, arr_get _ i (by rw [amid_len]; exact hlt), amid_get, if_neg (by omega)]
      have hf1 : wr.frozen? ⟨w.heap.size, i, none⟩ = false := hbD.free i
      rw [← getD_lt (by omega)] at hT
      have hx := HB.out i
      have HS := Lib.hid (amid_set D (neg E) i)
      rw [neg_getD, ← Int.sub_eq_add_neg] at HS
      generalize D.getD i 0 = x at *
      generalize E.getD i 0 = y at *
      obtain ⟨⟨hx1, hx2⟩, hy1, hy2⟩ := hx
      go_wp2
      go_roundw
      case rel =>
        refine ⟨i + 1, by omega, by go_num, hbel.setCell (Nat.le_refl _) _, ?_, hbR.off (by show w.heap.size + 2 ≠ w.heap.size; omega) _⟩
        have e := hbD.set i (.int .i64 (x - y))
        rw [arr_set, HS.out] at e
        exact e
      case measure => simp [intOf]; omega
    · obtain rfl : i = 16 := by omega
      go_wp2_with (first
        | (refine wpList_load_row rfl 40 (.tmp 2) rfl w.heap.size rfl 40 (arr (amid D (neg E) 16)) (0, 0) _ hbD Try.underlying40 rfl hiA ?_)
        | (refine wpList_store_row rfl 40 (.tmp 4) (.tmp 19) rfl (w.heap.size + 2) rfl (arr (amid D (neg E) 16)) rfl 40 _ hbR hiA hsA (arr_one _) ?_))
      refine bodyPost_ret (results_cell_row rfl _ _ (w.heap.size + 2) 40 (arr (amid D (neg E) 16)) (0, 0) _ rfl hbR.row Try.underlying40 rfl hiA) rfl ?_
      exact ⟨rfl, below_setRow' hbel (by omega) _⟩

theorem fillN_set {i : Nat} (n : Int) (h : i < 16) : (List.replicate i n ++ List.replicate (16 - i) 0).set i n = List.replicate (i + 1) n ++ List.replicate (16 - (i + 1)) 0 := by
  rw [show 16 - i = (16 - (i + 1)) + 1 by omega, List.replicate_succ, List.set_append_right _ _ (by simp), List.length_replicate, Nat.sub_self, List.set_cons_zero, List.replicate_succ']
  simp
theorem fillN_len (i : Nat) (n : Int) (h : i ≤ 16) : (List.replicate i n ++ List.replicate (16 - i) 0).length = 16 := by simp; omega
theorem fillN_end (n : Nat) : List.replicate n (n : Int) ++ List.replicate (16 - n) 0 = pad (sqs n) := by simp [pad, sqs]

theorem sqdiag_any (n : Nat) (hn : n ≤ 16) (w : World) :
    Calls Try.prog 50 #[.int .i64 n] w fun e w' => e = .returned (.agg (arr (pad (sqs n)))) ∧ Below w.heap.size w w' := by
  have hiA : (Try.prog.info? 40).map (·.size) = some (arr (pad (sqs n))).size := by rw [arr_size, ← fillN_end, fillN_len n _ hn]; exact T_info35
  have hsA : (arr (pad (sqs n))).size = (arr (List.replicate 16 0)).size := by rw [arr_size, arr_size, ← fillN_end, fillN_len n _ hn]; rfl
  have hb0 := (Blk.new w 40 (arr (List.replicate 16 0))).alloc (.cells (arr (List.replicate 16 0)) 40)
  have hb1 := Blk.new (w.alloc (.cells (arr (List.replicate 16 0)) 40)) 40 (arr (List.replicate 16 0))
  rw [World.size_alloc] at hb1
  have hbel0 : Below w.heap.size w ((w.alloc (.cells (arr (List.replicate 16 0)) 40)).alloc (.cells (arr (List.replicate 16 0)) 40)) := ((Below.refl _ _).alloc (Nat.le_refl _) _).alloc (by simp) _
  go_enter Try.func50, Try.ntmps50
  go_wp2
  go_loopw [4, 6] (fun _ vi wr => ∃ i : Nat, i ≤ n ∧ vi = .int .i64 i ∧ Below w.heap.size w wr ∧ Blk wr w.heap.size 40 (arr (List.replicate 16 0)) ∧ Blk wr (w.heap.size + 1) 40 (arr (List.replicate i (n : Int) ++ List.replicate (16 - i) 0))) (fun _ vi _ => n - (intOf vi).toNat)
  case atStart => exact ⟨0, Nat.zero_le _, rfl, hbel0, hb0, hb1⟩
  case round =>
    obtain ⟨i, hi, rfl, hbel, hbZ, hbD⟩ := hrel
    clear hb0 hb1 hbel0
    by_cases hlt : i < n
    · have hlt' : (i : Int) < (n : Int) := by omega
      have hi16 : (i : Int) < 16 := by omega
      have hfl := fillN_len i (n : Int) (by omega)
      have hc1 : wr.cell? ⟨w.heap.size + 1, i, none⟩ = some (.int .i64 ((List.replicate i (n : Int) ++ List.replicate (16 - i) 0)[i]'(by rw [hfl]; omega))) := by rw [hbD.cell i, arr_get _ i (by rw [hfl]; omega)]
      have hf1 : wr.frozen? ⟨w.heap.size + 1, i, none⟩ = false := hbD.free i
      have HS := Lib.hid (fillN_set (i := i) (n : Int) (by omega))
      generalize (List.replicate i (n : Int) ++ List.replicate (16 - i) 0)[i]'_ = z at hc1
      clear hfl
      go_wp2
      go_roundw
      case rel =>
        refine ⟨i + 1, by omega, by go_num, hbel.setCell (by show w.heap.size ≤ w.heap.size + 1; omega) _, hbZ.off (by show w.heap.size ≠ w.heap.size + 1; omega) _, ?_⟩
        have e := hbD.set i (.int .i64 (n : Int))
        rw [arr_set, HS.out] at e
        exact e
      case measure => simp [intOf]; omega
    · obtain rfl : i = n := by omega
      rw [fillN_end] at hbD
      go_wp2_with (first
        | (refine wpList_load_row rfl 40 (.tmp 3) rfl (w.heap.size + 1) rfl 40 (arr (pad (sqs i))) (0, 0) _ hbD Try.underlying40 rfl hiA ?_)
        | (refine wpList_store_row rfl 40 (.tmp 2) (.tmp 13) rfl w.heap.size rfl (arr (pad (sqs i))) rfl 40 _ hbZ hiA hsA (arr_one _) ?_))
      refine bodyPost_ret (results_cell_row rfl _ _ w.heap.size 40 (arr (pad (sqs i))) (0, 0) _ rfl hbZ.row Try.underlying40 rfl hiA) rfl ?_
      exact ⟨rfl, below_setRow' hbel (Nat.le_refl _) _⟩
end Go.Proofs.Ytldbjnnolebfbaa
