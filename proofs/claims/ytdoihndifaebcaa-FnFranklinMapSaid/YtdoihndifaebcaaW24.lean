/-
  Walks of the program: diagrams added to and taken from each other; a square's diagram.
-/
import Derived.Test.YtdoihndifaebcaaW12
import Derived.Test.YtdoihndifaebcaaM25
namespace Go.Proofs.Ytdoihndifaebcaa
open Go.RowKit NP
set_option linter.unusedVariables false
theorem pad_full {D : List Int} (h : D.length = 16) : pad D = D := by simp [pad, h]
def neg (E : List Int) : List Int := E.map fun x => -x
theorem neg_getD (E : List Int) (i : Nat) : (neg E).getD i 0 = -E.getD i 0 := by
  unfold neg
  rw [List.getD_eq_getElem?_getD, List.getD_eq_getElem?_getD, List.getElem?_map]
  cases E[i]? <;> simp

theorem plus_any (D E : List Int) (hD : D.length = 16) (hE : E.length = 16) (hb : ∀ i, (0 ≤ D.getD i 0 ∧ D.getD i 0 ≤ 1000) ∧ (0 ≤ E.getD i 0 ∧ E.getD i 0 ≤ 1000)) (w : World) :
    Calls Try.prog 96 #[.agg (arr D), .agg (arr E)] w fun e w' => e = .returned (.agg (arr (amid D E 16))) ∧ Below w.heap.size w w' := by
  have hiE : (Try.prog.info? 55).map (·.size) = some (arr E).size := by rw [arr_size, hE]; exact T_info35
  have hiA : (Try.prog.info? 55).map (·.size) = some (arr (amid D E 16)).size := by rw [arr_size, amid_len]; exact T_info35
  have hsA : (arr (amid D E 16)).size = (arr (List.replicate 16 0)).size := by rw [arr_size, arr_size, amid_len]; rfl
  have hz : amid D E 0 = D := by rw [amid_zero (by omega), pad_full hD]
  have hb0 := ((Blk.new w 55 (arr D)).alloc (.cells (arr E) 55)).alloc (.cells (arr (List.replicate 16 0)) 55)
  have hb1 := (Blk.new (w.alloc (.cells (arr D) 55)) 55 (arr E)).alloc (.cells (arr (List.replicate 16 0)) 55)
  have hb2 := Blk.new ((w.alloc (.cells (arr D) 55)).alloc (.cells (arr E) 55)) 55 (arr (List.replicate 16 0))
  rw [World.size_alloc] at hb1
  rw [World.size_alloc, World.size_alloc] at hb2
  have hbel0 : Below w.heap.size w (((w.alloc (.cells (arr D) 55)).alloc (.cells (arr E) 55)).alloc (.cells (arr (List.replicate 16 0)) 55)) :=
    (((Below.refl _ _).alloc (Nat.le_refl _) _).alloc (by simp) _).alloc (by simp; omega) _
  have HB := Lib.hid hb
  have HZ := Lib.hid hz
  have he16 : 16 ≤ E.length := by omega
  clear hD hE hb hz
  go_enter Try.func96, Try.ntmps96
  go_wp2_with (refine wpList_load_row rfl 55 (.tmp 3) rfl (w.heap.size + 1) rfl 55 (arr E) (0, 0) _ hb1 Try.underlying55 rfl hiE ?_)
  rw [← HZ.out] at hb0
  go_loopw [5, 6, 8] (fun _ _ vi wr => ∃ i : Nat, i ≤ 16 ∧ vi = .int .i64 i ∧ Below w.heap.size w wr ∧ Blk wr w.heap.size 55 (arr (amid D E i)) ∧ Blk wr (w.heap.size + 2) 55 (arr (List.replicate 16 0))) (fun _ _ vi _ => 16 - (intOf vi).toNat)
  case atStart => exact ⟨0, Nat.zero_le _, rfl, hbel0, by rw [HZ.out] at hb0 ⊢; exact hb0, hb2⟩
  case round =>
    obtain ⟨i, hi, rfl, hbel, hbD, hbR⟩ := hrel
    clear hb0 hb1 hb2 hbel0
    by_cases hlt : i < 16
    · have hlt' : (i : Int) < 16 := by omega
      have hT := T_index E i (by omega) hlt
      have hc1 : wr.cell? ⟨w.heap.size, i, none⟩ = some (.int .i64 (D.getD i 0)) := by rw [hbD.cell i, arr_get _ i (by rw [amid_len]; exact hlt), amid_get, if_neg (by omega)]
      have hf1 : wr.frozen? ⟨w.heap.size, i, none⟩ = false := hbD.free i
      rw [← getD_lt (by omega)] at hT
      have hx := HB.out i
      have HS := Lib.hid (amid_set D E i)
      generalize D.getD i 0 = x at *
      generalize E.getD i 0 = y at *
      obtain ⟨⟨hx1, hx2⟩, hy1, hy2⟩ := hx
      go_wp2
      go_roundw
      case rel =>
        refine ⟨i + 1, by omega, by go_num, hbel.setCell (Nat.le_refl _) _, ?_, hbR.off (by show w.heap.size + 2 ≠ w.heap.size; omega) _⟩
        have e := hbD.set i (.int .i64 (x + y))
        rw [arr_set, HS.out] at e
        exact e
      case measure => simp [intOf]; omega
    · obtain rfl : i = 16 := by omega
      go_wp2_with (first
        | (refine wpList_load_row rfl 55 (.tmp 2) rfl w.heap.size rfl 55 (arr (amid D E 16)) (0, 0) _ hbD Try.underlying55 rfl hiA ?_)
        | (refine wpList_store_row rfl 55 (.tmp 4) (.tmp 19) rfl (w.heap.size + 2) rfl (arr (amid D E 16)) rfl 55 _ hbR hiA hsA (arr_one _) ?_))
      refine bodyPost_ret (results_cell_row rfl _ _ (w.heap.size + 2) 55 (arr (amid D E 16)) (0, 0) _ rfl hbR.row Try.underlying55 rfl hiA) rfl ?_
      exact ⟨rfl, below_setRow' hbel (by omega) _⟩

theorem minus_any (D E : List Int) (hD : D.length = 16) (hE : E.length = 16) (hb : ∀ i, (0 ≤ D.getD i 0 ∧ D.getD i 0 ≤ 1000) ∧ (0 ≤ E.getD i 0 ∧ E.getD i 0 ≤ 1000)) (w : World) :
    Calls Try.prog 92 #[.agg (arr D), .agg (arr E)] w fun e w' => e = .returned (.agg (arr (amid D (neg E) 16))) ∧ Below w.heap.size w w' := by
  have hiE : (Try.prog.info? 55).map (·.size) = some (arr E).size := by rw [arr_size, hE]; exact T_info35
  have hiA : (Try.prog.info? 55).map (·.size) = some (arr (amid D (neg E) 16)).size := by rw [arr_size, amid_len]; exact T_info35
  have hsA : (arr (amid D (neg E) 16)).size = (arr (List.replicate 16 0)).size := by rw [arr_size, arr_size, amid_len]; rfl
  have hz : amid D (neg E) 0 = D := by rw [amid_zero (by omega), pad_full hD]
  have hb0 := ((Blk.new w 55 (arr D)).alloc (.cells (arr E) 55)).alloc (.cells (arr (List.replicate 16 0)) 55)
  have hb1 := (Blk.new (w.alloc (.cells (arr D) 55)) 55 (arr E)).alloc (.cells (arr (List.replicate 16 0)) 55)
  have hb2 := Blk.new ((w.alloc (.cells (arr D) 55)).alloc (.cells (arr E) 55)) 55 (arr (List.replicate 16 0))
  rw [World.size_alloc] at hb1
  rw [World.size_alloc, World.size_alloc] at hb2
  have hbel0 : Below w.heap.size w (((w.alloc (.cells (arr D) 55)).alloc (.cells (arr E) 55)).alloc (.cells (arr (List.replicate 16 0)) 55)) :=
    (((Below.refl _ _).alloc (Nat.le_refl _) _).alloc (by simp) _).alloc (by simp; omega) _
  have HB := Lib.hid hb
  have HZ := Lib.hid hz
  have he16 : 16 ≤ E.length := by omega
  clear hD hE hb hz
  go_enter Try.func92, Try.ntmps92
  go_wp2_with (refine wpList_load_row rfl 55 (.tmp 3) rfl (w.heap.size + 1) rfl 55 (arr E) (0, 0) _ hb1 Try.underlying55 rfl hiE ?_)
  rw [← HZ.out] at hb0
  go_loopw [5, 6, 8] (fun _ _ vi wr => ∃ i : Nat, i ≤ 16 ∧ vi = .int .i64 i ∧ Below w.heap.size w wr ∧ Blk wr w.heap.size 55 (arr (amid D (neg E) i)) ∧ Blk wr (w.heap.size + 2) 55 (arr (List.replicate 16 0))) (fun _ _ vi _ => 16 - (intOf vi).toNat)
  case atStart => exact ⟨0, Nat.zero_le _, rfl, hbel0, by rw [HZ.out] at hb0 ⊢; exact hb0, hb2⟩
  case round =>
    obtain ⟨i, hi, rfl, hbel, hbD, hbR⟩ := hrel
    clear hb0 hb1 hb2 hbel0
    by_cases hlt : i < 16
    · have hlt' : (i : Int) < 16 := by omega
      have hT := T_index E i (by omega) hlt
      have hc1 : wr.cell? ⟨w.heap.size, i, none⟩ = some (.int .i64 (D.getD i 0)) := by rw [hbD.cell i, arr_get _ i (by rw [amid_len]; exact hlt), amid_get, if_neg (by omega)]
      have hf1 : wr.frozen? ⟨w.heap.size, i, none⟩ = false := hbD.free i
      rw [← getD_lt (by omega)] at hT
      have hx := HB.out i
      have HS := Lib.hid (amid_set D (neg E) i)
      rw [neg_getD, ← Int.sub_eq_add_neg] at HS
      generalize D.getD i 0 = x at *
      generalize E.getD i 0 = y at *
      obtain ⟨⟨hx1, hx2⟩, hy1, hy2⟩ := hx
      go_wp2
      go_roundw
      case rel =>
        refine ⟨i + 1, by omega, by go_num, hbel.setCell (Nat.le_refl _) _, ?_, hbR.off (by show w.heap.size + 2 ≠ w.heap.size; omega) _⟩
        have e := hbD.set i (.int .i64 (x - y))
        rw [arr_set, HS.out] at e
        exact e
      case measure => simp [intOf]; omega
    · obtain rfl : i = 16 := by omega
      go_wp2_with (first
        | (refine wpList_load_row rfl 55 (.tmp 2) rfl w.heap.size rfl 55 (arr (amid D (neg E) 16)) (0, 0) _ hbD Try.underlying55 rfl hiA ?_)
        | (refine wpList_store_row rfl 55 (.tmp 4) (.tmp 19) rfl (w.heap.size + 2) rfl (arr (amid D (neg E) 16)) rfl 55 _ hbR hiA hsA (arr_one _) ?_))
      refine bodyPost_ret (results_cell_row rfl _ _ (w.heap.size + 2) 55 (arr (amid D (neg E) 16)) (0, 0) _ rfl hbR.row Try.underlying55 rfl hiA) rfl ?_
      exact ⟨rfl, below_setRow' hbel (by omega) _⟩

theorem fillN_set {i : Nat} (n : Int) (h : i < 16) : (List.replicate i n ++ List.replicate (16 - i) 0).set i n = List.replicate (i + 1) n ++ List.replicate (16 - (i + 1)) 0 := by
  rw [show 16 - i = (16 - (i + 1)) + 1 by omega, List.replicate_succ, List.set_append_right _ _ (by simp), List.length_replicate, Nat.sub_self, List.set_cons_zero, List.replicate_succ']
  simp
theorem fillN_len (i : Nat) (n : Int) (h : i ≤ 16) : (List.replicate i n ++ List.replicate (16 - i) 0).length = 16 := by simp; omega
theorem fillN_end (n : Nat) : List.replicate n (n : Int) ++ List.replicate (16 - n) 0 = pad (sqs n) := by simp [pad, sqs]

end Go.Proofs.Ytdoihndifaebcaa
