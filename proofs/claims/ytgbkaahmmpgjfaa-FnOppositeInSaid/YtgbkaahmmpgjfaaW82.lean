/-
  Walks: opposites in a box, by the program.
-/
import Derived.Test.YtgbkaahmmpgjfaaM39
import Derived.Test.YtgbkaahmmpgjfaaM3
import Derived.Test.YtgbkaahmmpgjfaaM6
namespace Go.Proofs.Ytgbkaahmmpgjfaa
open Go.RowKit NP
set_option linter.unusedVariables false
set_option linter.unusedSimpArgs false
theorem getD_bdB {L : List Int} (h : valid L = true) (m : Nat) : 0 ≤ L.getD m 0 ∧ L.getD m 0 ≤ 16 := by
  rw [List.getD_eq_getElem?_getD]
  rcases Nat.lt_or_ge m L.length with hm | hm
  · rw [List.getElem?_eq_getElem hm, Option.getD_some]
    have h1 := valid_mem h _ (List.getElem_mem hm)
    have h2 := headD_bd h
    omega
  · rw [List.getElem?_eq_none hm, Option.getD_none]; omega
set_option maxHeartbeats 1000000 in
theorem bopposite_any (L : List Int) (a b : Nat) (hI : inbF L a b = true) (w : World) :
    Calls Try.prog 53 #[.agg #[.int .i64 a, .int .i64 b], .agg (arr (pad L))] w fun e w' => e = .returned (.agg (arr (pad (oppL L a b)))) ∧ Below w.heap.size w w' := by
  obtain ⟨hv, -, ha4, -, hb4⟩ := inb_lim hI
  have hl16 := (valid_bd hv).2.2.2
  obtain ⟨hpad, hIo, -, -⟩ := opp_facts hI
  have hlo : (oppL L a b).length ≤ 16 := Nat.le_trans (opk_len _ _ _ _) (by omega)
  have hpl := pad_len hl16
  have hplo := pad_len hlo
  have hiA : (Try.prog.info? 41).map (·.size) = some (arr (pad (oppL L a b))).size := by rw [arr_size, hplo]; exact T_info35
  have hsA : (arr (pad (oppL L a b))).size = (arr (List.replicate 16 0)).size := by rw [arr_size, arr_size, hplo]; rfl
  have hx0 := (((Blk.new w 43 #[.int .i64 a, .int .i64 b]).alloc (.cells (arr (pad L)) 41)).alloc (.cells (arr (List.replicate 16 0)) 41)).alloc (.cells (arr (List.replicate 16 0)) 41)
  have hd0 := ((Blk.new (w.alloc (.cells #[.int .i64 a, .int .i64 b] 43)) 41 (arr (pad L))).alloc (.cells (arr (List.replicate 16 0)) 41)).alloc (.cells (arr (List.replicate 16 0)) 41)
  have hr0 := (Blk.new ((w.alloc (.cells #[.int .i64 a, .int .i64 b] 43)).alloc (.cells (arr (pad L)) 41)) 41 (arr (List.replicate 16 0))).alloc (.cells (arr (List.replicate 16 0)) 41)
  have hl0 := Blk.new (((w.alloc (.cells #[.int .i64 a, .int .i64 b] 43)).alloc (.cells (arr (pad L)) 41)).alloc (.cells (arr (List.replicate 16 0)) 41)) 41 (arr (List.replicate 16 0))
  rw [World.size_alloc] at hd0
  rw [World.size_alloc, World.size_alloc] at hr0
  rw [World.size_alloc, World.size_alloc, World.size_alloc] at hl0
  have hbel0 := ((((Below.refl w.heap.size w).alloc (Nat.le_refl _) (.cells #[.int .i64 a, .int .i64 b] 43)).alloc (by simp) (.cells (arr (pad L)) 41)).alloc (by simp; omega) (.cells (arr (List.replicate 16 0)) 41)).alloc (by simp; omega) (.cells (arr (List.replicate 16 0)) 41)
  have HYB := Lib.hid (fun (m : Nat) (y : Int) (h : y = L.getD m 0) => show 0 ≤ y ∧ y ≤ 16 by rw [h]; exact getD_bdB hv m)
  have HY := Lib.hid (fun (m : Nat) => pad_getD (M := L) hl16 m)
  have HAS := Lib.hid (fun (i : Nat) (h : i < 16) => opa_set L a b (i := i) h)
  clear hI hIo hv
  go_enter Try.func53, Try.ntmps53
  go_wp2
  go_loopw [6, 9] (fun _ vi wr => ∃ i : Nat, i ≤ a ∧ vi = .int .i64 i ∧ Below w.heap.size w wr ∧ Blk wr w.heap.size 43 #[.int .i64 a, .int .i64 b] ∧ Blk wr (w.heap.size + 1) 41 (arr (pad L)) ∧ Blk wr (w.heap.size + 1 + 1) 41 (arr (List.replicate 16 0)) ∧ Blk wr (w.heap.size + 1 + 1 + 1) 41 (arr (opa L a b i))) (fun _ vi _ => a - (intOf vi).toNat)
  case atStart => exact ⟨0, Nat.zero_le _, rfl, hbel0, hx0, hd0, hr0, by rw [opa_zero]; exact hl0⟩
  case round =>
    obtain ⟨i, hi, rfl, hbel, hbX, hbD, hbR, hbL⟩ := hrel
    clear hx0 hd0 hr0 hl0 hbel0
    by_cases hlt : i < a
    · have hlt' : (i : Int) < (a : Int) := by omega
      have hi16 : (i : Int) < 16 := by omega
      obtain ⟨a1, ha1, e1⟩ : ∃ a1 : Nat, a1 = a - 1 ∧ IntKind.i64.wrap ((a : Int) - 1) = (a1 : Int) := ⟨_, rfl, by rw [IntWalk.i64_in _ (by omega)]; omega⟩
      obtain ⟨m, hm, e2⟩ : ∃ m : Nat, m = a - 1 - i ∧ IntKind.i64.wrap ((a1 : Int) - (i : Int)) = (m : Int) := ⟨_, rfl, by rw [IntWalk.i64_in _ (by omega)]; omega⟩
      have hm16 : (m : Int) < 16 := by omega
      have hm16' : m < 16 := by omega
      obtain ⟨y, hy⟩ : ∃ y, y = L.getD m 0 := ⟨_, rfl⟩
      have hyb : 0 ≤ y ∧ y ≤ 16 := HYB.out m y hy
      have hcd : wr.cell? ⟨w.heap.size + 1, m, none⟩ = some (.int .i64 y) := by rw [hbD.cell m, arr_get _ m (by omega), ← getD_lt (by omega), HY.out, hy]
      have hc0 := hbX.cell 0
      have hc1 := hbX.cell 1
      simp only [List.getElem?_toArray, List.getElem?_cons_zero, List.getElem?_cons_succ] at hc0 hc1
      have e3 : IntKind.i64.wrap ((b : Int) - y) = (b : Int) - y := IntWalk.i64_in _ (by omega)
      have hop : opx L a b i = (b : Int) - y := by unfold opx; rw [hy, hm]
      have hfl := opa_len L a b i
      have hc3 : wr.cell? ⟨w.heap.size + 1 + 1 + 1, i, none⟩ = some (.int .i64 ((opa L a b i)[i]'(by rw [hfl]; omega))) := by rw [hbL.cell i, arr_get _ i (by rw [hfl]; omega)]
      have hf3 : wr.frozen? ⟨w.heap.size + 1 + 1 + 1, i, none⟩ = false := hbL.free i
      have HS := Lib.hid (HAS.out i (by omega))
      rw [hop] at HS
      generalize (opa L a b i)[i]'_ = z at hc3
      clear hfl hop hm ha1 hyb hy
      go_wp2
      go_region
      all_goals
        go_wp2
        go_roundw
        case rel =>
          have e := hbL.set i (.int .i64 ((b : Int) - y))
          rw [arr_set, HS.out] at e
          have e0 := hbel.setCell (p := ⟨w.heap.size + 1 + 1 + 1, i, none⟩) (by show w.heap.size ≤ w.heap.size + 1 + 1 + 1; omega) (.int .i64 ((b : Int) - y))
          have eX := hbX.off (p := ⟨w.heap.size + 1 + 1 + 1, i, none⟩) (by show w.heap.size ≠ w.heap.size + 1 + 1 + 1; omega) (.int .i64 ((b : Int) - y))
          have eD := hbD.off (p := ⟨w.heap.size + 1 + 1 + 1, i, none⟩) (by show w.heap.size + 1 ≠ w.heap.size + 1 + 1 + 1; omega) (.int .i64 ((b : Int) - y))
          have eR := hbR.off (p := ⟨w.heap.size + 1 + 1 + 1, i, none⟩) (by show w.heap.size + 1 + 1 ≠ w.heap.size + 1 + 1 + 1; omega) (.int .i64 ((b : Int) - y))
          exact ⟨i + 1, by omega, by go_num, e0.trans ((Dr.n _ 1).below _), eX.drew, eD.drew, eR.drew, e.drew⟩
        case measure => simp [intOf]; omega
    · obtain rfl : i = a := by omega
      rw [hpad] at hbL
      go_wp2_with (first
        | (refine wpList_load_row rfl 41 (.tmp 5) rfl (w.heap.size + 1 + 1 + 1) rfl 41 (arr (pad (oppL L i b))) (0, 0) _ hbL Try.underlying41 rfl hiA ?_)
        | (refine wpList_store_row rfl 41 (.tmp 4) (.tmp 25) rfl (w.heap.size + 1 + 1) rfl (arr (pad (oppL L i b))) rfl 41 _ hbR hiA hsA (arr_one _) ?_))
      refine bodyPost_ret (results_cell_row rfl _ _ (w.heap.size + 1 + 1) 41 (arr (pad (oppL L i b))) (0, 0) _ rfl hbR.row Try.underlying41 rfl hiA) rfl ?_
      exact ⟨rfl, below_setRow' hbel (by omega) _⟩
theorem wpList_id {P : Program} {ops : Array Oper} {Q : Exit → Act → World → Prop} {l : List Oper} {a : Act} {w : World} (h : wpList P ops Q l a w) : wpList P ops Q l a w := h
set_option maxHeartbeats 1000000 in
theorem iOppositeIn_any (p : Option Addr) (c B : Nat) (L : List Int) (a b : Int) (w : World) (h : Rd w B p (ints L)) (hB : B ≤ w.heap.size) (hl : L.length ≤ 4611686018427387904) :
    Calls Try.prog 22 #[.slice p L.length c, .int .i64 a, .int .i64 b] w fun e w' => ∃ a' c', e = .returned (.tuple #[.slice a' (opbF L a b).length c', .bool (inbF L a b)]) ∧ Own w' w.heap.size w'.heap.size 3 (.slice a' (opbF L a b).length c') (ints (opbF L a b)) ∧ Below w.heap.size w w' := by
  have hi16 : (Try.prog.info? 41).map (·.size) = some (arr (dg L)).size := by rw [arr_size, dg_len]; exact T_info35
  have hsz : (arr (dg L)).size = (arr (List.replicate 16 0)).size := by rw [arr_size, arr_size, dg_len]; rfl
  cases hI : inbF L a b with
  | false =>
    have HO := Lib.hid (opbF_no hI)
    have HI := Lib.hid hI
    clear hI
    rw [HO.out]
    go_enter Try.func22, Try.ntmps22
    go_wp2_with (first
    | (go_at_call 43; refine (partsInBox_any _ _ B L a b _ h hB hl).mono ?_; rintro e w1 ⟨rfl, hb1⟩; rw [HI.out]; have hz1 := hb1.size; have hd0 := (Blk.new w1 41 (arr (List.replicate 16 0))).alloc (.cells #[.int .i64 0, .int .i64 0] 43); have hx0 := Blk.new (w1.alloc (.cells (arr (List.replicate 16 0)) 41)) 43 #[Value.int .i64 0, Value.int .i64 0]; rw [World.size_alloc] at hx0; have hA := (hb1.alloc hz1 (.cells (arr (List.replicate 16 0)) 41)).alloc (by simp; omega) (.cells #[.int .i64 0, .int .i64 0] 43))
    | ((with_reducible refine wpList_id ?_); refine wpList_store_row rfl 41 (.tmp 8) (.tmp 16) rfl w1.heap.size rfl (arr (dg L)) rfl 41 (arr (List.replicate 16 0)) hd0 hi16 hsz (arr_one _) ?_)
    | ((with_reducible refine wpList_id ?_); refine wpList_store_row rfl 43 (.tmp 9) (.tmp 17) rfl (w1.heap.size + 1) rfl #[.int .i64 a, .int .i64 b] rfl 43 _ (hx0.rowOff (by omega)) T_box rfl (two_oneB _ _) ?_; have hd2 := (hd0.row (vs := arr (dg L))).rowOff (g' := w1.heap.size + 1) (vs := #[.int .i64 a, .int .i64 b]) (by omega); have hx2 := (hx0.rowOff (g' := w1.heap.size) (vs := arr (dg L)) (by omega)).row (vs := #[.int .i64 a, .int .i64 b]); have hA2 := below_setRow' (below_setRow' hA (by omega : w.heap.size ≤ w1.heap.size) (arr (dg L))) (by omega : w.heap.size ≤ w1.heap.size + 1) #[.int .i64 a, .int .i64 b]))
    go_ret2
    exact ⟨none, 0, rfl, Own.nil _ _ _, hA2⟩
  | true =>
    obtain ⟨hv, ha0, ha4, hb0, hb4⟩ := inb_lim hI
    obtain ⟨na, rfl⟩ := Int.eq_ofNat_of_zero_le ha0
    obtain ⟨nb, rfl⟩ := Int.eq_ofNat_of_zero_le hb0
    have HO := Lib.hid (opbF_yes hI)
    have HI := Lib.hid hI
    have HBO : Hid (∀ w, Calls Try.prog 53 #[.agg #[.int .i64 na, .int .i64 nb], .agg (arr (dg L))] w fun e w' => e = .returned (.agg (arr (pad (oppL L na nb)))) ∧ Below w.heap.size w w') := Lib.hid (fun w => by rw [dg_yes hv]; exact bopposite_any L na nb hI w)
    have hiL : (Try.prog.info? 41).map (·.size) = some (ints (dg L)).length := by rw [List.length_map, dg_len]; exact T_info35
    have hiB : (Try.prog.info? 43).map (·.size) = some ([Value.int .i64 na, Value.int .i64 nb]).length := T_box
    have hu := Try.underlying41
    have huB := Try.underlying43
    have HVO := Lib.hid (inb_lim (opp_facts hI).2.1).1
    clear hI hv
    rw [HO.out]
    go_enter Try.func22, Try.ntmps22
    go_wp2_with (first
    | (go_at_call 43; refine (partsInBox_any _ _ B L na nb _ h hB hl).mono ?_; rintro e w1 ⟨rfl, hb1⟩; rw [HI.out]; have hz1 := hb1.size; have hd0 := (Blk.new w1 41 (arr (List.replicate 16 0))).alloc (.cells #[.int .i64 0, .int .i64 0] 43); have hx0 := Blk.new (w1.alloc (.cells (arr (List.replicate 16 0)) 41)) 43 #[Value.int .i64 0, Value.int .i64 0]; rw [World.size_alloc] at hx0; have hx1 := hx0.rowOff (g' := w1.heap.size) (vs := arr (dg L)) (by omega); have hne : w1.heap.size ≠ w1.heap.size + 1 := (by omega); have hle1 : w.heap.size ≤ w1.heap.size + 1 := (by omega); have hA := (hb1.alloc hz1 (.cells (arr (List.replicate 16 0)) 41)).alloc (by simp; omega) (.cells #[.int .i64 0, .int .i64 0] 43))
    | ((with_reducible refine wpList_id ?_); refine wpList_store_row rfl 41 (.tmp 8) (.tmp 16) rfl w1.heap.size rfl (arr (dg L)) rfl 41 (arr (List.replicate 16 0)) hd0 hi16 hsz (arr_one _) ?_)
    | ((with_reducible refine wpList_id ?_); refine wpList_store_row rfl 43 (.tmp 9) (.tmp 17) rfl (w1.heap.size + 1) rfl #[.int .i64 na, .int .i64 nb] rfl 43 _ hx1 T_box rfl (two_oneB _ _) ?_; have hd2 := (hd0.row (vs := arr (dg L))).rowOff (g' := w1.heap.size + 1) (vs := #[.int .i64 na, .int .i64 nb]) hne; have hx2 := hx1.row (vs := #[.int .i64 na, .int .i64 nb]); have hA2 := below_setRow' (below_setRow' hA hz1 (arr (dg L))) hle1 #[.int .i64 na, .int .i64 nb])
    | ((with_reducible refine wpList_id ?_); refine wpList_load_row rfl 43 (.tmp 9) rfl (w1.heap.size + 1) rfl 43 #[.int .i64 na, .int .i64 nb] (0, 0) _ hx2 huB rfl T_box ?_)
    | ((with_reducible refine wpList_id ?_); refine wpList_load_row rfl 41 (.tmp 8) rfl w1.heap.size rfl 41 (arr (dg L)) (0, 0) _ hd2 hu rfl hi16 ?_)
    | (go_at_call 53; refine (HBO.out _).mono ?_; rintro e w3 ⟨rfl, hb3⟩)
    | (go_at_call 51; refine (list_any _ HVO.out _).mono ?_; rintro e w4 ⟨a', rfl, ho, hb4⟩))
    go_ret2
    exact ⟨a', _, rfl, ho.lower (Nat.le_trans hA2.size hb3.size), hA2.trans ((hb3.trans (hb4.mono hb3.size)).mono hA2.size)⟩
end Go.Proofs.Ytgbkaahmmpgjfaa
