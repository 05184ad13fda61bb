/-
  Walks of the program: Franklin's map.
-/
import Derived.Test.YtdoihndifaebcaaW37
import Derived.Test.YtdoihndifaebcaaM27
import Derived.Test.YtdoihndifaebcaaW33
namespace Go.Proofs.Ytdoihndifaebcaa
open Go.RowKit NP
set_option linter.unusedVariables false
set_option linter.unusedSimpArgs false

set_option maxHeartbeats 4000000 in
theorem lToSlope_any (L : List Int) (hv : valid L = true) (m : Nat) (hm : lastP L = (m : Int)) (hml : m + 1 ≤ L.length) (w : World) :
    Calls Try.prog 101 #[.agg (arr (pad L))] w fun e w' => e = .returned (.agg (arr (pad (frA L)))) ∧ Below w.heap.size w w' := by
  have hl16 := (valid_bd hv).2.2.2
  have HPL := Lib.hid (pad_len hl16)
  have HC := Lib.hid (cnt_pad hv)
  have HNN := Lib.hid (getD_nn hv)
  have HV := Lib.hid hv
  have hiL := hiL_of hl16
  have hne : L.length ≠ 0 := by omega
  have HZ := Lib.hid (ab_facts hv hne).1
  have HEND : Hid (pad (frA L) = arrA L m) := Lib.hid (by rw [(ab_facts hv hne).2.1, hm]; rfl)
  have hiA : (Try.prog.info? 55).map (·.size) = some (arr (arrA L m)).size := by rw [arr_size, arrA_len]; exact T_info35
  have hsA : (arr (arrA L m)).size = (arr (List.replicate 16 0)).size := by rw [arr_size, arr_size, arrA_len]; rfl
  have HM : Hid (L.getD (L.length - 1) 0 = (m : Int)) := Lib.hid hm
  have hw1 : IntKind.i64.wrap ((L.length : Int) - 1) = (L.length : Int) - 1 := IntWalk.i64_in _ (by omega)
  have hc0 : 0 ≤ (L.length : Int) - 1 := by omega
  have hc16 : (L.length : Int) - 1 < 16 := by omega
  have k0 := Blk.new w 55 (arr (pad L))
  have hbel0 : Below w.heap.size w ((w.alloc (.cells (arr (pad L)) 55)).alloc (.cells (arr (List.replicate 16 0)) 55)) := ((Below.refl _ _).alloc (Nat.le_refl _) _).alloc (by simp) _
  have kL := k0.alloc (.cells (arr (List.replicate 16 0)) 55)
  have kR := Blk.new (w.alloc (.cells (arr (pad L)) 55)) 55 (arr (List.replicate 16 0))
  rw [World.size_alloc] at kR
  clear hv k0 hne
  clear hm
  go_enter Try.func101, Try.ntmps101
  go_wp2_with (first
    | (go_at_call 94; refine (count_any (pad L) HPL.out _).mono ?_; rintro e w1 ⟨rfl, hb1⟩; rw [HC.out]; have hbel1 := hbel0.trans (hb1.mono hbel0.size); have kL1 := kL.below hb1 kL.lt; have kR1 := kR.below hb1 kR.lt; have hcl := pad_cellD hl16 kL1 (L.length - 1) (by omega); rw [HM.out] at hcl; have hfl := kL1.free (L.length - 1))
    | (refine wpList_load_row rfl 55 (.tmp 1) rfl (w.heap.size) rfl 55 (arr (pad L)) (0, 0) _ kL Try.underlying55 rfl hiL ?_))
  have kS := kL1.set (L.length - 1) (.int .i64 0)
  rw [arr_set, HZ.out] at kS
  have kR2 := kR1.off (p := ⟨w.heap.size, L.length - 1, none⟩) (by show w.heap.size + 1 ≠ w.heap.size; omega) (.int .i64 0)
  have hbel2 := hbel1.setCell (p := ⟨w.heap.size, L.length - 1, none⟩) (by show w.heap.size ≤ w.heap.size; omega) (.int .i64 0)
  clear hbel1 kL kR kL1 kR1 hcl hfl
  go_loopw [5, 15] (fun _ vi wr => ∃ i : Nat, i ≤ m ∧ vi = .int .i64 (i : Int) ∧ Below w.heap.size w wr ∧ Blk wr (w.heap.size + 1) 55 (arr (List.replicate 16 0)) ∧ Blk wr w.heap.size 55 (arr (arrA L i))) (fun _ vi _ => 20 - (intOf vi).toNat)
  case atStart => exact ⟨0, Nat.zero_le _, rfl, hbel2, kR2, kS⟩
  case round =>
    obtain ⟨i, hi, rfl, hbel, hbR, hbD⟩ := hrel
    clear hbel0
    by_cases hlt : i < m
    · have hlt' : (i : Int) < (m : Int) := by omega
      have hi16 : (i : Int) < 16 := by omega
      have hil : i + 1 < L.length := by omega
      have hx := HNN.out i
      have hc1 : wr.cell? ⟨w.heap.size, i, none⟩ = some (.int .i64 (L.getD i 0)) := by rw [hbD.cell i, arr_get _ i (by rw [arrA_len]; omega), arrA_get L hil (by omega)]
      have hf1 : wr.frozen? ⟨w.heap.size, i, none⟩ = false := hbD.free i
      have HS := Lib.hid (arrA_set L hil (by omega))
      clear hil
      generalize L.getD i 0 = z at *
      go_wp2
      go_roundw
      case rel =>
        refine ⟨i + 1, by omega, by go_num, hbel.setCell (by show w.heap.size ≤ w.heap.size; omega) _, hbR.off (by show w.heap.size + 1 ≠ w.heap.size; omega) _, ?_⟩
        have e := hbD.set i (.int .i64 (z + 1))
        rw [arr_set, HS.out] at e
        exact e
      case measure => simp [intOf]; omega
    · obtain rfl : i = m := by omega
      go_wp2_with (first
        | (refine wpList_load_row rfl 55 (.tmp 1) rfl (w.heap.size) rfl 55 (arr (arrA L i)) (0, 0) _ hbD Try.underlying55 rfl hiA ?_)
        | (refine wpList_store_row rfl 55 (.tmp 2) (.tmp 24) rfl (w.heap.size + 1) rfl (arr (arrA L i)) rfl 55 _ hbR hiA hsA (arr_one _) ?_))
      refine bodyPost_ret (results_cell_row rfl _ _ (w.heap.size + 1) 55 (arr (arrA L i)) (0, 0) _ rfl hbR.row Try.underlying55 rfl hiA) rfl ?_
      exact ⟨by rw [HEND.out], below_setRow' hbel (Nat.le_succ _) _⟩

set_option maxHeartbeats 4000000 in
theorem sToLast_any (L : List Int) (hv : valid L = true) (h0 : 1 ≤ L.length) (h15 : L.length ≤ 15) (w : World) :
    Calls Try.prog 100 #[.agg (arr (pad L))] w fun e w' => e = .returned (.agg (arr (pad (frB L)))) ∧ Below w.heap.size w w' := by
  have hl16 := (valid_bd hv).2.2.2
  have HPL := Lib.hid (pad_len hl16)
  have HC := Lib.hid (cnt_pad hv)
  have HNN := Lib.hid (getD_nn hv)
  have HV := Lib.hid hv
  have hiL := hiL_of hl16
  have hne : L.length ≠ 0 := by omega
  obtain ⟨m, hm⟩ : ∃ m, m = slp L := ⟨_, rfl⟩
  have hml : m ≤ L.length := by rw [hm]; exact (ff_spec _ _).1
  have HZ : Hid ((pad L).set L.length (m : Int) = arrB L 0) := Lib.hid (by rw [hm]; exact (ab_facts hv hne).2.2.1)
  have HEND : Hid (pad (frB L) = arrB L m) := Lib.hid (by rw [hm]; exact (ab_facts hv hne).2.2.2 h15)
  have hiA : (Try.prog.info? 55).map (·.size) = some (arr (arrB L m)).size := by rw [arr_size, arrB_len]; exact T_info35
  have hsA : (arr (arrB L m)).size = (arr (List.replicate 16 0)).size := by rw [arr_size, arr_size, arrB_len]; rfl
  have HM : Hid (slp L = m) := Lib.hid hm.symm
  have hc16 : (L.length : Int) < 16 := by omega
  have hc16n : L.length < 16 := by omega
  clear hm
  have k0 := Blk.new w 55 (arr (pad L))
  have hbel0 : Below w.heap.size w ((w.alloc (.cells (arr (pad L)) 55)).alloc (.cells (arr (List.replicate 16 0)) 55)) := ((Below.refl _ _).alloc (Nat.le_refl _) _).alloc (by simp) _
  have kL := k0.alloc (.cells (arr (List.replicate 16 0)) 55)
  have kR := Blk.new (w.alloc (.cells (arr (pad L)) 55)) 55 (arr (List.replicate 16 0))
  rw [World.size_alloc] at kR
  clear hv k0 hne
  go_enter Try.func100, Try.ntmps100
  go_wp2_with (first
    | (go_at_call 94; refine (count_any (pad L) HPL.out _).mono ?_; rintro e w2 ⟨rfl, hb2⟩; rw [HC.out]; have hbel2 := hbel1.trans (hb2.mono hbel1.size); have kL2 := kL1.below hb2 kL1.lt; have kR2 := kR1.below hb2 kR1.lt; have hcl := pad_cellD hl16 kL2 L.length (by omega); have hfl := kL2.free L.length)
    | (refine wpList_load_row rfl 55 (.tmp 1) rfl (w.heap.size) rfl 55 (arr (pad L)) (0, 0) _ kL1 Try.underlying55 rfl hiL ?_)
    | (go_at_call 99; refine (slope_any L HV.out _).mono ?_; rintro e w1 ⟨rfl, hb1⟩; rw [HM.out]; have hbel1 := hbel0.trans (hb1.mono hbel0.size); have kL1 := kL.below hb1 kL.lt; have kR1 := kR.below hb1 kR.lt)
    | (refine wpList_load_row rfl 55 (.tmp 1) rfl (w.heap.size) rfl 55 (arr (pad L)) (0, 0) _ kL Try.underlying55 rfl hiL ?_))
  have kS := kL2.set L.length (.int .i64 (m : Int))
  rw [arr_set, HZ.out] at kS
  have kR3 := kR2.off (p := ⟨w.heap.size, L.length, none⟩) (by show w.heap.size + 1 ≠ w.heap.size; omega) (.int .i64 (m : Int))
  have hbel3 := hbel2.setCell (p := ⟨w.heap.size, L.length, none⟩) (by show w.heap.size ≤ w.heap.size; omega) (.int .i64 (m : Int))
  clear hbel1 hbel2 kL kR kL1 kR1 kL2 kR2 hcl hfl
  go_loopw [4, 12] (fun _ vi wr => ∃ i : Nat, i ≤ m ∧ vi = .int .i64 (i : Int) ∧ Below w.heap.size w wr ∧ Blk wr (w.heap.size + 1) 55 (arr (List.replicate 16 0)) ∧ Blk wr w.heap.size 55 (arr (arrB L i))) (fun _ vi _ => 20 - (intOf vi).toNat)
  case atStart => exact ⟨0, Nat.zero_le _, rfl, hbel3, kR3, kS⟩
  case round =>
    obtain ⟨i, hi, rfl, hbel, hbR, hbD⟩ := hrel
    clear hbel0
    by_cases hlt : i < m
    · have hlt' : (i : Int) < (m : Int) := by omega
      have hi16 : (i : Int) < 16 := by omega
      have hil : i < L.length := by omega
      have hx := HNN.out i
      have hc1 : wr.cell? ⟨w.heap.size, i, none⟩ = some (.int .i64 (L.getD i 0)) := by rw [hbD.cell i, arr_get _ i (by rw [arrB_len]; omega), arrB_get L hil (by omega)]
      have hf1 : wr.frozen? ⟨w.heap.size, i, none⟩ = false := hbD.free i
      have HS := Lib.hid (arrB_set L hil (by omega))
      clear hil
      generalize L.getD i 0 = z at *
      go_wp2
      go_roundw
      case rel =>
        refine ⟨i + 1, by omega, by go_num, hbel.setCell (by show w.heap.size ≤ w.heap.size; omega) _, hbR.off (by show w.heap.size + 1 ≠ w.heap.size; omega) _, ?_⟩
        have e := hbD.set i (.int .i64 (z - 1))
        rw [arr_set, HS.out] at e
        exact e
      case measure => simp [intOf]; omega
    · obtain rfl : i = m := by omega
      go_wp2_with (first
        | (refine wpList_load_row rfl 55 (.tmp 1) rfl (w.heap.size) rfl 55 (arr (arrB L i)) (0, 0) _ hbD Try.underlying55 rfl hiA ?_)
        | (refine wpList_store_row rfl 55 (.tmp 2) (.tmp 21) rfl (w.heap.size + 1) rfl (arr (arrB L i)) rfl 55 _ hbR hiA hsA (arr_one _) ?_))
      refine bodyPost_ret (results_cell_row rfl _ _ (w.heap.size + 1) 55 (arr (arrB L i)) (0, 0) _ rfl hbR.row Try.underlying55 rfl hiA) rfl ?_
      exact ⟨by rw [HEND.out], below_setRow' hbel (Nat.le_succ _) _⟩

set_option maxRecDepth 4000 in
set_option maxHeartbeats 8000000 in
theorem shifted_any (L : List Int) (hok : frOk L = true) (w : World) :
    Calls Try.prog 65 #[.agg (arr (pad L))] w fun e w' => e = .returned (.agg (arr (pad (fr L)))) ∧ Below w.heap.size w w' := by
  have hmf : ∀ (fn : Fn) (first cap : Array Value) (w : World), (Instr.makeFunc fn first cap).run Try.prog w = .ok (.func fn first cap) w := fun _ _ _ _ => rfl
  have hv := ((frOk_iff L).1 hok).1
  have hmay := ((frOk_iff L).1 hok).2.2
  have h0 : 1 ≤ L.length := by
    unfold mayS at hmay
    simp only [Bool.and_eq_true, decide_eq_true_eq] at hmay
    omega
  obtain ⟨-, -, -, -, -, hy1, hl5, hyl⟩ := fr_facts hok
  have hvF : valid (fr L) = true := ((frOk_iff _).1 (fr_facts hok).1).1
  have hlF := (valid_bd hvF).2.2.2
  have hl16 := (valid_bd hv).2.2.2
  have HPL := Lib.hid (pad_len hl16)
  have HC := Lib.hid (cnt_pad hv)
  have HNN := Lib.hid (getD_nn hv)
  have HV := Lib.hid hv
  have hiL := hiL_of hl16
  have hne : L.length ≠ 0 := by omega
  have he1 : ∀ (args : Array Value) (w : World), (callFunc 100 args).run Try.prog w = .ok (.enter 100 args) w := enters_of Try.func100 (by kernel_rfl) rfl
  have he2 : ∀ (args : Array Value) (w : World), (callFunc 101 args).run Try.prog w = .ok (.enter 101 args) w := enters_of Try.func101 (by kernel_rfl) rfl
  have hiF := hiL_of hlF
  have hsF : (arr (pad (fr L))).size = (arr (List.replicate 16 0)).size := by rw [arr_size, arr_size, pad_len hlF]; rfl
  have hu := Try.underlying55
  have hiL' : (Try.prog.info? 55).map (·.size) = some (ints (pad L)).length := by rw [List.length_map, pad_len hl16]; exact T_info35
  have hw1 : IntKind.i64.wrap ((L.length : Int) - 1) = (L.length : Int) - 1 := IntWalk.i64_in _ (by omega)
  have hc0 : 0 ≤ (L.length : Int) - 1 := by omega
  have h0i : (1 : Int) ≤ (L.length : Int) := by omega
  have h0n : ¬ (L.length : Int) < 1 := by omega
  have hc16 : (L.length : Int) - 1 < 16 := by omega
  obtain ⟨m, hm⟩ := Int.eq_ofNat_of_zero_le (show 0 ≤ lastP L by omega)
  have HM : Hid (L.getD (L.length - 1) 0 = (m : Int)) := Lib.hid hm
  have HLM : Hid (lastP L = (m : Int)) := Lib.hid hm
  have HYL : Hid (m ≤ slp L → m + 1 ≤ L.length) := Lib.hid (fun h => by rw [hm] at hyl; have := hyl (by omega); omega)
  have HFR : Hid (fr L = if m ≤ slp L then frA L else frB L) := Lib.hid (by unfold fr; rw [hm]; by_cases h : m ≤ slp L <;> simp [h])
  have k0 := Blk.new w 55 (arr (pad L))
  have hbel0 : Below w.heap.size w ((w.alloc (.cells (arr (pad L)) 55)).alloc (.cells (arr (List.replicate 16 0)) 55)) := ((Below.refl _ _).alloc (Nat.le_refl _) _).alloc (by simp) _
  have kL := k0.alloc (.cells (arr (List.replicate 16 0)) 55)
  have kR := Blk.new (w.alloc (.cells (arr (pad L)) 55)) 55 (arr (List.replicate 16 0))
  rw [World.size_alloc] at kR
  clear hv k0 hne
  have hcy := pad_cellD hl16 kL (L.length - 1) (by omega)
  rw [HM.out] at hcy
  have hr0 : ((w.alloc (.cells (arr (pad L)) 55)).alloc (.cells (arr (List.replicate 16 0)) 55)).rangeAt w.heap.size 0 (ints (pad L)) := Blk.range (vs := ints (pad L)) kL
  clear hok hmay hm hy1 hyl hvF
  by_cases hms : m ≤ slp L
  · have hms' : (m : Int) ≤ (slp L : Int) := by omega
    rw [if_pos hms] at HFR
    go_enter Try.func65, Try.ntmps65
    go_wp2_with (first
      | (refine wpList_load_row rfl 55 (.tmp 1) rfl (w.heap.size) rfl 55 (arr (pad L)) (0, 0) _ kL Try.underlying55 rfl hiL ?_))
    refine wp_region_held_drew (S := fun w' => w'.rangeAt w.heap.size 0 (ints (pad L)) ∧ w'.cell? ⟨w.heap.size, L.length - 1, none⟩ = some (.int .i64 (m : Int)) ∧ Blk w' (w.heap.size + 1) 55 (arr (List.replicate 16 0)) ∧ Below w.heap.size w w' ∧ Blk w' w.heap.size 55 (arr (pad L))) (by kernel_rfl) ⟨hr0, hcy, kR.below ((Dr.n _ 1).below _) kR.lt, hbel0.trans ((Dr.n _ 1).below _), kL.below ((Dr.n _ 1).below _) kL.lt⟩ (fun hHeld => ?_)
    refine wpAnyH_take (i := 0) (v := _) (by simp only [List.getElem?_toArray, List.getElem?_cons_succ, List.getElem?_cons_zero]; exact rfl) (by kernel_rfl) (by kernel_rfl) (by kernel_rfl) (by intro _ _ _ h; exact h) (yieldsIf_load_mid (by kernel_rfl) _ _ rfl w.heap.size 0 rfl (ints (pad L)) _ (fun _ hw => hw.1) hu rfl hiL') (by assumption) ?_
    simp only [Act.put, List.setIfInBounds_toArray, List.set_cons_zero, List.set_cons_succ, List.toList_toArray]
    refine wpAnyH_take (i := 5) (v := _) (by simp only [List.getElem?_toArray, List.getElem?_cons_succ, List.getElem?_cons_zero]; exact rfl) (by kernel_rfl) (by kernel_rfl) (by kernel_rfl) (by intro _ _ _ h; exact h) (yieldsIf_load_mid (by kernel_rfl) _ _ rfl w.heap.size 0 rfl (ints (pad L)) _ (fun _ hw => hw.1) hu rfl hiL') (by assumption) ?_
    simp only [Act.put, List.setIfInBounds_toArray, List.set_cons_zero, List.set_cons_succ, List.toList_toArray]
    refine wpAnyH_ready (rs := [1]) (by kernel_rfl) (by simp) ?_
    refine AllReadyH.cons (o := _) (by simp only [List.getElem?_toArray, List.getElem?_cons_succ, List.getElem?_cons_zero]; exact rfl) (fun K hK => ?_) AllReadyH.nil
    rw [if_pos (by rfl)]
    go_simp
    go_at_call 94
    refine (count_any (pad L) HPL.out _).mono ?_
    rintro e w1 ⟨rfl, hb1⟩
    rw [HC.out]
    refine hK.out _ _ ⟨range_below hHeld.1 hb1, (hb1.cell (p := ⟨w.heap.size, L.length - 1, none⟩) (World.block_lt_of_cell? _ _ hHeld.2.1)).trans hHeld.2.1, hHeld.2.2.1.below hb1 hHeld.2.2.1.lt, hHeld.2.2.2.1.trans (hb1.mono hHeld.2.2.2.1.size), hHeld.2.2.2.2.below hb1 hHeld.2.2.2.2.lt⟩ (fun hH2 => ?_)
    clear hK K
    try simp only [Act.put, List.setIfInBounds_toArray, List.set_cons_zero, List.set_cons_succ, List.toList_toArray]
    refine wpAnyH_take (i := 2) (v := .int .i64 ((L.length : Int) - 1)) (by simp only [List.getElem?_toArray, List.getElem?_cons_succ, List.getElem?_cons_zero]; exact rfl) (by kernel_rfl) (by kernel_rfl) (by kernel_rfl) (by intro _ _ _ h; exact h) (Or.inl ⟨by kernel_rfl, by intro w hSw; go_simp⟩) (by assumption) ?_
    simp only [Act.put, List.setIfInBounds_toArray, List.set_cons_zero, List.set_cons_succ, List.toList_toArray]
    refine wpAnyH_take (i := 3) (v := .pointer (some ⟨w.heap.size, L.length - 1, none⟩)) (by simp only [List.getElem?_toArray, List.getElem?_cons_succ, List.getElem?_cons_zero]; exact rfl) (by kernel_rfl) (by kernel_rfl) (by kernel_rfl) (by intro _ _ _ h; exact h) (Or.inl ⟨by kernel_rfl, by intro w hSw; go_simp⟩) (by assumption) ?_
    simp only [Act.put, List.setIfInBounds_toArray, List.set_cons_zero, List.set_cons_succ, List.toList_toArray]
    refine wpAnyH_take (i := 4) (v := .int .i64 (m : Int)) (by simp only [List.getElem?_toArray, List.getElem?_cons_succ, List.getElem?_cons_zero]; exact rfl) (by kernel_rfl) (by kernel_rfl) (by kernel_rfl) (by intro _ _ _ h; exact h) (Or.inl ⟨by kernel_rfl, by intro w hSw; obtain ⟨hs0, hs1, hs2, hs3, hs4⟩ := hSw; go_simp⟩) (by assumption) ?_
    simp only [Act.put, List.setIfInBounds_toArray, List.set_cons_zero, List.set_cons_succ, List.toList_toArray]
    refine wpAnyH_ready (rs := [6]) (by kernel_rfl) (by simp) ?_
    refine AllReadyH.cons (o := _) (by simp only [List.getElem?_toArray, List.getElem?_cons_succ, List.getElem?_cons_zero]; exact rfl) (fun K hK => ?_) AllReadyH.nil
    rw [if_pos (by rfl)]
    go_simp
    go_at_call 99
    refine (slope_any L HV.out _).mono ?_
    rintro e w2 ⟨rfl, hb2⟩
    refine hK.out _ _ ⟨range_below hH2.1 hb2, (hb2.cell (p := ⟨w.heap.size, L.length - 1, none⟩) (World.block_lt_of_cell? _ _ hH2.2.1)).trans hH2.2.1, hH2.2.2.1.below hb2 hH2.2.2.1.lt, hH2.2.2.2.1.trans (hb2.mono hH2.2.2.2.1.size), hH2.2.2.2.2.below hb2 hH2.2.2.2.2.lt⟩ (fun hH3 => ?_)
    clear hK K
    try simp only [Act.put, List.setIfInBounds_toArray, List.set_cons_zero, List.set_cons_succ, List.toList_toArray]
    refine wpAnyH_take (i := 7) (v := .bool true) (by simp only [List.getElem?_toArray, List.getElem?_cons_succ, List.getElem?_cons_zero]; exact rfl) (by kernel_rfl) (by kernel_rfl) (by kernel_rfl) (by intro _ _ _ h; exact h) (Or.inl ⟨by kernel_rfl, by intro w hSw; go_simp⟩) (by assumption) ?_
    simp only [Act.put, List.setIfInBounds_toArray, List.set_cons_zero, List.set_cons_succ, List.toList_toArray]
    refine wpAnyH_done (by kernel_rfl) ?_ _
    try simp only [Act.put, List.setIfInBounds_toArray, List.set_cons_zero, List.set_cons_succ]
    have kL1 := hH3.2.2.2.2
    have hbel1 := hH3.2.2.2.1
    have hbR1 := hH3.2.2.1
    go_wp2_with (first
      | (refine wpList_store_row rfl 55 (.tmp 2) (.tmp 17) rfl (w.heap.size + 1) rfl (arr (pad (fr L))) rfl 55 _ kR3 hiF hsF (arr_one _) ?_)
      | (refine wpList_load_row rfl 55 (.tmp 1) rfl (w.heap.size) rfl 55 (arr (pad L)) (0, 0) _ kL1 Try.underlying55 rfl hiL ?_)
      | (refine (lToSlope_any L HV.out m HLM.out (HYL.out hms) _).mono ?_; rintro e w3 ⟨rfl, hb3⟩; have hbel3 := hbel1.trans (hb3.mono hbel1.size); have kR3 := hbR1.below hb3 hbR1.lt; rw [← HFR.out]))
    refine bodyPost_ret (results_cell_row rfl _ _ (w.heap.size + 1) 55 (arr (pad (fr L))) (0, 0) _ rfl kR3.row Try.underlying55 rfl hiF) rfl ?_
    exact ⟨rfl, below_setRow' hbel3 (Nat.le_succ _) _⟩
  · have hms' : ¬ (m : Int) ≤ (slp L : Int) := by omega
    rw [if_neg hms] at HFR
    go_enter Try.func65, Try.ntmps65
    go_wp2_with (first
      | (refine wpList_load_row rfl 55 (.tmp 1) rfl (w.heap.size) rfl 55 (arr (pad L)) (0, 0) _ kL Try.underlying55 rfl hiL ?_))
    refine wp_region_held_drew (S := fun w' => w'.rangeAt w.heap.size 0 (ints (pad L)) ∧ w'.cell? ⟨w.heap.size, L.length - 1, none⟩ = some (.int .i64 (m : Int)) ∧ Blk w' (w.heap.size + 1) 55 (arr (List.replicate 16 0)) ∧ Below w.heap.size w w' ∧ Blk w' w.heap.size 55 (arr (pad L))) (by kernel_rfl) ⟨hr0, hcy, kR.below ((Dr.n _ 1).below _) kR.lt, hbel0.trans ((Dr.n _ 1).below _), kL.below ((Dr.n _ 1).below _) kL.lt⟩ (fun hHeld => ?_)
    refine wpAnyH_take (i := 0) (v := _) (by simp only [List.getElem?_toArray, List.getElem?_cons_succ, List.getElem?_cons_zero]; exact rfl) (by kernel_rfl) (by kernel_rfl) (by kernel_rfl) (by intro _ _ _ h; exact h) (yieldsIf_load_mid (by kernel_rfl) _ _ rfl w.heap.size 0 rfl (ints (pad L)) _ (fun _ hw => hw.1) hu rfl hiL') (by assumption) ?_
    simp only [Act.put, List.setIfInBounds_toArray, List.set_cons_zero, List.set_cons_succ, List.toList_toArray]
    refine wpAnyH_take (i := 5) (v := _) (by simp only [List.getElem?_toArray, List.getElem?_cons_succ, List.getElem?_cons_zero]; exact rfl) (by kernel_rfl) (by kernel_rfl) (by kernel_rfl) (by intro _ _ _ h; exact h) (yieldsIf_load_mid (by kernel_rfl) _ _ rfl w.heap.size 0 rfl (ints (pad L)) _ (fun _ hw => hw.1) hu rfl hiL') (by assumption) ?_
    simp only [Act.put, List.setIfInBounds_toArray, List.set_cons_zero, List.set_cons_succ, List.toList_toArray]
    refine wpAnyH_ready (rs := [1]) (by kernel_rfl) (by simp) ?_
    refine AllReadyH.cons (o := _) (by simp only [List.getElem?_toArray, List.getElem?_cons_succ, List.getElem?_cons_zero]; exact rfl) (fun K hK => ?_) AllReadyH.nil
    rw [if_pos (by rfl)]
    go_simp
    go_at_call 94
    refine (count_any (pad L) HPL.out _).mono ?_
    rintro e w1 ⟨rfl, hb1⟩
    rw [HC.out]
    refine hK.out _ _ ⟨range_below hHeld.1 hb1, (hb1.cell (p := ⟨w.heap.size, L.length - 1, none⟩) (World.block_lt_of_cell? _ _ hHeld.2.1)).trans hHeld.2.1, hHeld.2.2.1.below hb1 hHeld.2.2.1.lt, hHeld.2.2.2.1.trans (hb1.mono hHeld.2.2.2.1.size), hHeld.2.2.2.2.below hb1 hHeld.2.2.2.2.lt⟩ (fun hH2 => ?_)
    clear hK K
    try simp only [Act.put, List.setIfInBounds_toArray, List.set_cons_zero, List.set_cons_succ, List.toList_toArray]
    refine wpAnyH_take (i := 2) (v := .int .i64 ((L.length : Int) - 1)) (by simp only [List.getElem?_toArray, List.getElem?_cons_succ, List.getElem?_cons_zero]; exact rfl) (by kernel_rfl) (by kernel_rfl) (by kernel_rfl) (by intro _ _ _ h; exact h) (Or.inl ⟨by kernel_rfl, by intro w hSw; go_simp⟩) (by assumption) ?_
    simp only [Act.put, List.setIfInBounds_toArray, List.set_cons_zero, List.set_cons_succ, List.toList_toArray]
    refine wpAnyH_take (i := 3) (v := .pointer (some ⟨w.heap.size, L.length - 1, none⟩)) (by simp only [List.getElem?_toArray, List.getElem?_cons_succ, List.getElem?_cons_zero]; exact rfl) (by kernel_rfl) (by kernel_rfl) (by kernel_rfl) (by intro _ _ _ h; exact h) (Or.inl ⟨by kernel_rfl, by intro w hSw; go_simp⟩) (by assumption) ?_
    simp only [Act.put, List.setIfInBounds_toArray, List.set_cons_zero, List.set_cons_succ, List.toList_toArray]
    refine wpAnyH_take (i := 4) (v := .int .i64 (m : Int)) (by simp only [List.getElem?_toArray, List.getElem?_cons_succ, List.getElem?_cons_zero]; exact rfl) (by kernel_rfl) (by kernel_rfl) (by kernel_rfl) (by intro _ _ _ h; exact h) (Or.inl ⟨by kernel_rfl, by intro w hSw; obtain ⟨hs0, hs1, hs2, hs3, hs4⟩ := hSw; go_simp⟩) (by assumption) ?_
    simp only [Act.put, List.setIfInBounds_toArray, List.set_cons_zero, List.set_cons_succ, List.toList_toArray]
    refine wpAnyH_ready (rs := [6]) (by kernel_rfl) (by simp) ?_
    refine AllReadyH.cons (o := _) (by simp only [List.getElem?_toArray, List.getElem?_cons_succ, List.getElem?_cons_zero]; exact rfl) (fun K hK => ?_) AllReadyH.nil
    rw [if_pos (by rfl)]
    go_simp
    go_at_call 99
    refine (slope_any L HV.out _).mono ?_
    rintro e w2 ⟨rfl, hb2⟩
    refine hK.out _ _ ⟨range_below hH2.1 hb2, (hb2.cell (p := ⟨w.heap.size, L.length - 1, none⟩) (World.block_lt_of_cell? _ _ hH2.2.1)).trans hH2.2.1, hH2.2.2.1.below hb2 hH2.2.2.1.lt, hH2.2.2.2.1.trans (hb2.mono hH2.2.2.2.1.size), hH2.2.2.2.2.below hb2 hH2.2.2.2.2.lt⟩ (fun hH3 => ?_)
    clear hK K
    try simp only [Act.put, List.setIfInBounds_toArray, List.set_cons_zero, List.set_cons_succ, List.toList_toArray]
    refine wpAnyH_take (i := 7) (v := .bool false) (by simp only [List.getElem?_toArray, List.getElem?_cons_succ, List.getElem?_cons_zero]; exact rfl) (by kernel_rfl) (by kernel_rfl) (by kernel_rfl) (by intro _ _ _ h; exact h) (Or.inl ⟨by kernel_rfl, by intro w hSw; go_simp⟩) (by assumption) ?_
    simp only [Act.put, List.setIfInBounds_toArray, List.set_cons_zero, List.set_cons_succ, List.toList_toArray]
    refine wpAnyH_done (by kernel_rfl) ?_ _
    try simp only [Act.put, List.setIfInBounds_toArray, List.set_cons_zero, List.set_cons_succ]
    have kL1 := hH3.2.2.2.2
    have hbel1 := hH3.2.2.2.1
    have hbR1 := hH3.2.2.1
    go_wp2_with (first
      | (refine wpList_store_row rfl 55 (.tmp 2) (.tmp 17) rfl (w.heap.size + 1) rfl (arr (pad (fr L))) rfl 55 _ kR3 hiF hsF (arr_one _) ?_)
      | (refine (sToLast_any L HV.out h0 (by omega) _).mono ?_; rintro e w3 ⟨rfl, hb3⟩; have hbel3 := hbel1.trans (hb3.mono hbel1.size); have kR3 := hbR1.below hb3 hbR1.lt; rw [← HFR.out]))
    refine bodyPost_ret (results_cell_row rfl _ _ (w.heap.size + 1) 55 (arr (pad (fr L))) (0, 0) _ rfl kR3.row Try.underlying55 rfl hiF) rfl ?_
    exact ⟨rfl, below_setRow' hbel3 (Nat.le_succ _) _⟩

theorem mayShiftKb (b : Nat) (w : World) : IsKb b w (.func (.func 64) #[] #[]) mayS :=
  ⟨_, _, _, fun _ => False, rfl, enters_of Try.func64 (by kernel_rfl) rfl, id, fun _ h => h.elim, fun w1 _ L hv => by have := mayShift_any L hv w1; simpa using this⟩
theorem shiftWay (w : World) : IsWay w (.func (.func 65) #[] #[]) (fun L => kFall 1 1 L && mayS L) fr :=
  ⟨_, _, _, rfl, enters_of Try.func65 (by kernel_rfl) rfl, fun w1 _ L hv hk => by
    have := shifted_any L (by unfold frOk; rw [hv, show (kFall 1 1 L && mayS L) = true from hk]; rfl) w1
    simpa using this⟩
set_option maxHeartbeats 2000000 in
theorem iFranklinMap_any (a : Option Addr) (c B : Nat) (P : List Int) (w : World) (h : Rd w B a (ints P)) (hB : B ≤ w.heap.size) (hl : P.length ≤ 4611686018427387904) :
    Calls Try.prog 31 #[.slice a P.length c] w fun e w' => ∃ a' c', e = .returned (.tuple #[.slice a' (frF P).length c', .bool (frOk P)]) ∧ Own w' w.heap.size w'.heap.size 3 (.slice a' (frF P).length c') (ints (frF P)) ∧ Below w.heap.size w w' := by
  have hvF : valid P = true → (fun L => kFall 1 1 L && mayS L) P = true → valid (fr P) = true := fun hv hk => ((frOk_iff _).1 (fr_facts (show frOk P = true by unfold frOk; rw [hv]; exact hk)).1).1
  have e1 : mpF (fun L => kFall 1 1 L && mayS L) fr P = frF P := rfl
  have e2 : mpOk (fun L => kFall 1 1 L && mayS L) P = frOk P := rfl
  go_enter Try.func31, Try.ntmps31
  go_wp2_with (first
    | (go_at_call 49; refine (mapped_any _ _ B P _ _ (fun L => kFall 1 1 L && mayS L) fr hvF _ hik2.isK ((shiftWay _).at_ P) (h.below ((hb1.trans (hb2.mono hb1.size)).mono hB)) (Nat.le_trans hB (Nat.le_trans hb1.size hb2.size)) hl).mono ?_; rintro e w3 ⟨a', c', rfl, ho3, hb3⟩; rw [e1] at ho3 ⊢; rw [e2])
    | (go_at_call 63; refine (both_any v _ (kFall 1 1) mayS b _ km.lt hik (mayShiftKb _ _)).mono ?_; rintro e w2 ⟨v2, rfl, hik2, hb2⟩)
    | (go_at_call 50; refine (kindsByName_any _).mono ?_; rintro e w1 ⟨b, n, f, rfl, km, kt, hb1⟩; have kt0 := kt [100, 105, 115, 116, 105, 110, 99, 116]; rw [kindOf_distinct] at kt0; obtain ⟨v, hfv, hik⟩ := kt0; have hlk := km.look ⟨#[100, 105, 115, 116, 105, 110, 99, 116]⟩ (by decide) hfv))
  go_ret2
  exact ⟨a', c', rfl, ho3.lower (Nat.le_trans hb1.size hb2.size), (hb1.trans (hb2.mono hb1.size)).trans (hb3.mono (Nat.le_trans hb1.size hb2.size))⟩
end Go.Proofs.Ytdoihndifaebcaa
