/-
  Walks of the program: stairs.
-/
import Derived.Test.YtdoihndifaebcaaW32
import Derived.Test.YtdoihndifaebcaaW24
namespace Go.Proofs.Ytdoihndifaebcaa
open Go.RowKit NP
set_option linter.unusedVariables false
set_option linter.unusedSimpArgs false
theorem res_1cell {P : Program} {fn : Func} {p1 : Tmp} {ty : TypeId} (h : fn.results = #[.cell p1 ty]) (tmps : Array Value) (w : World) (g1 : Nat) (c1 : List Value) (d : TypeDesc)
    (hp1 : tmps.getD p1 undef = .pointer (some ⟨g1, 0, none⟩)) (h1 : w.rangeAt g1 0 c1)
    (hu : P.underlying ty = some d) (hd : d.isRow = true) (hi1 : (P.info? ty).map (·.size) = some c1.length) :
    (results fn tmps).run P w = .ok (.agg c1.toArray) w := by
  have hp1' : tmps[p1]?.getD undef = .pointer (some ⟨g1, 0, none⟩) := by simpa using hp1
  simp [results, h, hp1', asAddr, run_loadVar_mid w g1 0 ty c1 d h1 hu hd hi1]
def fillS (n i : Nat) : List Int := (List.range 16).map fun (j : Nat) => if j < i then (n : Int) - (j : Int) else 0
theorem fillS_len (n i : Nat) : (fillS n i).length = 16 := by simp [fillS]
theorem fillS_set (n : Nat) {i : Nat} (h : i < 16) : (fillS n i).set i ((n : Int) - (i : Int)) = fillS n (i + 1) := by
  apply List.ext_getElem
  · simp [fillS]
  · intro j h1 h2
    simp only [fillS, List.getElem_set, List.getElem_map, List.getElem_range]
    by_cases hj : i = j
    · subst hj; rw [if_pos rfl, if_pos (by omega)]
    · rw [if_neg hj]
      by_cases hji : j < i
      · rw [if_pos hji, if_pos (by omega)]
      · rw [if_neg hji, if_neg (by omega)]
theorem fillS_zero (n : Nat) : fillS n 0 = List.replicate 16 0 := by simp [fillS, List.map_const']
theorem fillS_end {n : Nat} (h : n ≤ 16) : fillS n n = pad (stairs n) := by
  have hl : (pad (stairs n)).length = 16 := pad_len (by rw [stairs_len]; exact h)
  apply List.ext_getElem
  · rw [fillS_len, hl]
  · intro j h1 h2
    have : (pad (stairs n))[j] = (stairs n).getD j 0 := by rw [← getD_lt h2, pad_getD (by rw [stairs_len]; exact h)]
    rw [this, stairs_getD]
    simp [fillS]
theorem stairs_pad_len {n : Nat} (h : n ≤ 16) : (pad (stairs n)).length = 16 := pad_len (by rw [stairs_len]; exact h)
theorem stairs_pad_getD {n : Nat} (h : n ≤ 16) (i : Nat) : (pad (stairs n)).getD i 0 = if i < n then (n : Int) - (i : Int) else 0 := by rw [pad_getD (by rw [stairs_len]; exact h), stairs_getD]

set_option maxHeartbeats 1000000 in
theorem sdiag_any (n : Nat) (hn : n ≤ 16) (w : World) :
    Calls Try.prog 93 #[.int .i64 n] w fun e w' => e = .returned (.agg (arr (pad (stairs n)))) ∧ Below w.heap.size w w' := by
  have hiA : (Try.prog.info? 55).map (·.size) = some (arr (pad (stairs n))).size := by rw [arr_size, stairs_pad_len hn]; exact T_info35
  have hsA : (arr (pad (stairs n))).size = (arr (List.replicate 16 0)).size := by rw [arr_size, arr_size, stairs_pad_len hn]; rfl
  have hb0 := (Blk.new w 55 (arr (List.replicate 16 0))).alloc (.cells (arr (List.replicate 16 0)) 55)
  have hb1 := Blk.new (w.alloc (.cells (arr (List.replicate 16 0)) 55)) 55 (arr (List.replicate 16 0))
  rw [World.size_alloc] at hb1
  have hbel0 : Below w.heap.size w ((w.alloc (.cells (arr (List.replicate 16 0)) 55)).alloc (.cells (arr (List.replicate 16 0)) 55)) := ((Below.refl _ _).alloc (Nat.le_refl _) _).alloc (by simp) _
  go_enter Try.func93, Try.ntmps93
  go_wp2
  go_loopw [4, 6] (fun _ vi wr => ∃ i : Nat, i ≤ n ∧ vi = .int .i64 i ∧ Below w.heap.size w wr ∧ Blk wr w.heap.size 55 (arr (List.replicate 16 0)) ∧ Blk wr (w.heap.size + 1) 55 (arr (fillS n i))) (fun _ vi _ => n - (intOf vi).toNat)
  case atStart => exact ⟨0, Nat.zero_le _, rfl, hbel0, hb0, by rw [fillS_zero]; exact hb1⟩
  case round =>
    obtain ⟨i, hi, rfl, hbel, hbZ, hbD⟩ := hrel
    clear hb0 hb1 hbel0
    by_cases hlt : i < n
    · have hlt' : (i : Int) < (n : Int) := by omega
      have hi16 : (i : Int) < 16 := by omega
      have hfl := fillS_len n i
      have hc1 : wr.cell? ⟨w.heap.size + 1, i, none⟩ = some (.int .i64 ((fillS n i)[i]'(by rw [hfl]; omega))) := by rw [hbD.cell i, arr_get _ i (by rw [hfl]; omega)]
      have hf1 : wr.frozen? ⟨w.heap.size + 1, i, none⟩ = false := hbD.free i
      have HS := Lib.hid (fillS_set n (i := i) (by omega))
      generalize (fillS n i)[i]'_ = z at hc1
      clear hfl
      go_wp2
      go_roundw
      case rel =>
        refine ⟨i + 1, by omega, by go_num, hbel.setCell (by show w.heap.size ≤ w.heap.size + 1; omega) _, hbZ.off (by show w.heap.size ≠ w.heap.size + 1; omega) _, ?_⟩
        have e := hbD.set i (.int .i64 ((n : Int) - (i : Int)))
        rw [arr_set, HS.out] at e
        exact e
      case measure => simp [intOf]; omega
    · obtain rfl : i = n := by omega
      rw [fillS_end hn] at hbD
      go_wp2_with (first
        | (refine wpList_load_row rfl 55 (.tmp 3) rfl (w.heap.size + 1) rfl 55 (arr (pad (stairs i))) (0, 0) _ hbD Try.underlying55 rfl hiA ?_)
        | (refine wpList_store_row rfl 55 (.tmp 2) (.tmp 15) rfl w.heap.size rfl (arr (pad (stairs i))) rfl 55 _ hbZ hiA hsA (arr_one _) ?_))
      refine bodyPost_ret (results_cell_row rfl _ _ w.heap.size 55 (arr (pad (stairs i))) (0, 0) _ rfl hbZ.row Try.underlying55 rfl hiA) rfl ?_
      exact ⟨rfl, below_setRow' hbel (Nat.le_refl _) _⟩

/-- whether there is a step for each part, and room for both -/
def kCarry (k : Int) (L : List Int) : Bool := decide ((L.length : Int) ≤ k) && (decide (k ≤ 16) && decide (k * (k + 1) / 2 + sumL L ≤ 16))
theorem mp_carry (k : Int) (P : List Int) : mpOk (kCarry k) P = stOk P k := by
  unfold mpOk kCarry stOk
  rw [Int.add_comm (k * (k + 1) / 2) (sumL P)]
  cases valid P <;> simp [Bool.and_assoc]

set_option maxHeartbeats 4000000 in
theorem mayCarry_any (k : Int) (L : List Int) (hv : valid L = true) (w : World) :
    Calls Try.prog 52 #[.int .i64 k, .agg (arr (pad L))] w fun e w' => e = .returned (.bool (kCarry k L)) ∧ Below w.heap.size w w' := by
  have hl16 := (valid_bd hv).2.2.2
  have hsb := valid_bd hv
  have HC := Lib.hid (cnt_pad hv)
  have HPL := Lib.hid (pad_len hl16)
  have HFL := Lib.hid (pad_fits hv)
  have hB0 := Blk.new w 55 (arr (pad L))
  have hbel0 : Below w.heap.size w (w.alloc (.cells (arr (pad L)) 55)) := (Below.refl _ _).alloc (Nat.le_refl _) _
  have hr0 : (w.alloc (.cells (arr (pad L)) 55)).rangeAt w.heap.size 0 (ints (pad L)) := Blk.range (vs := ints (pad L)) hB0
  have hu := Try.underlying55
  have hiL' : (Try.prog.info? 55).map (·.size) = some (ints (pad L)).length := by rw [List.length_map, pad_len hl16]; exact T_info35
  obtain ⟨s, hs⟩ : ∃ s, s = sumL L := ⟨_, rfl⟩
  have HSL : Hid (sumL (pad L) = s) := Lib.hid (by rw [hs, sumL_pad])
  rw [← hs] at hsb
  have hs1 := hsb.1
  have hs2 := hsb.2.1
  by_cases h1 : (L.length : Int) ≤ k
  · by_cases h2 : k ≤ 16
    · obtain ⟨n, rfl⟩ := Int.eq_ofNat_of_zero_le (show 0 ≤ k by omega)
      have hn : n ≤ 16 := by omega
      have HPS := Lib.hid (stairs_pad_len hn)
      have hmul := stairs_mul hn
      obtain ⟨q, hq⟩ : ∃ q, q = (n : Int) * ((n : Int) + 1) / 2 := ⟨_, rfl⟩
      have HSS : Hid (sumL (pad (stairs n)) = q) := Lib.hid (by rw [sumL_pad, stairs_sum hn, hq])
      have hqb : 0 ≤ q ∧ q ≤ 136 := by omega
      have HFS : Hid (sumFits (pad (stairs n))) := Lib.hid (by
        have key : ∀ n : Nat, n < 17 → ∀ k : Nat, k < 17 → -4611686018427387904 ≤ sumL ((pad (stairs n)).take k) ∧ sumL ((pad (stairs n)).take k) ≤ 4611686018427387904 := by decide +kernel
        intro k hk
        rw [stairs_pad_len hn] at hk
        exact key n (by omega) k (by omega))
      have HV : Hid (kCarry (n : Int) L = decide (q + s ≤ 16)) := Lib.hid (by unfold kCarry; rw [decide_eq_true h1, decide_eq_true h2, ← hq, ← hs]; rfl)
      have d1 : decide (L.length ≤ n) = true := decide_eq_true (by omega)
      have d2 : decide (n ≤ 16) = true := decide_eq_true hn
      have d3 : decide ((n : Int) ≤ 16) = true := decide_eq_true h2
      have hw1 : IntKind.i64.wrap (q + s) = q + s := IntWalk.i64_in _ (by omega)
      clear hv hsb hs hq hmul h1 h2
      go_enter Try.func52, Try.ntmps52
      go_wp2_with fail
      refine wp_region_held_drew (S := fun w' => w'.rangeAt w.heap.size 0 (ints (pad L)) ∧ Below w.heap.size w w') (by kernel_rfl) ⟨hr0, hbel0.trans ((Dr.n _ 1).below _)⟩ (fun hHeld => ?_)
      refine wpAnyH_take (i := 0) (v := _) (by simp only [List.getElem?_toArray, List.getElem?_cons_succ, List.getElem?_cons_zero]; exact rfl) (by kernel_rfl) (by kernel_rfl) (by kernel_rfl) (by intro _ _ _ h; exact h) (yieldsIf_load_mid (by kernel_rfl) _ _ rfl w.heap.size 0 rfl (ints (pad L)) _ (fun _ hw => hw.1) hu rfl hiL') (by assumption) ?_
      simp only [Act.put, List.setIfInBounds_toArray, List.set_cons_zero, List.set_cons_succ, List.toList_toArray]
      refine wpAnyH_take (i := 2) (v := .int .i64 (n : Int)) (by simp only [List.getElem?_toArray, List.getElem?_cons_succ, List.getElem?_cons_zero]; exact rfl) (by kernel_rfl) (by kernel_rfl) (by kernel_rfl) (by intro _ _ _ h; exact h) (Or.inl ⟨by kernel_rfl, by intro w hSw; go_simp⟩) (by assumption) ?_
      simp only [Act.put, List.setIfInBounds_toArray, List.set_cons_zero, List.set_cons_succ, List.toList_toArray]
      refine wpAnyH_ready (rs := [1]) (by kernel_rfl) (by simp) ?_
      refine AllReadyH.cons (o := _) (by simp only [List.getElem?_toArray, List.getElem?_cons_succ, List.getElem?_cons_zero]; exact rfl) (fun K hK => ?_) AllReadyH.nil
      rw [if_pos (by rfl)]
      go_simp
      go_at_call 94
      refine (count_any (pad L) HPL.out _).mono ?_
      rintro e w1 ⟨rfl, hb1⟩
      rw [HC.out]
      refine hK.out _ _ ⟨range_below hHeld.1 hb1, hHeld.2.trans (hb1.mono hHeld.2.size)⟩ (fun hH2 => ?_)
      clear hK K
      try simp only [Act.put, List.setIfInBounds_toArray, List.set_cons_zero, List.set_cons_succ, List.toList_toArray]
      refine wpAnyH_take (i := 3) (v := .bool true) (by simp only [List.getElem?_toArray, List.getElem?_cons_succ, List.getElem?_cons_zero]; exact rfl) (by kernel_rfl) (by kernel_rfl) (by kernel_rfl) (by intro _ _ _ h; exact h) (Or.inl ⟨by kernel_rfl, by intro w hSw; go_simp⟩) (by assumption) ?_
      simp only [Act.put, List.setIfInBounds_toArray, List.set_cons_zero, List.set_cons_succ, List.toList_toArray]
      refine wpAnyH_take (i := 4) (v := .bool true) (by simp only [List.getElem?_toArray, List.getElem?_cons_succ, List.getElem?_cons_zero]; exact rfl) (by kernel_rfl) (by kernel_rfl) (by kernel_rfl) (by intro _ _ _ h; exact h) (Or.inl ⟨by kernel_rfl, by intro w hSw; go_simp⟩) (by assumption) ?_
      simp only [Act.put, List.setIfInBounds_toArray, List.set_cons_zero, List.set_cons_succ, List.toList_toArray]
      refine wpAnyH_take (i := 5) (v := .int .i64 (n : Int)) (by simp only [List.getElem?_toArray, List.getElem?_cons_succ, List.getElem?_cons_zero]; exact rfl) (by kernel_rfl) (by kernel_rfl) (by kernel_rfl) (by intro _ _ _ h; exact h) (Or.inl ⟨by kernel_rfl, by intro w hSw; go_simp⟩) (by assumption) ?_
      simp only [Act.put, List.setIfInBounds_toArray, List.set_cons_zero, List.set_cons_succ, List.toList_toArray]
      refine wpAnyH_take (i := 6) (v := .bool true) (by simp only [List.getElem?_toArray, List.getElem?_cons_succ, List.getElem?_cons_zero]; exact rfl) (by kernel_rfl) (by kernel_rfl) (by kernel_rfl) (by intro _ _ _ h; exact h) (Or.inl ⟨by kernel_rfl, by intro w hSw; go_simp⟩) (by assumption) ?_
      simp only [Act.put, List.setIfInBounds_toArray, List.set_cons_zero, List.set_cons_succ, List.toList_toArray]
      refine wpAnyH_take (i := 7) (v := .bool true) (by simp only [List.getElem?_toArray, List.getElem?_cons_succ, List.getElem?_cons_zero]; exact rfl) (by kernel_rfl) (by kernel_rfl) (by kernel_rfl) (by intro _ _ _ h; exact h) (Or.inl ⟨by kernel_rfl, by intro w hSw; go_simp⟩) (by assumption) ?_
      simp only [Act.put, List.setIfInBounds_toArray, List.set_cons_zero, List.set_cons_succ, List.toList_toArray]
      refine wpAnyH_take (i := 8) (v := .bool true) (by simp only [List.getElem?_toArray, List.getElem?_cons_succ, List.getElem?_cons_zero]; exact rfl) (by kernel_rfl) (by kernel_rfl) (by kernel_rfl) (by intro _ _ _ h; exact h) (Or.inl ⟨by kernel_rfl, by intro w hSw; go_simp⟩) (by assumption) ?_
      simp only [Act.put, List.setIfInBounds_toArray, List.set_cons_zero, List.set_cons_succ, List.toList_toArray]
      refine wpAnyH_take (i := 9) (v := .int .i64 (n : Int)) (by simp only [List.getElem?_toArray, List.getElem?_cons_succ, List.getElem?_cons_zero]; exact rfl) (by kernel_rfl) (by kernel_rfl) (by kernel_rfl) (by intro _ _ _ h; exact h) (Or.inl ⟨by kernel_rfl, by intro w hSw; go_simp⟩) (by assumption) ?_
      simp only [Act.put, List.setIfInBounds_toArray, List.set_cons_zero, List.set_cons_succ, List.toList_toArray]
      refine wpAnyH_take (i := 12) (v := _) (by simp only [List.getElem?_toArray, List.getElem?_cons_succ, List.getElem?_cons_zero]; exact rfl) (by kernel_rfl) (by kernel_rfl) (by kernel_rfl) (by intro _ _ _ h; exact h) (yieldsIf_load_mid (by kernel_rfl) _ _ rfl w.heap.size 0 rfl (ints (pad L)) _ (fun _ hw => hw.1) hu rfl hiL') (by assumption) ?_
      simp only [Act.put, List.setIfInBounds_toArray, List.set_cons_zero, List.set_cons_succ, List.toList_toArray]
      refine wpAnyH_ready (rs := [10]) (by kernel_rfl) (by simp) ?_
      refine AllReadyH.cons (o := _) (by simp only [List.getElem?_toArray, List.getElem?_cons_succ, List.getElem?_cons_zero]; exact rfl) (fun K hK => ?_) AllReadyH.nil
      rw [if_pos (by rfl)]
      go_simp
      go_at_call 93
      refine (sdiag_any n (by omega) _).mono ?_
      rintro e w2 ⟨rfl, hb2⟩
      refine hK.out _ _ ⟨range_below hH2.1 hb2, hH2.2.trans (hb2.mono hH2.2.size)⟩ (fun hH3 => ?_)
      clear hK K
      try simp only [Act.put, List.setIfInBounds_toArray, List.set_cons_zero, List.set_cons_succ, List.toList_toArray]
      refine wpAnyH_ready (rs := [11]) (by kernel_rfl) (by simp) ?_
      refine AllReadyH.cons (o := _) (by simp only [List.getElem?_toArray, List.getElem?_cons_succ, List.getElem?_cons_zero]; exact rfl) (fun K hK => ?_) AllReadyH.nil
      rw [if_pos (by rfl)]
      go_simp
      go_at_call 95
      refine (dsum_any (pad (stairs n)) HPS.out HFS.out _).mono ?_
      rintro e w3 ⟨rfl, hb3⟩
      rw [HSS.out]
      refine hK.out _ _ ⟨range_below hH3.1 hb3, hH3.2.trans (hb3.mono hH3.2.size)⟩ (fun hH4 => ?_)
      clear hK K
      try simp only [Act.put, List.setIfInBounds_toArray, List.set_cons_zero, List.set_cons_succ, List.toList_toArray]
      refine wpAnyH_ready (rs := [13]) (by kernel_rfl) (by simp) ?_
      refine AllReadyH.cons (o := _) (by simp only [List.getElem?_toArray, List.getElem?_cons_succ, List.getElem?_cons_zero]; exact rfl) (fun K hK => ?_) AllReadyH.nil
      rw [if_pos (by rfl)]
      go_simp
      go_at_call 95
      refine (dsum_any (pad L) HPL.out HFL.out _).mono ?_
      rintro e w4 ⟨rfl, hb4⟩
      rw [HSL.out]
      refine hK.out _ _ ⟨range_below hH4.1 hb4, hH4.2.trans (hb4.mono hH4.2.size)⟩ (fun hH5 => ?_)
      clear hK K
      try simp only [Act.put, List.setIfInBounds_toArray, List.set_cons_zero, List.set_cons_succ, List.toList_toArray]
      refine wpAnyH_take (i := 14) (v := .int .i64 (q + s)) (by simp only [List.getElem?_toArray, List.getElem?_cons_succ, List.getElem?_cons_zero]; exact rfl) (by kernel_rfl) (by kernel_rfl) (by kernel_rfl) (by intro _ _ _ h; exact h) (Or.inl ⟨by kernel_rfl, by intro w hSw; go_simp⟩) (by assumption) ?_
      simp only [Act.put, List.setIfInBounds_toArray, List.set_cons_zero, List.set_cons_succ, List.toList_toArray]
      refine wpAnyH_take (i := 15) (v := .bool (decide (q + s ≤ 16))) (by simp only [List.getElem?_toArray, List.getElem?_cons_succ, List.getElem?_cons_zero]; exact rfl) (by kernel_rfl) (by kernel_rfl) (by kernel_rfl) (by intro _ _ _ h; exact h) (Or.inl ⟨by kernel_rfl, by intro w hSw; go_simp⟩) (by assumption) ?_
      simp only [Act.put, List.setIfInBounds_toArray, List.set_cons_zero, List.set_cons_succ, List.toList_toArray]
      refine wpAnyH_take (i := 16) (v := .bool (decide (q + s ≤ 16))) (by simp only [List.getElem?_toArray, List.getElem?_cons_succ, List.getElem?_cons_zero]; exact rfl) (by kernel_rfl) (by kernel_rfl) (by kernel_rfl) (by intro _ _ _ h; exact h) (Or.inl ⟨by kernel_rfl, by intro w hSw; go_simp⟩) (by assumption) ?_
      simp only [Act.put, List.setIfInBounds_toArray, List.set_cons_zero, List.set_cons_succ, List.toList_toArray]
      refine wpAnyH_take (i := 17) (v := .bool (decide (q + s ≤ 16))) (by simp only [List.getElem?_toArray, List.getElem?_cons_succ, List.getElem?_cons_zero]; exact rfl) (by kernel_rfl) (by kernel_rfl) (by kernel_rfl) (by intro _ _ _ h; exact h) (Or.inl ⟨by kernel_rfl, by intro w hSw; go_simp⟩) (by assumption) ?_
      simp only [Act.put, List.setIfInBounds_toArray, List.set_cons_zero, List.set_cons_succ, List.toList_toArray]
      refine wpAnyH_done (by kernel_rfl) ?_ _
      try simp only [Act.put, List.setIfInBounds_toArray, List.set_cons_zero, List.set_cons_succ]
      go_wp2_with fail
      go_ret
      exact ⟨ret_bool HV.out.symm, hH5.2⟩
    · have d1 : decide ((L.length : Int) ≤ k) = true := decide_eq_true h1
      have d2 : decide (k ≤ 16) = false := decide_eq_false h2
      have HV : Hid (kCarry k L = false) := Lib.hid (by unfold kCarry; rw [d2]; simp)
      clear hv hsb hs h1 h2
      go_enter Try.func52, Try.ntmps52
      go_wp2_with fail
      refine wp_region_held_drew (S := fun w' => w'.rangeAt w.heap.size 0 (ints (pad L)) ∧ Below w.heap.size w w') (by kernel_rfl) ⟨hr0, hbel0.trans ((Dr.n _ 1).below _)⟩ (fun hHeld => ?_)
      refine wpAnyH_take (i := 0) (v := _) (by simp only [List.getElem?_toArray, List.getElem?_cons_succ, List.getElem?_cons_zero]; exact rfl) (by kernel_rfl) (by kernel_rfl) (by kernel_rfl) (by intro _ _ _ h; exact h) (yieldsIf_load_mid (by kernel_rfl) _ _ rfl w.heap.size 0 rfl (ints (pad L)) _ (fun _ hw => hw.1) hu rfl hiL') (by assumption) ?_
      simp only [Act.put, List.setIfInBounds_toArray, List.set_cons_zero, List.set_cons_succ, List.toList_toArray]
      refine wpAnyH_take (i := 2) (v := .int .i64 k) (by simp only [List.getElem?_toArray, List.getElem?_cons_succ, List.getElem?_cons_zero]; exact rfl) (by kernel_rfl) (by kernel_rfl) (by kernel_rfl) (by intro _ _ _ h; exact h) (Or.inl ⟨by kernel_rfl, by intro w hSw; go_simp⟩) (by assumption) ?_
      simp only [Act.put, List.setIfInBounds_toArray, List.set_cons_zero, List.set_cons_succ, List.toList_toArray]
      refine wpAnyH_ready (rs := [1]) (by kernel_rfl) (by simp) ?_
      refine AllReadyH.cons (o := _) (by simp only [List.getElem?_toArray, List.getElem?_cons_succ, List.getElem?_cons_zero]; exact rfl) (fun K hK => ?_) AllReadyH.nil
      rw [if_pos (by rfl)]
      go_simp
      go_at_call 94
      refine (count_any (pad L) HPL.out _).mono ?_
      rintro e w1 ⟨rfl, hb1⟩
      rw [HC.out]
      refine hK.out _ _ ⟨range_below hHeld.1 hb1, hHeld.2.trans (hb1.mono hHeld.2.size)⟩ (fun hH2 => ?_)
      clear hK K
      try simp only [Act.put, List.setIfInBounds_toArray, List.set_cons_zero, List.set_cons_succ, List.toList_toArray]
      refine wpAnyH_take (i := 3) (v := .bool true) (by simp only [List.getElem?_toArray, List.getElem?_cons_succ, List.getElem?_cons_zero]; exact rfl) (by kernel_rfl) (by kernel_rfl) (by kernel_rfl) (by intro _ _ _ h; exact h) (Or.inl ⟨by kernel_rfl, by intro w hSw; go_simp⟩) (by assumption) ?_
      simp only [Act.put, List.setIfInBounds_toArray, List.set_cons_zero, List.set_cons_succ, List.toList_toArray]
      refine wpAnyH_take (i := 4) (v := .bool true) (by simp only [List.getElem?_toArray, List.getElem?_cons_succ, List.getElem?_cons_zero]; exact rfl) (by kernel_rfl) (by kernel_rfl) (by kernel_rfl) (by intro _ _ _ h; exact h) (Or.inl ⟨by kernel_rfl, by intro w hSw; go_simp⟩) (by assumption) ?_
      simp only [Act.put, List.setIfInBounds_toArray, List.set_cons_zero, List.set_cons_succ, List.toList_toArray]
      refine wpAnyH_take (i := 5) (v := .int .i64 k) (by simp only [List.getElem?_toArray, List.getElem?_cons_succ, List.getElem?_cons_zero]; exact rfl) (by kernel_rfl) (by kernel_rfl) (by kernel_rfl) (by intro _ _ _ h; exact h) (Or.inl ⟨by kernel_rfl, by intro w hSw; go_simp⟩) (by assumption) ?_
      simp only [Act.put, List.setIfInBounds_toArray, List.set_cons_zero, List.set_cons_succ, List.toList_toArray]
      refine wpAnyH_take (i := 6) (v := .bool false) (by simp only [List.getElem?_toArray, List.getElem?_cons_succ, List.getElem?_cons_zero]; exact rfl) (by kernel_rfl) (by kernel_rfl) (by kernel_rfl) (by intro _ _ _ h; exact h) (Or.inl ⟨by kernel_rfl, by intro w hSw; go_simp⟩) (by assumption) ?_
      simp only [Act.put, List.setIfInBounds_toArray, List.set_cons_zero, List.set_cons_succ, List.toList_toArray]
      refine wpAnyH_take (i := 7) (v := .bool false) (by simp only [List.getElem?_toArray, List.getElem?_cons_succ, List.getElem?_cons_zero]; exact rfl) (by kernel_rfl) (by kernel_rfl) (by kernel_rfl) (by intro _ _ _ h; exact h) (Or.inl ⟨by kernel_rfl, by intro w hSw; go_simp⟩) (by assumption) ?_
      simp only [Act.put, List.setIfInBounds_toArray, List.set_cons_zero, List.set_cons_succ, List.toList_toArray]
      refine wpAnyH_take (i := 8) (v := .bool false) (by simp only [List.getElem?_toArray, List.getElem?_cons_succ, List.getElem?_cons_zero]; exact rfl) (by kernel_rfl) (by kernel_rfl) (by kernel_rfl) (by intro _ _ _ h; exact h) (Or.inl ⟨by kernel_rfl, by intro w hSw; go_simp⟩) (by assumption) ?_
      simp only [Act.put, List.setIfInBounds_toArray, List.set_cons_zero, List.set_cons_succ, List.toList_toArray]
      refine wpAnyH_take (i := 9) (v := undef) (by simp only [List.getElem?_toArray, List.getElem?_cons_succ, List.getElem?_cons_zero]; exact rfl) (by kernel_rfl) (by kernel_rfl) (by kernel_rfl) (by intro _ _ _ h; exact h) (Or.inr ⟨by kernel_rfl, rfl⟩) (by assumption) ?_
      simp only [Act.put, List.setIfInBounds_toArray, List.set_cons_zero, List.set_cons_succ, List.toList_toArray]
      refine wpAnyH_take (i := 10) (v := undef) (by simp only [List.getElem?_toArray, List.getElem?_cons_succ, List.getElem?_cons_zero]; exact rfl) (by kernel_rfl) (by kernel_rfl) (by kernel_rfl) (by intro _ _ _ h; exact h) (Or.inr ⟨by kernel_rfl, rfl⟩) (by assumption) ?_
      simp only [Act.put, List.setIfInBounds_toArray, List.set_cons_zero, List.set_cons_succ, List.toList_toArray]
      refine wpAnyH_take (i := 11) (v := undef) (by simp only [List.getElem?_toArray, List.getElem?_cons_succ, List.getElem?_cons_zero]; exact rfl) (by kernel_rfl) (by kernel_rfl) (by kernel_rfl) (by intro _ _ _ h; exact h) (Or.inr ⟨by kernel_rfl, rfl⟩) (by assumption) ?_
      simp only [Act.put, List.setIfInBounds_toArray, List.set_cons_zero, List.set_cons_succ, List.toList_toArray]
      refine wpAnyH_take (i := 12) (v := undef) (by simp only [List.getElem?_toArray, List.getElem?_cons_succ, List.getElem?_cons_zero]; exact rfl) (by kernel_rfl) (by kernel_rfl) (by kernel_rfl) (by intro _ _ _ h; exact h) (Or.inr ⟨by kernel_rfl, rfl⟩) (by assumption) ?_
      simp only [Act.put, List.setIfInBounds_toArray, List.set_cons_zero, List.set_cons_succ, List.toList_toArray]
      refine wpAnyH_take (i := 13) (v := undef) (by simp only [List.getElem?_toArray, List.getElem?_cons_succ, List.getElem?_cons_zero]; exact rfl) (by kernel_rfl) (by kernel_rfl) (by kernel_rfl) (by intro _ _ _ h; exact h) (Or.inr ⟨by kernel_rfl, rfl⟩) (by assumption) ?_
      simp only [Act.put, List.setIfInBounds_toArray, List.set_cons_zero, List.set_cons_succ, List.toList_toArray]
      refine wpAnyH_take (i := 14) (v := undef) (by simp only [List.getElem?_toArray, List.getElem?_cons_succ, List.getElem?_cons_zero]; exact rfl) (by kernel_rfl) (by kernel_rfl) (by kernel_rfl) (by intro _ _ _ h; exact h) (Or.inr ⟨by kernel_rfl, rfl⟩) (by assumption) ?_
      simp only [Act.put, List.setIfInBounds_toArray, List.set_cons_zero, List.set_cons_succ, List.toList_toArray]
      refine wpAnyH_take (i := 15) (v := undef) (by simp only [List.getElem?_toArray, List.getElem?_cons_succ, List.getElem?_cons_zero]; exact rfl) (by kernel_rfl) (by kernel_rfl) (by kernel_rfl) (by intro _ _ _ h; exact h) (Or.inr ⟨by kernel_rfl, rfl⟩) (by assumption) ?_
      simp only [Act.put, List.setIfInBounds_toArray, List.set_cons_zero, List.set_cons_succ, List.toList_toArray]
      refine wpAnyH_take (i := 16) (v := .bool false) (by simp only [List.getElem?_toArray, List.getElem?_cons_succ, List.getElem?_cons_zero]; exact rfl) (by kernel_rfl) (by kernel_rfl) (by kernel_rfl) (by intro _ _ _ h; exact h) (Or.inl ⟨by kernel_rfl, by intro w hSw; go_simp⟩) (by assumption) ?_
      simp only [Act.put, List.setIfInBounds_toArray, List.set_cons_zero, List.set_cons_succ, List.toList_toArray]
      refine wpAnyH_take (i := 17) (v := .bool false) (by simp only [List.getElem?_toArray, List.getElem?_cons_succ, List.getElem?_cons_zero]; exact rfl) (by kernel_rfl) (by kernel_rfl) (by kernel_rfl) (by intro _ _ _ h; exact h) (Or.inl ⟨by kernel_rfl, by intro w hSw; go_simp⟩) (by assumption) ?_
      simp only [Act.put, List.setIfInBounds_toArray, List.set_cons_zero, List.set_cons_succ, List.toList_toArray]
      refine wpAnyH_done (by kernel_rfl) ?_ _
      try simp only [Act.put, List.setIfInBounds_toArray, List.set_cons_zero, List.set_cons_succ]
      go_wp2_with fail
      go_ret
      exact ⟨ret_bool HV.out.symm, hH2.2⟩
  · have d1 : decide ((L.length : Int) ≤ k) = false := decide_eq_false h1
    have HV : Hid (kCarry k L = false) := Lib.hid (by unfold kCarry; rw [d1]; simp)
    clear hv hsb hs h1
    go_enter Try.func52, Try.ntmps52
    go_wp2_with fail
    refine wp_region_held_drew (S := fun w' => w'.rangeAt w.heap.size 0 (ints (pad L)) ∧ Below w.heap.size w w') (by kernel_rfl) ⟨hr0, hbel0.trans ((Dr.n _ 1).below _)⟩ (fun hHeld => ?_)
    refine wpAnyH_take (i := 0) (v := _) (by simp only [List.getElem?_toArray, List.getElem?_cons_succ, List.getElem?_cons_zero]; exact rfl) (by kernel_rfl) (by kernel_rfl) (by kernel_rfl) (by intro _ _ _ h; exact h) (yieldsIf_load_mid (by kernel_rfl) _ _ rfl w.heap.size 0 rfl (ints (pad L)) _ (fun _ hw => hw.1) hu rfl hiL') (by assumption) ?_
    simp only [Act.put, List.setIfInBounds_toArray, List.set_cons_zero, List.set_cons_succ, List.toList_toArray]
    refine wpAnyH_take (i := 2) (v := .int .i64 k) (by simp only [List.getElem?_toArray, List.getElem?_cons_succ, List.getElem?_cons_zero]; exact rfl) (by kernel_rfl) (by kernel_rfl) (by kernel_rfl) (by intro _ _ _ h; exact h) (Or.inl ⟨by kernel_rfl, by intro w hSw; go_simp⟩) (by assumption) ?_
    simp only [Act.put, List.setIfInBounds_toArray, List.set_cons_zero, List.set_cons_succ, List.toList_toArray]
    refine wpAnyH_ready (rs := [1]) (by kernel_rfl) (by simp) ?_
    refine AllReadyH.cons (o := _) (by simp only [List.getElem?_toArray, List.getElem?_cons_succ, List.getElem?_cons_zero]; exact rfl) (fun K hK => ?_) AllReadyH.nil
    rw [if_pos (by rfl)]
    go_simp
    go_at_call 94
    refine (count_any (pad L) HPL.out _).mono ?_
    rintro e w1 ⟨rfl, hb1⟩
    rw [HC.out]
    refine hK.out _ _ ⟨range_below hHeld.1 hb1, hHeld.2.trans (hb1.mono hHeld.2.size)⟩ (fun hH2 => ?_)
    clear hK K
    try simp only [Act.put, List.setIfInBounds_toArray, List.set_cons_zero, List.set_cons_succ, List.toList_toArray]
    refine wpAnyH_take (i := 3) (v := .bool false) (by simp only [List.getElem?_toArray, List.getElem?_cons_succ, List.getElem?_cons_zero]; exact rfl) (by kernel_rfl) (by kernel_rfl) (by kernel_rfl) (by intro _ _ _ h; exact h) (Or.inl ⟨by kernel_rfl, by intro w hSw; go_simp⟩) (by assumption) ?_
    simp only [Act.put, List.setIfInBounds_toArray, List.set_cons_zero, List.set_cons_succ, List.toList_toArray]
    refine wpAnyH_take (i := 4) (v := .bool false) (by simp only [List.getElem?_toArray, List.getElem?_cons_succ, List.getElem?_cons_zero]; exact rfl) (by kernel_rfl) (by kernel_rfl) (by kernel_rfl) (by intro _ _ _ h; exact h) (Or.inl ⟨by kernel_rfl, by intro w hSw; go_simp⟩) (by assumption) ?_
    simp only [Act.put, List.setIfInBounds_toArray, List.set_cons_zero, List.set_cons_succ, List.toList_toArray]
    refine wpAnyH_take (i := 5) (v := undef) (by simp only [List.getElem?_toArray, List.getElem?_cons_succ, List.getElem?_cons_zero]; exact rfl) (by kernel_rfl) (by kernel_rfl) (by kernel_rfl) (by intro _ _ _ h; exact h) (Or.inr ⟨by kernel_rfl, rfl⟩) (by assumption) ?_
    simp only [Act.put, List.setIfInBounds_toArray, List.set_cons_zero, List.set_cons_succ, List.toList_toArray]
    refine wpAnyH_take (i := 6) (v := undef) (by simp only [List.getElem?_toArray, List.getElem?_cons_succ, List.getElem?_cons_zero]; exact rfl) (by kernel_rfl) (by kernel_rfl) (by kernel_rfl) (by intro _ _ _ h; exact h) (Or.inr ⟨by kernel_rfl, rfl⟩) (by assumption) ?_
    simp only [Act.put, List.setIfInBounds_toArray, List.set_cons_zero, List.set_cons_succ, List.toList_toArray]
    refine wpAnyH_take (i := 7) (v := .bool false) (by simp only [List.getElem?_toArray, List.getElem?_cons_succ, List.getElem?_cons_zero]; exact rfl) (by kernel_rfl) (by kernel_rfl) (by kernel_rfl) (by intro _ _ _ h; exact h) (Or.inl ⟨by kernel_rfl, by intro w hSw; go_simp⟩) (by assumption) ?_
    simp only [Act.put, List.setIfInBounds_toArray, List.set_cons_zero, List.set_cons_succ, List.toList_toArray]
    refine wpAnyH_take (i := 8) (v := .bool false) (by simp only [List.getElem?_toArray, List.getElem?_cons_succ, List.getElem?_cons_zero]; exact rfl) (by kernel_rfl) (by kernel_rfl) (by kernel_rfl) (by intro _ _ _ h; exact h) (Or.inl ⟨by kernel_rfl, by intro w hSw; go_simp⟩) (by assumption) ?_
    simp only [Act.put, List.setIfInBounds_toArray, List.set_cons_zero, List.set_cons_succ, List.toList_toArray]
    refine wpAnyH_take (i := 9) (v := undef) (by simp only [List.getElem?_toArray, List.getElem?_cons_succ, List.getElem?_cons_zero]; exact rfl) (by kernel_rfl) (by kernel_rfl) (by kernel_rfl) (by intro _ _ _ h; exact h) (Or.inr ⟨by kernel_rfl, rfl⟩) (by assumption) ?_
    simp only [Act.put, List.setIfInBounds_toArray, List.set_cons_zero, List.set_cons_succ, List.toList_toArray]
    refine wpAnyH_take (i := 10) (v := undef) (by simp only [List.getElem?_toArray, List.getElem?_cons_succ, List.getElem?_cons_zero]; exact rfl) (by kernel_rfl) (by kernel_rfl) (by kernel_rfl) (by intro _ _ _ h; exact h) (Or.inr ⟨by kernel_rfl, rfl⟩) (by assumption) ?_
    simp only [Act.put, List.setIfInBounds_toArray, List.set_cons_zero, List.set_cons_succ, List.toList_toArray]
    refine wpAnyH_take (i := 11) (v := undef) (by simp only [List.getElem?_toArray, List.getElem?_cons_succ, List.getElem?_cons_zero]; exact rfl) (by kernel_rfl) (by kernel_rfl) (by kernel_rfl) (by intro _ _ _ h; exact h) (Or.inr ⟨by kernel_rfl, rfl⟩) (by assumption) ?_
    simp only [Act.put, List.setIfInBounds_toArray, List.set_cons_zero, List.set_cons_succ, List.toList_toArray]
    refine wpAnyH_take (i := 12) (v := undef) (by simp only [List.getElem?_toArray, List.getElem?_cons_succ, List.getElem?_cons_zero]; exact rfl) (by kernel_rfl) (by kernel_rfl) (by kernel_rfl) (by intro _ _ _ h; exact h) (Or.inr ⟨by kernel_rfl, rfl⟩) (by assumption) ?_
    simp only [Act.put, List.setIfInBounds_toArray, List.set_cons_zero, List.set_cons_succ, List.toList_toArray]
    refine wpAnyH_take (i := 13) (v := undef) (by simp only [List.getElem?_toArray, List.getElem?_cons_succ, List.getElem?_cons_zero]; exact rfl) (by kernel_rfl) (by kernel_rfl) (by kernel_rfl) (by intro _ _ _ h; exact h) (Or.inr ⟨by kernel_rfl, rfl⟩) (by assumption) ?_
    simp only [Act.put, List.setIfInBounds_toArray, List.set_cons_zero, List.set_cons_succ, List.toList_toArray]
    refine wpAnyH_take (i := 14) (v := undef) (by simp only [List.getElem?_toArray, List.getElem?_cons_succ, List.getElem?_cons_zero]; exact rfl) (by kernel_rfl) (by kernel_rfl) (by kernel_rfl) (by intro _ _ _ h; exact h) (Or.inr ⟨by kernel_rfl, rfl⟩) (by assumption) ?_
    simp only [Act.put, List.setIfInBounds_toArray, List.set_cons_zero, List.set_cons_succ, List.toList_toArray]
    refine wpAnyH_take (i := 15) (v := undef) (by simp only [List.getElem?_toArray, List.getElem?_cons_succ, List.getElem?_cons_zero]; exact rfl) (by kernel_rfl) (by kernel_rfl) (by kernel_rfl) (by intro _ _ _ h; exact h) (Or.inr ⟨by kernel_rfl, rfl⟩) (by assumption) ?_
    simp only [Act.put, List.setIfInBounds_toArray, List.set_cons_zero, List.set_cons_succ, List.toList_toArray]
    refine wpAnyH_take (i := 16) (v := .bool false) (by simp only [List.getElem?_toArray, List.getElem?_cons_succ, List.getElem?_cons_zero]; exact rfl) (by kernel_rfl) (by kernel_rfl) (by kernel_rfl) (by intro _ _ _ h; exact h) (Or.inl ⟨by kernel_rfl, by intro w hSw; go_simp⟩) (by assumption) ?_
    simp only [Act.put, List.setIfInBounds_toArray, List.set_cons_zero, List.set_cons_succ, List.toList_toArray]
    refine wpAnyH_take (i := 17) (v := .bool false) (by simp only [List.getElem?_toArray, List.getElem?_cons_succ, List.getElem?_cons_zero]; exact rfl) (by kernel_rfl) (by kernel_rfl) (by kernel_rfl) (by intro _ _ _ h; exact h) (Or.inl ⟨by kernel_rfl, by intro w hSw; go_simp⟩) (by assumption) ?_
    simp only [Act.put, List.setIfInBounds_toArray, List.set_cons_zero, List.set_cons_succ, List.toList_toArray]
    refine wpAnyH_done (by kernel_rfl) ?_ _
    try simp only [Act.put, List.setIfInBounds_toArray, List.set_cons_zero, List.set_cons_succ]
    go_wp2_with fail
    go_ret
    exact ⟨ret_bool HV.out.symm, hH2.2⟩

set_option maxRecDepth 4000 in
set_option maxHeartbeats 1000000 in
theorem stput_any (n : Nat) (L : List Int) (hv : valid L = true) (hk : kCarry (n : Int) L = true) (w : World) :
    Calls Try.prog 53 #[.int .i64 (n : Int), .agg (arr (pad L))] w fun e w' => e = .returned (.agg (arr (pad (stPut L n)))) ∧ Below w.heap.size w w' := by
  have hok : stOk L n = true := by rw [← mp_carry]; unfold mpOk; rw [hv, hk]; rfl
  obtain ⟨h5, htw, hvP, he⟩ := st_put hok
  have hn : n ≤ 16 := by omega
  have HAD : Hid (amid (pad L) (pad (stairs n)) 16 = pad (stPut L n)) := Lib.hid (by
    rw [he, ← amid_end htw]
    unfold amid
    simp only [pad_getD (valid_bd hv).2.2.2, stairs_pad_getD hn, stairs_getD])
  have hlL := (valid_bd hv).2.2.2
  have hlPP := (valid_bd hvP).2.2.2
  have HPL := Lib.hid (pad_len hlL)
  have HPS := Lib.hid (stairs_pad_len hn)
  have HBD : Hid (∀ i, (0 ≤ (pad L).getD i 0 ∧ (pad L).getD i 0 ≤ 1000) ∧ (0 ≤ (pad (stairs n)).getD i 0 ∧ (pad (stairs n)).getD i 0 ≤ 1000)) := Lib.hid fun i => by
    rw [pad_getD hlL, stairs_pad_getD hn]
    have := getD_nn hv i
    refine ⟨by omega, ?_⟩
    split <;> omega
  have hu := Try.underlying55
  have hiLi : (Try.prog.info? 55).map (·.size) = some (ints (pad L)).length := by rw [List.length_map, pad_len hlL]; exact T_info35
  have hlLi : (ints (pad L)).length = 16 := by rw [List.length_map, pad_len hlL]
  have hzLi : (ints (pad L)).toArray.size = 16 := by rw [List.size_toArray]; exact hlLi
  have h1Li := ints_one (pad L)
  have hiP : (Try.prog.info? 55).map (·.size) = some (ints (pad (stPut L n))).length := by rw [List.length_map, pad_len hlPP]; exact T_info35
  have hlP : (ints (pad (stPut L n))).length = 16 := by rw [List.length_map, pad_len hlPP]
  have hzP : (ints (pad (stPut L n))).toArray.size = 16 := by rw [List.size_toArray]; exact hlP
  have h1P := ints_one (pad (stPut L n))
  obtain ⟨wA, hwA⟩ : ∃ wA, wA = (w.alloc (.cells (arr (pad L)) 55)).alloc (.cells (#[.int .i64 0, .int .i64 0, .int .i64 0, .int .i64 0, .int .i64 0, .int .i64 0, .int .i64 0, .int .i64 0, .int .i64 0, .int .i64 0, .int .i64 0, .int .i64 0, .int .i64 0, .int .i64 0, .int .i64 0, .int .i64 0]) 55) := ⟨_, rfl⟩
  have k0 : Blk wA w.heap.size 55 (arr (pad L)) := by rw [hwA]; exact (Blk.new w 55 (arr (pad L))).alloc _
  have k1 : Blk wA (w.heap.size + 1) 55 (arr (List.replicate 16 0)) := by
    rw [hwA]
    have e := Blk.new (w.alloc (.cells (arr (pad L)) 55)) 55 (arr (List.replicate 16 0))
    rw [World.size_alloc] at e
    exact e
  have hbel0 : Below w.heap.size w wA := by
    rw [hwA]
    exact ((Below.refl _ _).alloc (Nat.le_refl _) _).alloc (by simp) _
  have r0 : wA.rangeAt w.heap.size 0 (ints (pad L)) := Blk.range (vs := ints (pad L)) k0
  have t2 := k1.there
  clear k0 k1 
  go_enter Try.func53, Try.ntmps53
  go_wp2_with fail
  rw [← hwA]
  clear hwA
  refine wp_region_held_drew (S := (fun w' => w'.rangeAt w.heap.size 0 (ints (pad L)) ∧ w'.there (w.heap.size + 1) 0 16 ∧ Below w.heap.size w w')) (by kernel_rfl) ⟨r0, t2, hbel0.trans ((Dr.n wA 1).below _)⟩ (fun hHeld => ?_)
  refine wpAnyH_take (i := 0) (v := _) (by simp only [List.getElem?_toArray, List.getElem?_cons_succ, List.getElem?_cons_zero]; exact rfl) (by kernel_rfl) (by kernel_rfl) (by kernel_rfl) (by intro _ _ _ h; exact h) (yieldsIf_load_mid (by kernel_rfl) _ _ rfl w.heap.size 0 rfl (ints (pad L)) _ (fun _ hw => hw.1) hu rfl hiLi) (by assumption) ?_
  simp only [Act.put, List.setIfInBounds_toArray, List.set_cons_zero, List.set_cons_succ, List.toList_toArray]
  refine wpAnyH_take (i := 1) (v := .int .i64 (n : Int)) (by simp only [List.getElem?_toArray, List.getElem?_cons_succ, List.getElem?_cons_zero]; exact rfl) (by kernel_rfl) (by kernel_rfl) (by kernel_rfl) (by intro _ _ _ h; exact h) (Or.inl ⟨by kernel_rfl, by intro w hSw; go_simp⟩) (by assumption) ?_
  simp only [Act.put, List.setIfInBounds_toArray, List.set_cons_zero, List.set_cons_succ, List.toList_toArray]
  refine wpAnyH_ready (rs := [2]) (by kernel_rfl) (by simp) ?_
  refine AllReadyH.cons (o := _) (by simp only [List.getElem?_toArray, List.getElem?_cons_succ, List.getElem?_cons_zero]; exact rfl) (fun K hK => ?_) AllReadyH.nil
  rw [if_pos (by rfl)]
  go_simp
  go_at_call 93
  refine (sdiag_any n hn _).mono ?_
  rintro e w5 ⟨rfl, hbd⟩
  refine hK.out _ _ ⟨range_below hHeld.1 hbd, there_below hHeld.2.1 hbd, hHeld.2.2.trans (hbd.mono hHeld.2.2.size)⟩ (fun hH2 => ?_)
  clear hK K
  try simp only [Act.put, List.setIfInBounds_toArray, List.set_cons_zero, List.set_cons_succ, List.toList_toArray]
  refine wpAnyH_ready (rs := [3]) (by kernel_rfl) (by simp) ?_
  refine AllReadyH.cons (o := _) (by simp only [List.getElem?_toArray, List.getElem?_cons_succ, List.getElem?_cons_zero]; exact rfl) (fun K hK => ?_) AllReadyH.nil
  rw [if_pos (by rfl)]
  go_simp
  go_at_call 96
  refine (plus_any (pad L) (pad (stairs n)) HPL.out HPS.out HBD.out _).mono ?_
  rintro e w6 ⟨rfl, hbd⟩
  rw [HAD.out]
  refine hK.out _ _ ⟨range_below hH2.1 hbd, there_below hH2.2.1 hbd, hH2.2.2.trans (hbd.mono hH2.2.2.size)⟩ (fun hH3 => ?_)
  clear hK K
  try simp only [Act.put, List.setIfInBounds_toArray, List.set_cons_zero, List.set_cons_succ, List.toList_toArray]
  refine wpAnyH_ready (rs := [4]) (by kernel_rfl) (by simp) ?_
  refine AllReadyH.cons (o := _) (by simp only [List.getElem?_toArray, List.getElem?_cons_succ, List.getElem?_cons_zero]; exact rfl) (fun K hK => ?_) AllReadyH.nil
  rw [if_pos (by rfl)]
  refine wp_store_mid _ _ _ rfl (w.heap.size + 1) 0 (ints (pad (stPut L n))).toArray rfl rfl (by rw [hzP]; exact hH3.2.1) (by rw [hzP]; exact T_info35) (all_oneCell_toArray h1P) ?_
  simp only [Act.put, List.setIfInBounds_toArray, List.set_cons_zero, List.set_cons_succ, List.toList_toArray]
  refine hK.out _ _ ⟨World.rangeAt_setCells_apart hH3.1 _ _ _ (.inl (by omega)), World.there_setCells hH3.2.1 _ _ _, below_setCells (Nat.le_succ _) _ _ _ _ hH3.2.2⟩ (fun hT => ?_)
  clear hK K
  try simp only [Act.put, List.setIfInBounds_toArray, List.set_cons_zero, List.set_cons_succ, List.toList_toArray]
  refine wpAnyH_done (by kernel_rfl) ?_ _
  try simp only [Act.put, List.setIfInBounds_toArray, List.set_cons_zero, List.set_cons_succ]
  have rA := World.rangeAt_setCells_same _ (w.heap.size + 1) 0 (ints (pad (stPut L n))) (by rw [hlP]; exact hH3.2.1)
  go_wp2_with fail
  refine bodyPost_ret (res_1cell rfl _ _ (w.heap.size + 1) (ints (pad (stPut L n))) _ rfl rA hu rfl hiP) rfl ?_
  exact ⟨rfl, hT.2.2⟩

set_option maxRecDepth 4000 in
set_option maxHeartbeats 1000000 in
theorem stcut_any (n : Nat) (L : List Int) (hd : dis L = true) (hnl : n = L.length) (w : World) :
    Calls Try.prog 51 #[.int .i64 (n : Int), .agg (arr (pad L))] w fun e w' => e = .returned (.agg (arr (pad (stCut L)))) ∧ Below w.heap.size w w' := by
  have hv : valid L = true := ((dis_iff L).1 hd).1
  obtain ⟨hvP, hpa, -, -, h5⟩ := st_facts hd
  have hn : n ≤ 16 := by omega
  have HAD : Hid (amid (pad L) (neg (pad (stairs n))) 16 = pad (stCut L)) := Lib.hid (by
    rw [hpa]
    unfold amid stArr
    apply List.map_congr_left
    intro j hj
    have hj16 := List.mem_range.1 hj
    rw [if_pos hj16, pad_getD (valid_bd hv).2.2.2, neg_getD, stairs_pad_getD hn]
    by_cases hjl : j < L.length
    · rw [if_pos (by omega), if_pos hjl]; omega
    · rw [if_neg (by omega), if_neg hjl, getD_ge (by omega)]; rfl)
  have hlL := (valid_bd hv).2.2.2
  have hlPP := (valid_bd hvP).2.2.2
  have HPL := Lib.hid (pad_len hlL)
  have HPS := Lib.hid (stairs_pad_len hn)
  have HBD : Hid (∀ i, (0 ≤ (pad L).getD i 0 ∧ (pad L).getD i 0 ≤ 1000) ∧ (0 ≤ (pad (stairs n)).getD i 0 ∧ (pad (stairs n)).getD i 0 ≤ 1000)) := Lib.hid fun i => by
    rw [pad_getD hlL, stairs_pad_getD hn]
    have := getD_nn hv i
    refine ⟨by omega, ?_⟩
    split <;> omega
  have hu := Try.underlying55
  have hiLi : (Try.prog.info? 55).map (·.size) = some (ints (pad L)).length := by rw [List.length_map, pad_len hlL]; exact T_info35
  have hlLi : (ints (pad L)).length = 16 := by rw [List.length_map, pad_len hlL]
  have hzLi : (ints (pad L)).toArray.size = 16 := by rw [List.size_toArray]; exact hlLi
  have h1Li := ints_one (pad L)
  have hiP : (Try.prog.info? 55).map (·.size) = some (ints (pad (stCut L))).length := by rw [List.length_map, pad_len hlPP]; exact T_info35
  have hlP : (ints (pad (stCut L))).length = 16 := by rw [List.length_map, pad_len hlPP]
  have hzP : (ints (pad (stCut L))).toArray.size = 16 := by rw [List.size_toArray]; exact hlP
  have h1P := ints_one (pad (stCut L))
  obtain ⟨wA, hwA⟩ : ∃ wA, wA = (w.alloc (.cells (arr (pad L)) 55)).alloc (.cells (#[.int .i64 0, .int .i64 0, .int .i64 0, .int .i64 0, .int .i64 0, .int .i64 0, .int .i64 0, .int .i64 0, .int .i64 0, .int .i64 0, .int .i64 0, .int .i64 0, .int .i64 0, .int .i64 0, .int .i64 0, .int .i64 0]) 55) := ⟨_, rfl⟩
  have k0 : Blk wA w.heap.size 55 (arr (pad L)) := by rw [hwA]; exact (Blk.new w 55 (arr (pad L))).alloc _
  have k1 : Blk wA (w.heap.size + 1) 55 (arr (List.replicate 16 0)) := by
    rw [hwA]
    have e := Blk.new (w.alloc (.cells (arr (pad L)) 55)) 55 (arr (List.replicate 16 0))
    rw [World.size_alloc] at e
    exact e
  have hbel0 : Below w.heap.size w wA := by
    rw [hwA]
    exact ((Below.refl _ _).alloc (Nat.le_refl _) _).alloc (by simp) _
  have r0 : wA.rangeAt w.heap.size 0 (ints (pad L)) := Blk.range (vs := ints (pad L)) k0
  have t2 := k1.there
  clear k0 k1 hnl hpa hd
  go_enter Try.func51, Try.ntmps51
  go_wp2_with fail
  rw [← hwA]
  clear hwA
  refine wp_region_held_drew (S := (fun w' => w'.rangeAt w.heap.size 0 (ints (pad L)) ∧ w'.there (w.heap.size + 1) 0 16 ∧ Below w.heap.size w w')) (by kernel_rfl) ⟨r0, t2, hbel0.trans ((Dr.n wA 1).below _)⟩ (fun hHeld => ?_)
  refine wpAnyH_take (i := 0) (v := _) (by simp only [List.getElem?_toArray, List.getElem?_cons_succ, List.getElem?_cons_zero]; exact rfl) (by kernel_rfl) (by kernel_rfl) (by kernel_rfl) (by intro _ _ _ h; exact h) (yieldsIf_load_mid (by kernel_rfl) _ _ rfl w.heap.size 0 rfl (ints (pad L)) _ (fun _ hw => hw.1) hu rfl hiLi) (by assumption) ?_
  simp only [Act.put, List.setIfInBounds_toArray, List.set_cons_zero, List.set_cons_succ, List.toList_toArray]
  refine wpAnyH_take (i := 1) (v := .int .i64 (n : Int)) (by simp only [List.getElem?_toArray, List.getElem?_cons_succ, List.getElem?_cons_zero]; exact rfl) (by kernel_rfl) (by kernel_rfl) (by kernel_rfl) (by intro _ _ _ h; exact h) (Or.inl ⟨by kernel_rfl, by intro w hSw; go_simp⟩) (by assumption) ?_
  simp only [Act.put, List.setIfInBounds_toArray, List.set_cons_zero, List.set_cons_succ, List.toList_toArray]
  refine wpAnyH_ready (rs := [2]) (by kernel_rfl) (by simp) ?_
  refine AllReadyH.cons (o := _) (by simp only [List.getElem?_toArray, List.getElem?_cons_succ, List.getElem?_cons_zero]; exact rfl) (fun K hK => ?_) AllReadyH.nil
  rw [if_pos (by rfl)]
  go_simp
  go_at_call 93
  refine (sdiag_any n hn _).mono ?_
  rintro e w5 ⟨rfl, hbd⟩
  refine hK.out _ _ ⟨range_below hHeld.1 hbd, there_below hHeld.2.1 hbd, hHeld.2.2.trans (hbd.mono hHeld.2.2.size)⟩ (fun hH2 => ?_)
  clear hK K
  try simp only [Act.put, List.setIfInBounds_toArray, List.set_cons_zero, List.set_cons_succ, List.toList_toArray]
  refine wpAnyH_ready (rs := [3]) (by kernel_rfl) (by simp) ?_
  refine AllReadyH.cons (o := _) (by simp only [List.getElem?_toArray, List.getElem?_cons_succ, List.getElem?_cons_zero]; exact rfl) (fun K hK => ?_) AllReadyH.nil
  rw [if_pos (by rfl)]
  go_simp
  go_at_call 92
  refine (minus_any (pad L) (pad (stairs n)) HPL.out HPS.out HBD.out _).mono ?_
  rintro e w6 ⟨rfl, hbd⟩
  rw [HAD.out]
  refine hK.out _ _ ⟨range_below hH2.1 hbd, there_below hH2.2.1 hbd, hH2.2.2.trans (hbd.mono hH2.2.2.size)⟩ (fun hH3 => ?_)
  clear hK K
  try simp only [Act.put, List.setIfInBounds_toArray, List.set_cons_zero, List.set_cons_succ, List.toList_toArray]
  refine wpAnyH_ready (rs := [4]) (by kernel_rfl) (by simp) ?_
  refine AllReadyH.cons (o := _) (by simp only [List.getElem?_toArray, List.getElem?_cons_succ, List.getElem?_cons_zero]; exact rfl) (fun K hK => ?_) AllReadyH.nil
  rw [if_pos (by rfl)]
  refine wp_store_mid _ _ _ rfl (w.heap.size + 1) 0 (ints (pad (stCut L))).toArray rfl rfl (by rw [hzP]; exact hH3.2.1) (by rw [hzP]; exact T_info35) (all_oneCell_toArray h1P) ?_
  simp only [Act.put, List.setIfInBounds_toArray, List.set_cons_zero, List.set_cons_succ, List.toList_toArray]
  refine hK.out _ _ ⟨World.rangeAt_setCells_apart hH3.1 _ _ _ (.inl (by omega)), World.there_setCells hH3.2.1 _ _ _, below_setCells (Nat.le_succ _) _ _ _ _ hH3.2.2⟩ (fun hT => ?_)
  clear hK K
  try simp only [Act.put, List.setIfInBounds_toArray, List.set_cons_zero, List.set_cons_succ, List.toList_toArray]
  refine wpAnyH_done (by kernel_rfl) ?_ _
  try simp only [Act.put, List.setIfInBounds_toArray, List.set_cons_zero, List.set_cons_succ]
  have rA := World.rangeAt_setCells_same _ (w.heap.size + 1) 0 (ints (pad (stCut L))) (by rw [hlP]; exact hH3.2.1)
  go_wp2_with fail
  refine bodyPost_ret (res_1cell rfl _ _ (w.heap.size + 1) (ints (pad (stCut L))) _ rfl rA hu rfl hiP) rfl ?_
  exact ⟨rfl, hT.2.2⟩

theorem carryK (k : Int) (w : World) : IsK w (.func (.func 52) #[.int .i64 k] #[]) (kCarry k) :=
  ⟨_, _, _, rfl, enters_of Try.func52 (by kernel_rfl) rfl, fun w1 _ L hv => by have := mayCarry_any k L hv w1; simpa using this⟩
theorem putWay (k : Int) (w : World) : IsWay w (.func (.func 53) #[.int .i64 k] #[]) (kCarry k) (fun L => stPut L k) :=
  ⟨_, _, _, rfl, enters_of Try.func53 (by kernel_rfl) rfl, fun w1 _ L hv hk => by
    have h0 : 0 ≤ k := by
      have h1 : (L.length : Int) ≤ k := by
        unfold kCarry at hk
        simp only [Bool.and_eq_true, decide_eq_true_eq] at hk
        exact hk.1
      omega
    obtain ⟨n, rfl⟩ := Int.eq_ofNat_of_zero_le h0
    have := stput_any n L hv hk w1
    simpa using this⟩
set_option maxHeartbeats 1000000 in
theorem iStairPut_any (a : Option Addr) (c B : Nat) (P : List Int) (k : Int) (w : World) (h : Rd w B a (ints P)) (hB : B ≤ w.heap.size) (hl : P.length ≤ 4611686018427387904) :
    Calls Try.prog 25 #[.slice a P.length c, .int .i64 k] w fun e w' => ∃ a' c', e = .returned (.tuple #[.slice a' (stPutF P k).length c', .bool (stOk P k)]) ∧ Own w' w.heap.size w'.heap.size 3 (.slice a' (stPutF P k).length c') (ints (stPutF P k)) ∧ Below w.heap.size w w' := by
  have hmf : ∀ (fn : Fn) (first cap : Array Value) (w : World), (Instr.makeFunc fn first cap).run Try.prog w = .ok (.func fn first cap) w := fun _ _ _ _ => rfl
  have hvF : valid P = true → kCarry k P = true → valid (stPut P k) = true := fun hv hk => by
    have hok : stOk P k = true := by rw [← mp_carry]; unfold mpOk; rw [hv, hk]; rfl
    have h1 := (stOk_iff _ _).1 hok
    obtain ⟨n, rfl⟩ := Int.eq_ofNat_of_zero_le (show 0 ≤ k by omega)
    exact (st_put hok).2.2.1
  have e1 : mpF (kCarry k) (fun L => stPut L k) P = stPutF P k := by unfold mpF stPutF; rw [mp_carry]
  go_enter Try.func25, Try.ntmps25
  go_wp2_with (go_at_call 49; refine (mapped_any _ _ B P _ _ (kCarry k) (fun L => stPut L k) hvF _ (carryK k _) ((putWay k _).at_ P) h hB hl).mono ?_; rintro e w1 ⟨a', c', rfl, ho1, hb1⟩; rw [e1] at ho1 ⊢; rw [mp_carry])
  go_ret2
  exact ⟨a', c', rfl, ho1, hb1⟩

theorem cutWay (P : List Int) (w : World) : IsWay w (.func (.func 51) #[.int .i64 (P.length : Int)] #[]) (fun L => decide (L = P) && kFall 1 1 L) stCut :=
  ⟨_, _, _, rfl, enters_of Try.func51 (by kernel_rfl) rfl, fun w1 _ L hv hk => by
    rw [Bool.and_eq_true, decide_eq_true_eq] at hk
    obtain ⟨rfl, hk⟩ := hk
    have := stcut_any L.length L ((dis_iff L).2 ⟨hv, hk⟩) rfl w1
    simpa using this⟩
set_option maxHeartbeats 2000000 in
theorem iStairCut_any (a : Option Addr) (c B : Nat) (P : List Int) (w : World) (h : Rd w B a (ints P)) (hB : B ≤ w.heap.size) (hl : P.length ≤ 4611686018427387904) :
    Calls Try.prog 19 #[.slice a P.length c] w fun e w' => ∃ a' c', e = .returned (.tuple #[.slice a' (stCutF P).length c', .int .i64 (stN P), .bool (dis P)]) ∧ Own w' w.heap.size w'.heap.size 3 (.slice a' (stCutF P).length c') (ints (stCutF P)) ∧ Below w.heap.size w w' := by
  have hmf : ∀ (fn : Fn) (first cap : Array Value) (w : World), (Instr.makeFunc fn first cap).run Try.prog w = .ok (.func fn first cap) w := fun _ _ _ _ => rfl
  have hvF : valid P = true → kFall 1 1 P = true → valid (stCut P) = true := fun hv hk => (st_facts ((dis_iff P).2 ⟨hv, hk⟩)).1
  have e1 : mpF (kFall 1 1) stCut P = stCutF P := rfl
  have e2 : mpOk (kFall 1 1) P = dis P := rfl
  obtain ⟨d, hd⟩ : ∃ d, d = dis P := ⟨_, rfl⟩
  have HD := Lib.hid hd
  have HN : Hid (stN P = if d then (P.length : Int) else 0) := Lib.hid (by rw [hd]; rfl)
  rw [← hd, HN.out]
  cases d with
  | true =>
    clear hd
    go_enter Try.func19, Try.ntmps19
    go_wp2_with (first
      | (go_at_call 49; refine (mapped_any _ _ B P _ _ (kFall 1 1) stCut hvF _ hik.isK (cutWay P _) (h.below (hb1.mono hB)) (Nat.le_trans hB hb1.size) hl).mono ?_; rintro e w2 ⟨a', c', rfl, ho2, hb2⟩; rw [e1] at ho2 ⊢; rw [e2, ← HD.out])
      | (go_at_call 50; refine (kindsByName_any _).mono ?_; rintro e w1 ⟨b, n, f, rfl, km, kt, hb1⟩; have kt0 := kt [100, 105, 115, 116, 105, 110, 99, 116]; rw [kindOf_distinct] at kt0; obtain ⟨v, hfv, hik⟩ := kt0; have hlk := km.look ⟨#[100, 105, 115, 116, 105, 110, 99, 116]⟩ (by decide) hfv))
    go_ret3
    exact ⟨a', c', rfl, ho2.lower hb1.size, hb1.trans (hb2.mono hb1.size)⟩
  | false =>
    have e3 : stCutF P = [] := stCutF_no hd.symm
    rw [e3]
    clear hd
    go_enter Try.func19, Try.ntmps19
    go_wp2_with (first
      | (go_at_call 49; refine (mapped_any _ _ B P _ _ (kFall 1 1) stCut hvF _ hik.isK (cutWay P _) (h.below (hb1.mono hB)) (Nat.le_trans hB hb1.size) hl).mono ?_; rintro e w2 ⟨a', c', rfl, ho2, hb2⟩; rw [e2, ← HD.out])
      | (go_at_call 50; refine (kindsByName_any _).mono ?_; rintro e w1 ⟨b, n, f, rfl, km, kt, hb1⟩; have kt0 := kt [100, 105, 115, 116, 105, 110, 99, 116]; rw [kindOf_distinct] at kt0; obtain ⟨v, hfv, hik⟩ := kt0; have hlk := km.look ⟨#[100, 105, 115, 116, 105, 110, 99, 116]⟩ (by decide) hfv))
    go_ret3
    exact ⟨none, 0, rfl, own_nil0 _ _ _, hb1.trans (hb2.mono hb1.size)⟩
end Go.Proofs.Ytdoihndifaebcaa
