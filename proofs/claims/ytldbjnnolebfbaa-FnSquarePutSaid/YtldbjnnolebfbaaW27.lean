/-
  Walks of the program: SquareCut, SquarePut.
-/
import Derived.Test.YtldbjnnolebfbaaW26
namespace Go.Proofs.Ytldbjnnolebfbaa
open Go.RowKit NP
set_option linter.unusedVariables false
set_option linter.unusedSimpArgs false
theorem lowOf_pad {L : List Int} {n : Nat} (hn : n ≤ L.length) (hl : L.length ≤ 16) : lowOf (pad L) n = pad (L.drop n) := by
  unfold lowOf pad
  rw [List.drop_append_of_le_length hn, List.append_assoc, List.replicate_append_replicate, List.length_drop]
  congr 2
  omega
theorem amid_sq {L : List Int} (hl : L.length ≤ 16) (hn : durS L ≤ L.length) : amid (rowsOf (pad L) (durS L)) (neg (pad (sqs (durS L)))) 16 = sqArr L := by
  unfold amid sqArr
  apply List.map_congr_left
  intro j hj
  have hj16 := List.mem_range.1 hj
  rw [if_pos hj16, rowsOf_getD _ _ _ (by rw [pad_len hl]; omega), neg_getD, pad_getD hl, pad_getD (by simp [sqs]; omega), sqs_getD]
  split <;> omega

set_option maxHeartbeats 4000000 in
theorem iSquareCut_any (a : Option Addr) (c B : Nat) (L : List Int) (w : World) (h : Rd w B a (ints L)) (hB : B ≤ w.heap.size) (hl : L.length ≤ 4611686018427387904) :
    Calls Try.prog 24 #[.slice a L.length c] w fun e w' => ∃ a1 c1 a2 c2 md, e = .returned (.tuple #[.int .i64 (sqD L), .slice a1 (sqRF L).length c1, .slice a2 (sqBF L).length c2]) ∧ Own w' w.heap.size md 3 (.slice a1 (sqRF L).length c1) (ints (sqRF L)) ∧ Own w' md w'.heap.size 3 (.slice a2 (sqBF L).length c2) (ints (sqBF L)) ∧ w.heap.size ≤ md ∧ md ≤ w'.heap.size ∧ Below w.heap.size w w' := by
  cases hv : valid L with
  | true =>
    have hl16 := (valid_bd hv).2.2.2
    have hpl := pad_len hl16
    have hi16 : (Try.prog.info? 40).map (·.size) = some (arr (pad L)).size := by rw [arr_size, hpl]; exact T_info35
    have hsz : (arr (pad L)).size = (arr (List.replicate 16 0)).size := by rw [arr_size, arr_size, hpl]; rfl
    have HD := Lib.hid (dg_yes hv)
    have HV := Lib.hid hv
    have HPL := Lib.hid hpl
    clear hpl
    obtain ⟨hvR, hvB, hpR, _⟩ := sq_facts hv
    have hdl := (durS_spec L).1
    have hn4 : durS L ≤ 4 := sq4 (x := 0) (by omega) (by have := durS_sq hv; have := valid_bd hv; omega)
    have HDU := Lib.hid (durD_pad hv)
    have HA : Hid (amid (rowsOf (pad L) (durS L)) (neg (pad (sqs (durS L)))) 16 = pad (sqR L)) := Lib.hid (by rw [hpR]; exact amid_sq hl16 hdl)
    have HLO : Hid (lowOf (pad L) (durS L) = pad (sqB L)) := Lib.hid (lowOf_pad hdl hl16)
    have HPB : Hid (∀ i, 0 ≤ (pad L).getD i 0 ∧ (pad L).getD i 0 ≤ 1000) := Lib.hid fun i => by
      rw [pad_getD hl16]
      have := getD_nn hv i
      omega
    have HVR := Lib.hid hvR
    have HVB := Lib.hid hvB
    have HF1 := Lib.hid (sqD_yes hv)
    have HF2 := Lib.hid (sqRF_yes hv)
    have HF3 := Lib.hid (sqBF_yes hv)
    have hlR := (valid_bd hvR).2.2.2
    have hlB := (valid_bd hvB).2.2.2
    have hiR : (Try.prog.info? 40).map (·.size) = some (arr (pad (sqR L))).size := by rw [arr_size, pad_len hlR]; exact T_info35
    have hsR : (arr (pad (sqR L))).size = (arr (List.replicate 16 0)).size := by rw [arr_size, arr_size, pad_len hlR]; rfl
    have hiB : (Try.prog.info? 40).map (·.size) = some (arr (pad (sqB L))).size := by rw [arr_size, pad_len hlB]; exact T_info35
    have hsB : (arr (pad (sqB L))).size = (arr (List.replicate 16 0)).size := by rw [arr_size, arr_size, pad_len hlB]; rfl
    have hu := Try.underlying40
    have hiRi : (Try.prog.info? 40).map (·.size) = some (ints (pad (sqR L))).length := by rw [List.length_map, pad_len hlR]; exact T_info35
    have hlRi : (ints (pad (sqR L))).length = 16 := by rw [List.length_map, pad_len hlR]
    have hzRi : (ints (pad (sqR L))).toArray.size = 16 := by rw [List.size_toArray]; exact hlRi
    have h1Ri := ints_one (pad (sqR L))
    have hiBi : (Try.prog.info? 40).map (·.size) = some (ints (pad (sqB L))).length := by rw [List.length_map, pad_len hlB]; exact T_info35
    have hlBi : (ints (pad (sqB L))).length = 16 := by rw [List.length_map, pad_len hlB]
    have hzBi : (ints (pad (sqB L))).toArray.size = 16 := by rw [List.size_toArray]; exact hlBi
    have h1Bi := ints_one (pad (sqB L))
    clear hv hvR hvB hpR hdl
    go_enter Try.func24, Try.ntmps24
    go_wp2_with (first
      | (go_at_call 34; refine (diagramOf_any _ _ B L _ h hB hl).mono ?_; rintro e w1 ⟨rfl, hb1⟩; rw [HD.out, HV.out])
      | (refine wpList_store_row rfl 40 (.tmp 5) (.tmp 13) rfl w1.heap.size rfl (arr (pad L)) rfl 40 (arr (List.replicate 16 0)) (Blk.new w1 _ _) hi16 hsz (arr_one _) ?_; have hb2 := (Blk.new w1 40 (arr (List.replicate 16 0))).row (vs := arr (pad L)); have hbel2 : Below w.heap.size w ((w1.alloc (.cells (arr (List.replicate 16 0)) 40)).setRow w1.heap.size (arr (pad L))) := below_setRow' (hb1.alloc hb1.size _) (by exact hb1.size) _; obtain ⟨w2, hw2⟩ : ∃ w2, w2 = (w1.alloc (.cells (#[.int .i64 0, .int .i64 0, .int .i64 0, .int .i64 0, .int .i64 0, .int .i64 0, .int .i64 0, .int .i64 0, .int .i64 0, .int .i64 0, .int .i64 0, .int .i64 0, .int .i64 0, .int .i64 0, .int .i64 0, .int .i64 0]) 40)).setRow w1.heap.size (arr (pad L)) := ⟨_, rfl⟩; rw [← hw2]; replace hb2 : Blk w2 w1.heap.size 40 (arr (pad L)) := hw2 ▸ hb2; replace hbel2 : Below w.heap.size w w2 := hw2 ▸ hbel2; clear hw2)
      | (go_at_call 44; refine (durfee_any (pad L) HPL.out _).mono ?_; rintro e w3 ⟨rfl, hb3⟩; rw [HDU.out]; have hb3k := hb2.below hb3 hb2.lt; have hbel3 := hbel2.trans (hb3.mono hbel2.size))
      | (go_at_call 45; refine (sqcut_any (durS L) hn4 (pad L) HPL.out HPB.out _).mono ?_; rintro e w4 ⟨rfl, hb4⟩; rw [HA.out, HLO.out]; have hbel4 := hbel3.trans (hb4.mono hbel3.size))
      | (refine wpList_store_row rfl 40 (.tmp 8) (.tmp 23) rfl w4.heap.size rfl (arr (pad (sqR L))) rfl 40 (arr (List.replicate 16 0)) ((Blk.new w4 _ _).alloc _) hiR hsR (arr_one _) ?_)
      | (refine wpList_store_row rfl 40 (.tmp 9) (.tmp 24) rfl (w4.heap.size + 1) rfl (arr (pad (sqB L))) rfl 40 (arr (List.replicate 16 0)) (first_row w4 _ _ _) hiB hsB (arr_one _) ?_; have hR := two_rows w4 40 (arr (List.replicate 16 0)) (arr (pad (sqR L))) (arr (pad (sqB L))); obtain ⟨w5, hw2⟩ : ∃ w5, w5 = (((w4.alloc (.cells (#[.int .i64 0, .int .i64 0, .int .i64 0, .int .i64 0, .int .i64 0, .int .i64 0, .int .i64 0, .int .i64 0, .int .i64 0, .int .i64 0, .int .i64 0, .int .i64 0, .int .i64 0, .int .i64 0, .int .i64 0, .int .i64 0]) 40)).alloc (.cells (#[.int .i64 0, .int .i64 0, .int .i64 0, .int .i64 0, .int .i64 0, .int .i64 0, .int .i64 0, .int .i64 0, .int .i64 0, .int .i64 0, .int .i64 0, .int .i64 0, .int .i64 0, .int .i64 0, .int .i64 0, .int .i64 0]) 40)).setRow w4.heap.size (arr (pad (sqR L)))).setRow (w4.heap.size + 1) (arr (pad (sqB L))) := ⟨_, rfl⟩; rw [← hw2]; replace hR : Blk w5 w4.heap.size 40 (arr (pad (sqR L))) ∧ Blk w5 (w4.heap.size + 1) 40 (arr (pad (sqB L))) ∧ Below w4.heap.size w4 w5 := hw2 ▸ hR; clear hw2; obtain ⟨k8, k9, hbw5⟩ := hR; have hbel5 := hbel4.trans (hbw5.mono hbel4.size))
      | (refine wpList_load_row rfl 40 (.tmp 5) rfl (w1.heap.size) rfl 40 (arr (pad L)) (0, 0) _ hb2 Try.underlying40 rfl hi16 ?_)
      | (refine wpList_load_row rfl 40 (.tmp 5) rfl (w1.heap.size) rfl 40 (arr (pad L)) (0, 0) _ hb3k Try.underlying40 rfl hi16 ?_))
    refine wp_region_held_drew (S := (fun w' => w'.rangeAt w4.heap.size 0 (ints (pad (sqR L))) ∧ w'.rangeAt (w4.heap.size + 1) 0 (ints (pad (sqB L))) ∧ Below w.heap.size w w')) (by kernel_rfl) ⟨rng_of k8, rng_of k9, hbel5.trans ((Dr.n w5 1).below _)⟩ (fun hHeld => ?_)
    refine wpAnyH_take (i := 0) (v := .int .i64 (durS L : Int)) (by simp only [List.getElem?_toArray, List.getElem?_cons_succ, List.getElem?_cons_zero]; exact rfl) (by kernel_rfl) (by kernel_rfl) (by kernel_rfl) (by intro _ _ _ h; exact h) (Or.inl ⟨by kernel_rfl, by intro w hSw; go_simp⟩) (by assumption) ?_
    simp only [Act.put, List.setIfInBounds_toArray, List.set_cons_zero, List.set_cons_succ, List.toList_toArray]
    refine wpAnyH_take (i := 1) (v := _) (by simp only [List.getElem?_toArray, List.getElem?_cons_succ, List.getElem?_cons_zero]; exact rfl) (by kernel_rfl) (by kernel_rfl) (by kernel_rfl) (by intro _ _ _ h; exact h) (yieldsIf_load_mid (by kernel_rfl) _ _ rfl w4.heap.size 0 rfl (ints (pad (sqR L))) _ (fun _ hw => hw.1) hu rfl hiRi) (by assumption) ?_
    simp only [Act.put, List.setIfInBounds_toArray, List.set_cons_zero, List.set_cons_succ, List.toList_toArray]
    refine wpAnyH_take (i := 3) (v := _) (by simp only [List.getElem?_toArray, List.getElem?_cons_succ, List.getElem?_cons_zero]; exact rfl) (by kernel_rfl) (by kernel_rfl) (by kernel_rfl) (by intro _ _ _ h; exact h) (yieldsIf_load_mid (by kernel_rfl) _ _ rfl (w4.heap.size + 1) 0 rfl (ints (pad (sqB L))) _ (fun _ hw => hw.2.1) hu rfl hiBi) (by assumption) ?_
    simp only [Act.put, List.setIfInBounds_toArray, List.set_cons_zero, List.set_cons_succ, List.toList_toArray]
    refine wpAnyH_ready (rs := [2]) (by kernel_rfl) (by simp) ?_
    refine AllReadyH.cons (o := _) (by simp only [List.getElem?_toArray, List.getElem?_cons_succ, List.getElem?_cons_zero]; exact rfl) (fun K hK => ?_) AllReadyH.nil
    rw [if_pos (by rfl)]
    go_simp
    go_at_call 30
    refine (list_any (sqR L) HVR.out _).mono ?_
    rintro e w6 ⟨a6, rfl, ho6, hbd6⟩
    refine hK.out _ _ ⟨range_below hHeld.1 hbd6, range_below hHeld.2.1 hbd6, hHeld.2.2.trans (hbd6.mono hHeld.2.2.size)⟩ (fun hH2 => ?_)
    clear hK K
    try simp only [Act.put, List.setIfInBounds_toArray, List.set_cons_zero, List.set_cons_succ, List.toList_toArray]
    refine wpAnyH_ready (rs := [4]) (by kernel_rfl) (by simp) ?_
    refine AllReadyH.cons (o := _) (by simp only [List.getElem?_toArray, List.getElem?_cons_succ, List.getElem?_cons_zero]; exact rfl) (fun K hK => ?_) AllReadyH.nil
    rw [if_pos (by rfl)]
    go_simp
    go_at_call 30
    refine (list_any (sqB L) HVB.out _).mono ?_
    rintro e w7 ⟨a7, rfl, ho7, hbd7⟩
    refine hK.out _ _ ⟨range_below hH2.1 hbd7, range_below hH2.2.1 hbd7, hH2.2.2.trans (hbd7.mono hH2.2.2.size)⟩ (fun hH3 => ?_)
    clear hK K
    try simp only [Act.put, List.setIfInBounds_toArray, List.set_cons_zero, List.set_cons_succ, List.toList_toArray]
    refine wpAnyH_take (i := 5) (v := .int .i64 (durS L : Int)) (by simp only [List.getElem?_toArray, List.getElem?_cons_succ, List.getElem?_cons_zero]; exact rfl) (by kernel_rfl) (by kernel_rfl) (by kernel_rfl) (by intro _ _ _ h; exact h) (Or.inl ⟨by kernel_rfl, by intro w hSw; go_simp⟩) (by assumption) ?_
    simp only [Act.put, List.setIfInBounds_toArray, List.set_cons_zero, List.set_cons_succ, List.toList_toArray]
    refine wpAnyH_take (i := 6) (v := .slice a6 (sqR L).length (sqR L).length) (by simp only [List.getElem?_toArray, List.getElem?_cons_succ, List.getElem?_cons_zero]; exact rfl) (by kernel_rfl) (by kernel_rfl) (by kernel_rfl) (by intro _ _ _ h; exact h) (Or.inl ⟨by kernel_rfl, by intro w hSw; go_simp⟩) (by assumption) ?_
    simp only [Act.put, List.setIfInBounds_toArray, List.set_cons_zero, List.set_cons_succ, List.toList_toArray]
    refine wpAnyH_take (i := 7) (v := .slice a7 (sqB L).length (sqB L).length) (by simp only [List.getElem?_toArray, List.getElem?_cons_succ, List.getElem?_cons_zero]; exact rfl) (by kernel_rfl) (by kernel_rfl) (by kernel_rfl) (by intro _ _ _ h; exact h) (Or.inl ⟨by kernel_rfl, by intro w hSw; go_simp⟩) (by assumption) ?_
    simp only [Act.put, List.setIfInBounds_toArray, List.set_cons_zero, List.set_cons_succ, List.toList_toArray]
    refine wpAnyH_done (by kernel_rfl) ?_ _
    try simp only [Act.put, List.setIfInBounds_toArray, List.set_cons_zero, List.set_cons_succ]
    go_wp2
    go_ret3
    rw [HF1.out, HF2.out, HF3.out]
    exact ⟨a6, (sqR L).length, a7, (sqB L).length, w6.heap.size, rfl, (ho6.below (hbd7.mono ho6.le)).lower hbel5.size, ho7, hH2.2.2.size, hbd7.size, hH3.2.2⟩
  | false =>
    have hi16 : (Try.prog.info? 40).map (·.size) = some (arr (dg L)).size := by rw [arr_size, dg_len]; exact T_info35
    have hsz : (arr (dg L)).size = (arr (List.replicate 16 0)).size := by rw [arr_size, arr_size, dg_len]; rfl
    have HV := Lib.hid hv
    rw [sqD_no hv, sqRF_no hv, sqBF_no hv]
    clear hv
    go_enter Try.func24, Try.ntmps24
    go_wp2_with (first
      | (refine wpList_store_row rfl 40 (.tmp 5) (.tmp 13) rfl w1.heap.size rfl (arr (dg L)) rfl 40 (arr (List.replicate 16 0)) (Blk.new w1 _ _) hi16 hsz (arr_one _) ?_)
      | (go_at_call 34; refine (diagramOf_any _ _ B L _ h hB hl).mono ?_; rintro e w1 ⟨rfl, hb1⟩; rw [HV.out]))
    go_ret3
    have hbz : Below w.heap.size w ((w1.alloc (.cells (arr (List.replicate 16 0)) 40)).setRow w1.heap.size (arr (dg L))) := below_setRow' (hb1.alloc hb1.size _) (by exact hb1.size) _
    exact ⟨none, 0, none, 0, _, rfl, Own.nil _ _ _, Own.nil _ _ _, hbz.size, Nat.le_refl _, hbz⟩

set_option maxHeartbeats 4000000 in
theorem iSquarePut_any (d : Int) (a b : Option Addr) (ca cb Ba Bb : Nat) (R B : List Int) (w : World) (h : Rd w Ba a (ints R)) (hq : Rd w Bb b (ints B)) (hBa : Ba ≤ w.heap.size) (hBb : Bb ≤ w.heap.size) (hl : R.length ≤ 4611686018427387904) (hlq : B.length ≤ 4611686018427387904) :
    Calls Try.prog 22 #[.int .i64 d, .slice a R.length ca, .slice b B.length cb] w fun e w' => ∃ a' c', e = .returned (.tuple #[.slice a' (sqPutF d R B).length c', .bool (sqOk d R B)]) ∧ Own w' w.heap.size w'.heap.size 3 (.slice a' (sqPutF d R B).length c') (ints (sqPutF d R B)) ∧ Below w.heap.size w w' := by
  have hiR : (Try.prog.info? 40).map (·.size) = some (arr (dg R)).size := by rw [arr_size, dg_len]; exact T_info35
  have hsR : (arr (dg R)).size = (arr (List.replicate 16 0)).size := by rw [arr_size, arr_size, dg_len]; rfl
  have hiB : (Try.prog.info? 40).map (·.size) = some (arr (dg B)).size := by rw [arr_size, dg_len]; exact T_info35
  have hsB : (arr (dg B)).size = (arr (List.replicate 16 0)).size := by rw [arr_size, arr_size, dg_len]; rfl
  cases ht : two R B with
  | true =>
    obtain ⟨hvR, hvB, _⟩ := two_out ht
    have HT := Lib.hid ht
    have HVR := Lib.hid hvR
    have HVB := Lib.hid hvB
    have HDR : Hid (dg R = pad R) := Lib.hid (dg_yes hvR)
    have HDB : Hid (dg B = pad B) := Lib.hid (dg_yes hvB)
    cases hok : sqOk d R B with
    | true =>
      have HOK := Lib.hid hok
      have HF := Lib.hid (sqPutF_yes hok)
      obtain ⟨n, rfl⟩ := Int.eq_ofNat_of_zero_le ((sqOk_iff _ _ _).1 hok).1
      have HVP := Lib.hid (sq_put hok).2.2.2.2.2.2
      clear ht hvR hvB hok
      go_enter Try.func22, Try.ntmps22
      go_wp2_with (first
      | (go_at_call 28; refine (twoThatFit_any _ _ _ _ Ba Bb R B _ h hq hBa hBb hl hlq).mono ?_; rintro e w1 ⟨rfl, hb1⟩; rw [HT.out])
      | (refine wpList_store_row rfl 40 (.tmp 8) (.tmp 16) rfl w1.heap.size rfl (arr (dg R)) rfl 40 (arr (List.replicate 16 0)) ((Blk.new w1 _ _).alloc _) hiR hsR (arr_one _) ?_)
      | (refine wpList_store_row rfl 40 (.tmp 9) (.tmp 17) rfl (w1.heap.size + 1) rfl (arr (dg B)) rfl 40 (arr (List.replicate 16 0)) (first_row w1 _ _ _) hiB hsB (arr_one _) ?_; have hR := two_rows w1 40 (arr (List.replicate 16 0)) (arr (dg R)) (arr (dg B)); obtain ⟨w2, hw2⟩ : ∃ w2, w2 = (((w1.alloc (.cells (#[.int .i64 0, .int .i64 0, .int .i64 0, .int .i64 0, .int .i64 0, .int .i64 0, .int .i64 0, .int .i64 0, .int .i64 0, .int .i64 0, .int .i64 0, .int .i64 0, .int .i64 0, .int .i64 0, .int .i64 0, .int .i64 0]) 40)).alloc (.cells (#[.int .i64 0, .int .i64 0, .int .i64 0, .int .i64 0, .int .i64 0, .int .i64 0, .int .i64 0, .int .i64 0, .int .i64 0, .int .i64 0, .int .i64 0, .int .i64 0, .int .i64 0, .int .i64 0, .int .i64 0, .int .i64 0]) 40)).setRow w1.heap.size (arr (dg R))).setRow (w1.heap.size + 1) (arr (dg B)) := ⟨_, rfl⟩; rw [← hw2]; replace hR : Blk w2 w1.heap.size 40 (arr (dg R)) ∧ Blk w2 (w1.heap.size + 1) 40 (arr (dg B)) ∧ Below w1.heap.size w1 w2 := hw2 ▸ hR; clear hw2; obtain ⟨k8, k9, hbw2⟩ := hR; have hbel2 := hb1.trans (hbw2.mono hb1.size))
      | (go_at_call 37; rw [HDR.out, HDB.out]; refine (mayStand_any (n : Int) R B HVR.out HVB.out _).mono ?_; rintro e w3 ⟨rfl, hb3⟩; rw [HOK.out]; have k8' := k8.below hb3 k8.lt; have k9' := k9.below hb3 k9.lt; have hbel3 := hbel2.trans (hb3.mono hbel2.size))
      | (refine wpList_load_row_g rfl 40 (.tmp 8) rfl (w1.heap.size) rfl 40 (arr (dg R)) (0, 0) _ k8 Try.underlying40 rfl hiR ?_)
      | (refine wpList_load_row_g rfl 40 (.tmp 9) rfl (w1.heap.size + 1) rfl 40 (arr (dg B)) (0, 0) _ k9 Try.underlying40 rfl hiB ?_)
      | (refine wpList_load_row rfl 40 (.tmp 8) rfl (w1.heap.size) rfl 40 (arr (dg R)) (0, 0) _ k8' Try.underlying40 rfl hiR ?_)
      | (refine wpList_load_row rfl 40 (.tmp 9) rfl (w1.heap.size + 1) rfl 40 (arr (dg B)) (0, 0) _ k9' Try.underlying40 rfl hiB ?_)
      | (go_at_call 38; rw [HDR.out, HDB.out]; refine (sqput_any n R B HOK.out _).mono ?_; rintro e w4 ⟨rfl, hb4⟩; have hbel4 := hbel3.trans (hb4.mono hbel3.size))
      | (go_at_call 30; refine (list_any (sqPut n R B) HVP.out _).mono ?_; rintro e w5 ⟨a', rfl, ho5, hb5⟩))
      go_ret2
      rw [HF.out]
      exact ⟨a', (sqPut n R B).length, rfl, ho5.lower hbel4.size, hbel4.trans (hb5.mono hbel4.size)⟩
    | false =>
      have HOK := Lib.hid hok
      have HF := Lib.hid (sqPutF_no hok)
      clear ht hvR hvB hok
      go_enter Try.func22, Try.ntmps22
      go_wp2_with (first
      | (go_at_call 28; refine (twoThatFit_any _ _ _ _ Ba Bb R B _ h hq hBa hBb hl hlq).mono ?_; rintro e w1 ⟨rfl, hb1⟩; rw [HT.out])
      | (refine wpList_store_row rfl 40 (.tmp 8) (.tmp 16) rfl w1.heap.size rfl (arr (dg R)) rfl 40 (arr (List.replicate 16 0)) ((Blk.new w1 _ _).alloc _) hiR hsR (arr_one _) ?_)
      | (refine wpList_store_row rfl 40 (.tmp 9) (.tmp 17) rfl (w1.heap.size + 1) rfl (arr (dg B)) rfl 40 (arr (List.replicate 16 0)) (first_row w1 _ _ _) hiB hsB (arr_one _) ?_; have hR := two_rows w1 40 (arr (List.replicate 16 0)) (arr (dg R)) (arr (dg B)); obtain ⟨w2, hw2⟩ : ∃ w2, w2 = (((w1.alloc (.cells (#[.int .i64 0, .int .i64 0, .int .i64 0, .int .i64 0, .int .i64 0, .int .i64 0, .int .i64 0, .int .i64 0, .int .i64 0, .int .i64 0, .int .i64 0, .int .i64 0, .int .i64 0, .int .i64 0, .int .i64 0, .int .i64 0]) 40)).alloc (.cells (#[.int .i64 0, .int .i64 0, .int .i64 0, .int .i64 0, .int .i64 0, .int .i64 0, .int .i64 0, .int .i64 0, .int .i64 0, .int .i64 0, .int .i64 0, .int .i64 0, .int .i64 0, .int .i64 0, .int .i64 0, .int .i64 0]) 40)).setRow w1.heap.size (arr (dg R))).setRow (w1.heap.size + 1) (arr (dg B)) := ⟨_, rfl⟩; rw [← hw2]; replace hR : Blk w2 w1.heap.size 40 (arr (dg R)) ∧ Blk w2 (w1.heap.size + 1) 40 (arr (dg B)) ∧ Below w1.heap.size w1 w2 := hw2 ▸ hR; clear hw2; obtain ⟨k8, k9, hbw2⟩ := hR; have hbel2 := hb1.trans (hbw2.mono hb1.size))
      | (go_at_call 37; rw [HDR.out, HDB.out]; refine (mayStand_any d R B HVR.out HVB.out _).mono ?_; rintro e w3 ⟨rfl, hb3⟩; rw [HOK.out]; have k8' := k8.below hb3 k8.lt; have k9' := k9.below hb3 k9.lt; have hbel3 := hbel2.trans (hb3.mono hbel2.size))
      | (refine wpList_load_row_g rfl 40 (.tmp 8) rfl (w1.heap.size) rfl 40 (arr (dg R)) (0, 0) _ k8 Try.underlying40 rfl hiR ?_)
      | (refine wpList_load_row_g rfl 40 (.tmp 9) rfl (w1.heap.size + 1) rfl 40 (arr (dg B)) (0, 0) _ k9 Try.underlying40 rfl hiB ?_))
      go_ret2
      rw [HF.out]
      exact ⟨none, 0, rfl, own_nil0 _ _ _, hbel3⟩
  | false =>
    have HT := Lib.hid ht
    have hok := sqOk_two (d := d) ht
    rw [sqPutF_no hok, hok]
    clear ht hok
    go_enter Try.func22, Try.ntmps22
    go_wp2_with (first
      | (go_at_call 28; refine (twoThatFit_any _ _ _ _ Ba Bb R B _ h hq hBa hBb hl hlq).mono ?_; rintro e w1 ⟨rfl, hb1⟩; rw [HT.out])
      | (refine wpList_store_row rfl 40 (.tmp 8) (.tmp 16) rfl w1.heap.size rfl (arr (dg R)) rfl 40 (arr (List.replicate 16 0)) ((Blk.new w1 _ _).alloc _) hiR hsR (arr_one _) ?_)
      | (refine wpList_store_row rfl 40 (.tmp 9) (.tmp 17) rfl (w1.heap.size + 1) rfl (arr (dg B)) rfl 40 (arr (List.replicate 16 0)) (first_row w1 _ _ _) hiB hsB (arr_one _) ?_; have hR := two_rows w1 40 (arr (List.replicate 16 0)) (arr (dg R)) (arr (dg B)); obtain ⟨w2, hw2⟩ : ∃ w2, w2 = (((w1.alloc (.cells (#[.int .i64 0, .int .i64 0, .int .i64 0, .int .i64 0, .int .i64 0, .int .i64 0, .int .i64 0, .int .i64 0, .int .i64 0, .int .i64 0, .int .i64 0, .int .i64 0, .int .i64 0, .int .i64 0, .int .i64 0, .int .i64 0]) 40)).alloc (.cells (#[.int .i64 0, .int .i64 0, .int .i64 0, .int .i64 0, .int .i64 0, .int .i64 0, .int .i64 0, .int .i64 0, .int .i64 0, .int .i64 0, .int .i64 0, .int .i64 0, .int .i64 0, .int .i64 0, .int .i64 0, .int .i64 0]) 40)).setRow w1.heap.size (arr (dg R))).setRow (w1.heap.size + 1) (arr (dg B)) := ⟨_, rfl⟩; rw [← hw2]; replace hR : Blk w2 w1.heap.size 40 (arr (dg R)) ∧ Blk w2 (w1.heap.size + 1) 40 (arr (dg B)) ∧ Below w1.heap.size w1 w2 := hw2 ▸ hR; clear hw2; obtain ⟨k8, k9, hbw2⟩ := hR; have hbel2 := hb1.trans (hbw2.mono hb1.size)))
    go_ret2
    exact ⟨none, 0, rfl, own_nil0 _ _ _, hbel2⟩
end Go.Proofs.Ytldbjnnolebfbaa
