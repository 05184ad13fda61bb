/-
  Walks of the program: squares put back; SquareCut, SquarePut.
-/
import Derived.Test.YtldbjnnolebfbaaW25
namespace Go.Proofs.Ytldbjnnolebfbaa
open Go.RowKit NP
set_option linter.unusedVariables false
set_option linter.unusedSimpArgs false
theorem sum_small {D : List Int} (h : ∀ x ∈ D, 0 ≤ x ∧ x ≤ 1000) : 0 ≤ sumL D ∧ sumL D ≤ 1000 * D.length := by
  induction D with
  | nil => simp [sumL]
  | cons x r ih =>
    have h1 := h x (by simp)
    have h2 := ih fun y hy => h y (by simp [hy])
    simp only [sumL, List.length_cons]
    omega
theorem fits_small {D : List Int} (h : ∀ x ∈ D, 0 ≤ x ∧ x ≤ 1000) (hl : D.length ≤ 1000) : sumFits D := fun k hk => by
  have := sum_small (D := D.take k) fun x hx => h x (List.mem_of_mem_take hx)
  have h2 : (D.take k).length ≤ 1000 := by rw [List.length_take]; omega
  omega
theorem sqs_small {n : Nat} (h : n ≤ 16) : ∀ x ∈ pad (sqs n), 0 ≤ x ∧ x ≤ 1000 := fun x hx => by
  unfold pad sqs at hx
  rcases List.mem_append.1 hx with hx | hx
  · rw [List.mem_replicate] at hx; omega
  · rw [List.mem_replicate] at hx; omega
theorem sq_bd {n : Nat} (h : n ≤ 16) : 0 ≤ (n : Int) * (n : Int) ∧ (n : Int) * (n : Int) ≤ 256 := by
  refine ⟨Int.mul_nonneg (by omega) (by omega), ?_⟩
  have h1 : (n : Int) ≤ 16 := by omega
  have : (n : Int) * (n : Int) ≤ 16 * 16 := Int.mul_le_mul h1 h1 (by omega) (by omega)
  omega
theorem sqOk_no1 {d : Int} {R B : List Int} (h : ¬ ((R.length : Int) ≤ d)) : sqOk d R B = false := by
  cases hk : sqOk d R B with
  | false => rfl
  | true => exact absurd ((sqOk_iff _ _ _).1 hk).2.2.2.2.1 h
theorem sqOk_no2 {d : Int} {R B : List Int} (h : ¬ (B.getD 0 0 ≤ d)) : sqOk d R B = false := by
  cases hk : sqOk d R B with
  | false => rfl
  | true => exact absurd ((sqOk_iff _ _ _).1 hk).2.2.2.2.2.1 h
theorem sqOk_no3 {d : Int} {R B : List Int} (h : ¬ (d ≤ 16)) : sqOk d R B = false := by
  cases hk : sqOk d R B with
  | false => rfl
  | true => exact absurd ((sqOk_iff _ _ _).1 hk).2.1 h
theorem sqOk_val {n : Nat} {R B : List Int} (hR : valid R = true) (hB : valid B = true) (h1 : (R.length : Int) ≤ n) (h2 : B.getD 0 0 ≤ n) (h3 : (n : Int) ≤ 16) : sqOk n R B = decide ((n : Int) * n + sumL R + sumL B ≤ 16) := by
  unfold sqOk
  rw [hR, hB, decide_eq_true h1, decide_eq_true h2, decide_eq_true h3, decide_eq_true (by omega : (0 : Int) ≤ n)]
  rfl
theorem sqOk_two {d : Int} {R B : List Int} (h : two R B = false) : sqOk d R B = false := by
  cases hk : sqOk d R B with
  | false => rfl
  | true =>
    obtain ⟨h0, h16, hvR, hvB, _, _, hs⟩ := (sqOk_iff _ _ _).1 hk
    have : 0 ≤ d * d := Int.mul_nonneg h0 h0
    simp [two, hvR, hvB] at h
    omega

theorem _root_.Go.World.rangeAt.below_range {w w' : World} {b o : Nat} {cs : List Value} (h : w.rangeAt b o cs) (hb : Below w.heap.size w w') : w'.rangeAt b o cs := range_below h hb

set_option maxHeartbeats 4000000 in
theorem mayStand_any (d : Int) (R B : List Int) (hR : valid R = true) (hB : valid B = true) (w : World) :
    Calls Try.prog 37 #[.int .i64 d, .agg (arr (pad R)), .agg (arr (pad B))] w fun e w' => e = .returned (.bool (sqOk d R B)) ∧ Below w.heap.size w w' := by
  have hlR := (valid_bd hR).2.2.2
  have hlB := (valid_bd hB).2.2.2
  have HPR := Lib.hid (pad_len hlR)
  have HPB := Lib.hid (pad_len hlB)
  have HCR := Lib.hid (cntD_pad hR)
  have hiR : (Try.prog.info? 40).map (·.size) = some (arr (pad R)).size := by rw [arr_size, pad_len hlR]; exact T_info35
  have kR := (Blk.new w 40 (arr (pad R))).alloc (.cells (arr (pad B)) 40)
  have kB := Blk.new (w.alloc (.cells (arr (pad R)) 40)) 40 (arr (pad B))
  rw [World.size_alloc] at kB
  have hbel0 : Below w.heap.size w ((w.alloc (.cells (arr (pad R)) 40)).alloc (.cells (arr (pad B)) 40)) := ((Below.refl _ _).alloc (Nat.le_refl _) _).alloc (by simp) _
  have hB0 : (pad B)[0]'(by rw [pad_len hlB]; omega) = B.getD 0 0 := by rw [← getD_lt, pad_getD hlB]
  obtain ⟨y, hy⟩ : ∃ y, y = B.getD 0 0 := ⟨_, rfl⟩
  rw [← hy] at hB0
  have HB0 := Lib.hid hB0
  have bR := valid_bd hR
  have bB := valid_bd hB
  have HFR := Lib.hid (pad_fits hR)
  have HFB := Lib.hid (pad_fits hB)
  have HSR := Lib.hid (sumL_pad R)
  have HSB := Lib.hid (sumL_pad B)
  by_cases h1 : (R.length : Int) ≤ d
  · have d1 : decide ((R.length : Int) ≤ d) = true := decide_eq_true h1
    by_cases h2 : y ≤ d
    · have d2 : decide (y ≤ d) = true := decide_eq_true h2
      by_cases h3 : d ≤ 16
      · have d3 : decide (d ≤ 16) = true := decide_eq_true h3
        obtain ⟨n, rfl⟩ := Int.eq_ofNat_of_zero_le (show 0 ≤ d by omega)
        have HV := Lib.hid (sqOk_val hR hB h1 (hy ▸ h2) h3)
        have hn : n ≤ 16 := by omega
        have hRn : R.length ≤ n := by omega
        have d1' : decide (R.length ≤ n) = true := decide_eq_true hRn
        have hps : (pad (sqs n)).length = 16 := by rw [← fillN_end, fillN_len n _ hn]
        have HPS := Lib.hid hps
        have HFS := Lib.hid (fits_small (sqs_small hn) (by omega))
        have hss : sumL (pad (sqs n)) = (n : Int) * n := by rw [sumL_pad, sqs_sum]
        have hqb := sq_bd hn
        obtain ⟨q, hq⟩ : ∃ q : Int, q = (n : Int) * n := ⟨_, rfl⟩
        rw [← hq] at hss hqb HV
        have HSS := Lib.hid hss
        have hw1 : IntKind.i64.wrap (q + sumL R) = q + sumL R := IntWalk.i64_in _ (by omega)
        have hw2 : IntKind.i64.wrap (q + sumL R + sumL B) = q + sumL R + sumL B := IntWalk.i64_in _ (by omega)
        have hu := Try.underlying40
        have hiRi : (Try.prog.info? 40).map (·.size) = some (ints (pad R)).length := by rw [List.length_map, pad_len hlR]; exact T_info35
        have hlRi : (ints (pad R)).length = 16 := by rw [List.length_map, pad_len hlR]
        have hzRi : (ints (pad R)).toArray.size = 16 := by rw [List.size_toArray]; exact hlRi
        have h1Ri := ints_one (pad R)
        have hiBi : (Try.prog.info? 40).map (·.size) = some (ints (pad B)).length := by rw [List.length_map, pad_len hlB]; exact T_info35
        have hlBi : (ints (pad B)).length = 16 := by rw [List.length_map, pad_len hlB]
        have hzBi : (ints (pad B)).toArray.size = 16 := by rw [List.size_toArray]; exact hlBi
        have h1Bi := ints_one (pad B)
        clear hR hB h1 h2 h3 hps hss hq hB0 hy
        go_enter Try.func37, Try.ntmps37
        go_wp2_with (first
          | (refine wpList_load_row rfl 40 (.tmp 4) rfl (w.heap.size) rfl 40 (arr (pad R)) (0, 0) _ kR Try.underlying40 rfl hiR ?_)
          | (go_at_call 48; refine (count_any (pad R) HPR.out _).mono ?_; rintro e w1 ⟨rfl, hb1⟩; rw [HCR.out]; have hcB := (kB.below hb1 kB.lt).cell 0; rw [arr_get _ 0 (by rw [HPB.out]; omega), HB0.out] at hcB; have hbel := hbel0.trans (hb1.mono hbel0.size)))
        have r0 := ((Blk.range (vs := ints (pad R)) kR)).below_range hb1
        have r1 := ((Blk.range (vs := ints (pad B)) kB)).below_range hb1
        clear kR kB hcB
        refine wp_region_held_drew (S := (fun w' => w'.rangeAt w.heap.size 0 (ints (pad R)) ∧ w'.rangeAt (w.heap.size + 1) 0 (ints (pad B)) ∧ Below w.heap.size w w')) (by kernel_rfl) ⟨r0, r1, hbel.trans ((Dr.n w1 1).below _)⟩ (fun hHeld => ?_)
        refine wpAnyH_take (i := 0) (v := .bool true) (by simp only [List.getElem?_toArray, List.getElem?_cons_succ, List.getElem?_cons_zero]; exact rfl) (by kernel_rfl) (by kernel_rfl) (by kernel_rfl) (by intro _ _ _ h; exact h) (Or.inl ⟨by kernel_rfl, by intro w hSw; go_simp⟩) (by assumption) ?_
        simp only [Act.put, List.setIfInBounds_toArray, List.set_cons_zero, List.set_cons_succ, List.toList_toArray]
        refine wpAnyH_take (i := 1) (v := .bool true) (by simp only [List.getElem?_toArray, List.getElem?_cons_succ, List.getElem?_cons_zero]; exact rfl) (by kernel_rfl) (by kernel_rfl) (by kernel_rfl) (by intro _ _ _ h; exact h) (Or.inl ⟨by kernel_rfl, by intro w hSw; go_simp⟩) (by assumption) ?_
        simp only [Act.put, List.setIfInBounds_toArray, List.set_cons_zero, List.set_cons_succ, List.toList_toArray]
        refine wpAnyH_take (i := 2) (v := .int .i64 (n : Int)) (by simp only [List.getElem?_toArray, List.getElem?_cons_succ, List.getElem?_cons_zero]; exact rfl) (by kernel_rfl) (by kernel_rfl) (by kernel_rfl) (by intro _ _ _ h; exact h) (Or.inl ⟨by kernel_rfl, by intro w hSw; go_simp⟩) (by assumption) ?_
        simp only [Act.put, List.setIfInBounds_toArray, List.set_cons_zero, List.set_cons_succ, List.toList_toArray]
        refine wpAnyH_take (i := 5) (v := _) (by simp only [List.getElem?_toArray, List.getElem?_cons_succ, List.getElem?_cons_zero]; exact rfl) (by kernel_rfl) (by kernel_rfl) (by kernel_rfl) (by intro _ _ _ h; exact h) (yieldsIf_load_mid (by kernel_rfl) _ _ rfl w.heap.size 0 rfl (ints (pad R)) _ (fun _ hw => hw.1) hu rfl hiRi) (by assumption) ?_
        simp only [Act.put, List.setIfInBounds_toArray, List.set_cons_zero, List.set_cons_succ, List.toList_toArray]
        refine wpAnyH_take (i := 8) (v := _) (by simp only [List.getElem?_toArray, List.getElem?_cons_succ, List.getElem?_cons_zero]; exact rfl) (by kernel_rfl) (by kernel_rfl) (by kernel_rfl) (by intro _ _ _ h; exact h) (yieldsIf_load_mid (by kernel_rfl) _ _ rfl (w.heap.size + 1) 0 rfl (ints (pad B)) _ (fun _ hw => hw.2.1) hu rfl hiBi) (by assumption) ?_
        simp only [Act.put, List.setIfInBounds_toArray, List.set_cons_zero, List.set_cons_succ, List.toList_toArray]
        refine wpAnyH_ready (rs := [3]) (by kernel_rfl) (by simp) ?_
        refine AllReadyH.cons (o := _) (by simp only [List.getElem?_toArray, List.getElem?_cons_succ, List.getElem?_cons_zero]; exact rfl) (fun K hK => ?_) AllReadyH.nil
        rw [if_pos (by rfl)]
        go_simp
        go_at_call 50
        refine (sqdiag_any n (by omega) _).mono ?_
        rintro e w5 ⟨rfl, hbd⟩
        refine hK.out _ _ ⟨range_below hHeld.1 hbd, range_below hHeld.2.1 hbd, hHeld.2.2.trans (hbd.mono hHeld.2.2.size)⟩ (fun hH2 => ?_)
        clear hK K
        try simp only [Act.put, List.setIfInBounds_toArray, List.set_cons_zero, List.set_cons_succ, List.toList_toArray]
        refine wpAnyH_ready (rs := [4]) (by kernel_rfl) (by simp) ?_
        refine AllReadyH.cons (o := _) (by simp only [List.getElem?_toArray, List.getElem?_cons_succ, List.getElem?_cons_zero]; exact rfl) (fun K hK => ?_) AllReadyH.nil
        rw [if_pos (by rfl)]
        go_simp
        go_at_call 47
        refine (dsum_any (pad (sqs n)) HPS.out HFS.out _).mono ?_
        rintro e w6 ⟨rfl, hbd⟩
        rw [HSS.out]
        refine hK.out _ _ ⟨range_below hH2.1 hbd, range_below hH2.2.1 hbd, hH2.2.2.trans (hbd.mono hH2.2.2.size)⟩ (fun hH3 => ?_)
        clear hK K
        try simp only [Act.put, List.setIfInBounds_toArray, List.set_cons_zero, List.set_cons_succ, List.toList_toArray]
        refine wpAnyH_ready (rs := [6]) (by kernel_rfl) (by simp) ?_
        refine AllReadyH.cons (o := _) (by simp only [List.getElem?_toArray, List.getElem?_cons_succ, List.getElem?_cons_zero]; exact rfl) (fun K hK => ?_) AllReadyH.nil
        rw [if_pos (by rfl)]
        go_simp
        go_at_call 47
        refine (dsum_any (pad R) HPR.out HFR.out _).mono ?_
        rintro e w7 ⟨rfl, hbd⟩
        rw [HSR.out]
        refine hK.out _ _ ⟨range_below hH3.1 hbd, range_below hH3.2.1 hbd, hH3.2.2.trans (hbd.mono hH3.2.2.size)⟩ (fun hH4 => ?_)
        clear hK K
        try simp only [Act.put, List.setIfInBounds_toArray, List.set_cons_zero, List.set_cons_succ, List.toList_toArray]
        refine wpAnyH_take (i := 7) (v := .int .i64 (q + sumL R)) (by simp only [List.getElem?_toArray, List.getElem?_cons_succ, List.getElem?_cons_zero]; exact rfl) (by kernel_rfl) (by kernel_rfl) (by kernel_rfl) (by intro _ _ _ h; exact h) (Or.inl ⟨by kernel_rfl, by intro w hSw; go_simp⟩) (by assumption) ?_
        simp only [Act.put, List.setIfInBounds_toArray, List.set_cons_zero, List.set_cons_succ, List.toList_toArray]
        refine wpAnyH_ready (rs := [9]) (by kernel_rfl) (by simp) ?_
        refine AllReadyH.cons (o := _) (by simp only [List.getElem?_toArray, List.getElem?_cons_succ, List.getElem?_cons_zero]; exact rfl) (fun K hK => ?_) AllReadyH.nil
        rw [if_pos (by rfl)]
        go_simp
        go_at_call 47
        refine (dsum_any (pad B) HPB.out HFB.out _).mono ?_
        rintro e w8 ⟨rfl, hbd⟩
        rw [HSB.out]
        refine hK.out _ _ ⟨range_below hH4.1 hbd, range_below hH4.2.1 hbd, hH4.2.2.trans (hbd.mono hH4.2.2.size)⟩ (fun hH5 => ?_)
        clear hK K
        try simp only [Act.put, List.setIfInBounds_toArray, List.set_cons_zero, List.set_cons_succ, List.toList_toArray]
        refine wpAnyH_take (i := 10) (v := .int .i64 (q + sumL R + sumL B)) (by simp only [List.getElem?_toArray, List.getElem?_cons_succ, List.getElem?_cons_zero]; exact rfl) (by kernel_rfl) (by kernel_rfl) (by kernel_rfl) (by intro _ _ _ h; exact h) (Or.inl ⟨by kernel_rfl, by intro w hSw; go_simp⟩) (by assumption) ?_
        simp only [Act.put, List.setIfInBounds_toArray, List.set_cons_zero, List.set_cons_succ, List.toList_toArray]
        refine wpAnyH_take (i := 11) (v := .bool (decide (q + sumL R + sumL B ≤ 16))) (by simp only [List.getElem?_toArray, List.getElem?_cons_succ, List.getElem?_cons_zero]; exact rfl) (by kernel_rfl) (by kernel_rfl) (by kernel_rfl) (by intro _ _ _ h; exact h) (Or.inl ⟨by kernel_rfl, by intro w hSw; go_simp⟩) (by assumption) ?_
        simp only [Act.put, List.setIfInBounds_toArray, List.set_cons_zero, List.set_cons_succ, List.toList_toArray]
        refine wpAnyH_take (i := 12) (v := .bool (decide (q + sumL R + sumL B ≤ 16))) (by simp only [List.getElem?_toArray, List.getElem?_cons_succ, List.getElem?_cons_zero]; exact rfl) (by kernel_rfl) (by kernel_rfl) (by kernel_rfl) (by intro _ _ _ h; exact h) (Or.inl ⟨by kernel_rfl, by intro w hSw; go_simp⟩) (by assumption) ?_
        simp only [Act.put, List.setIfInBounds_toArray, List.set_cons_zero, List.set_cons_succ, List.toList_toArray]
        refine wpAnyH_take (i := 13) (v := .bool (decide (q + sumL R + sumL B ≤ 16))) (by simp only [List.getElem?_toArray, List.getElem?_cons_succ, List.getElem?_cons_zero]; exact rfl) (by kernel_rfl) (by kernel_rfl) (by kernel_rfl) (by intro _ _ _ h; exact h) (Or.inl ⟨by kernel_rfl, by intro w hSw; go_simp⟩) (by assumption) ?_
        simp only [Act.put, List.setIfInBounds_toArray, List.set_cons_zero, List.set_cons_succ, List.toList_toArray]
        refine wpAnyH_done (by kernel_rfl) ?_ _
        try simp only [Act.put, List.setIfInBounds_toArray, List.set_cons_zero, List.set_cons_succ]
        go_wp2_with fail
        go_ret
        exact ⟨ret_bool HV.out.symm, hH5.2.2⟩
      · have d3 : decide (d ≤ 16) = false := decide_eq_false h3
        have HV := Lib.hid (sqOk_no3 (R := R) (B := B) h3)
        clear hR hB h1 h2 h3 hB0 hy
        go_enter Try.func37, Try.ntmps37
        go_wp2_with (first
          | (refine wpList_load_row rfl 40 (.tmp 4) rfl (w.heap.size) rfl 40 (arr (pad R)) (0, 0) _ kR Try.underlying40 rfl hiR ?_)
          | (go_at_call 48; refine (count_any (pad R) HPR.out _).mono ?_; rintro e w1 ⟨rfl, hb1⟩; rw [HCR.out]; have hcB := (kB.below hb1 kB.lt).cell 0; rw [arr_get _ 0 (by rw [HPB.out]; omega), HB0.out] at hcB; have hbel := hbel0.trans (hb1.mono hbel0.size)))
        refine wp_region_held_drew (S := (fun w' => Below w.heap.size w w')) (by kernel_rfl) (hbel.trans ((Dr.n w1 1).below _)) (fun hHeld => ?_)
        refine wpAnyH_take (i := 0) (v := .bool false) (by simp only [List.getElem?_toArray, List.getElem?_cons_succ, List.getElem?_cons_zero]; exact rfl) (by kernel_rfl) (by kernel_rfl) (by kernel_rfl) (by intro _ _ _ h; exact h) (Or.inl ⟨by kernel_rfl, by intro w hSw; go_simp⟩) (by assumption) ?_
        simp only [Act.put, List.setIfInBounds_toArray, List.set_cons_zero, List.set_cons_succ, List.toList_toArray]
        refine wpAnyH_take (i := 1) (v := .bool false) (by simp only [List.getElem?_toArray, List.getElem?_cons_succ, List.getElem?_cons_zero]; exact rfl) (by kernel_rfl) (by kernel_rfl) (by kernel_rfl) (by intro _ _ _ h; exact h) (Or.inl ⟨by kernel_rfl, by intro w hSw; go_simp⟩) (by assumption) ?_
        simp only [Act.put, List.setIfInBounds_toArray, List.set_cons_zero, List.set_cons_succ, List.toList_toArray]
        refine wpAnyH_take (i := 2) (v := undef) (by simp only [List.getElem?_toArray, List.getElem?_cons_succ, List.getElem?_cons_zero]; exact rfl) (by kernel_rfl) (by kernel_rfl) (by kernel_rfl) (by intro _ _ _ h; exact h) (Or.inr ⟨by kernel_rfl, rfl⟩) (by assumption) ?_
        simp only [Act.put, List.setIfInBounds_toArray, List.set_cons_zero, List.set_cons_succ, List.toList_toArray]
        refine wpAnyH_take (i := 3) (v := undef) (by simp only [List.getElem?_toArray, List.getElem?_cons_succ, List.getElem?_cons_zero]; exact rfl) (by kernel_rfl) (by kernel_rfl) (by kernel_rfl) (by intro _ _ _ h; exact h) (Or.inr ⟨by kernel_rfl, rfl⟩) (by assumption) ?_
        simp only [Act.put, List.setIfInBounds_toArray, List.set_cons_zero, List.set_cons_succ, List.toList_toArray]
        refine wpAnyH_take (i := 4) (v := undef) (by simp only [List.getElem?_toArray, List.getElem?_cons_succ, List.getElem?_cons_zero]; exact rfl) (by kernel_rfl) (by kernel_rfl) (by kernel_rfl) (by intro _ _ _ h; exact h) (Or.inr ⟨by kernel_rfl, rfl⟩) (by assumption) ?_
        simp only [Act.put, List.setIfInBounds_toArray, List.set_cons_zero, List.set_cons_succ, List.toList_toArray]
        refine wpAnyH_take (i := 5) (v := undef) (by simp only [List.getElem?_toArray, List.getElem?_cons_succ, List.getElem?_cons_zero]; exact rfl) (by kernel_rfl) (by kernel_rfl) (by kernel_rfl) (by intro _ _ _ h; exact h) (Or.inr ⟨by kernel_rfl, rfl⟩) (by assumption) ?_
        simp only [Act.put, List.setIfInBounds_toArray, List.set_cons_zero, List.set_cons_succ, List.toList_toArray]
        refine wpAnyH_take (i := 6) (v := undef) (by simp only [List.getElem?_toArray, List.getElem?_cons_succ, List.getElem?_cons_zero]; exact rfl) (by kernel_rfl) (by kernel_rfl) (by kernel_rfl) (by intro _ _ _ h; exact h) (Or.inr ⟨by kernel_rfl, rfl⟩) (by assumption) ?_
        simp only [Act.put, List.setIfInBounds_toArray, List.set_cons_zero, List.set_cons_succ, List.toList_toArray]
        refine wpAnyH_take (i := 7) (v := undef) (by simp only [List.getElem?_toArray, List.getElem?_cons_succ, List.getElem?_cons_zero]; exact rfl) (by kernel_rfl) (by kernel_rfl) (by kernel_rfl) (by intro _ _ _ h; exact h) (Or.inr ⟨by kernel_rfl, rfl⟩) (by assumption) ?_
        simp only [Act.put, List.setIfInBounds_toArray, List.set_cons_zero, List.set_cons_succ, List.toList_toArray]
        refine wpAnyH_take (i := 8) (v := undef) (by simp only [List.getElem?_toArray, List.getElem?_cons_succ, List.getElem?_cons_zero]; exact rfl) (by kernel_rfl) (by kernel_rfl) (by kernel_rfl) (by intro _ _ _ h; exact h) (Or.inr ⟨by kernel_rfl, rfl⟩) (by assumption) ?_
        simp only [Act.put, List.setIfInBounds_toArray, List.set_cons_zero, List.set_cons_succ, List.toList_toArray]
        refine wpAnyH_take (i := 9) (v := undef) (by simp only [List.getElem?_toArray, List.getElem?_cons_succ, List.getElem?_cons_zero]; exact rfl) (by kernel_rfl) (by kernel_rfl) (by kernel_rfl) (by intro _ _ _ h; exact h) (Or.inr ⟨by kernel_rfl, rfl⟩) (by assumption) ?_
        simp only [Act.put, List.setIfInBounds_toArray, List.set_cons_zero, List.set_cons_succ, List.toList_toArray]
        refine wpAnyH_take (i := 10) (v := undef) (by simp only [List.getElem?_toArray, List.getElem?_cons_succ, List.getElem?_cons_zero]; exact rfl) (by kernel_rfl) (by kernel_rfl) (by kernel_rfl) (by intro _ _ _ h; exact h) (Or.inr ⟨by kernel_rfl, rfl⟩) (by assumption) ?_
        simp only [Act.put, List.setIfInBounds_toArray, List.set_cons_zero, List.set_cons_succ, List.toList_toArray]
        refine wpAnyH_take (i := 11) (v := undef) (by simp only [List.getElem?_toArray, List.getElem?_cons_succ, List.getElem?_cons_zero]; exact rfl) (by kernel_rfl) (by kernel_rfl) (by kernel_rfl) (by intro _ _ _ h; exact h) (Or.inr ⟨by kernel_rfl, rfl⟩) (by assumption) ?_
        simp only [Act.put, List.setIfInBounds_toArray, List.set_cons_zero, List.set_cons_succ, List.toList_toArray]
        refine wpAnyH_take (i := 12) (v := .bool false) (by simp only [List.getElem?_toArray, List.getElem?_cons_succ, List.getElem?_cons_zero]; exact rfl) (by kernel_rfl) (by kernel_rfl) (by kernel_rfl) (by intro _ _ _ h; exact h) (Or.inl ⟨by kernel_rfl, by intro w hSw; go_simp⟩) (by assumption) ?_
        simp only [Act.put, List.setIfInBounds_toArray, List.set_cons_zero, List.set_cons_succ, List.toList_toArray]
        refine wpAnyH_take (i := 13) (v := .bool false) (by simp only [List.getElem?_toArray, List.getElem?_cons_succ, List.getElem?_cons_zero]; exact rfl) (by kernel_rfl) (by kernel_rfl) (by kernel_rfl) (by intro _ _ _ h; exact h) (Or.inl ⟨by kernel_rfl, by intro w hSw; go_simp⟩) (by assumption) ?_
        simp only [Act.put, List.setIfInBounds_toArray, List.set_cons_zero, List.set_cons_succ, List.toList_toArray]
        refine wpAnyH_done (by kernel_rfl) ?_ _
        try simp only [Act.put, List.setIfInBounds_toArray, List.set_cons_zero, List.set_cons_succ]
        go_wp2_with fail
        go_ret
        exact ⟨ret_bool HV.out.symm, hHeld⟩
    · have d2 : decide (y ≤ d) = false := decide_eq_false h2
      have HV := Lib.hid (sqOk_no2 (R := R) (B := B) (hy ▸ h2))
      clear hR hB h1 h2 hB0 hy
      go_enter Try.func37, Try.ntmps37
      go_wp2_with (first
          | (refine wpList_load_row rfl 40 (.tmp 4) rfl (w.heap.size) rfl 40 (arr (pad R)) (0, 0) _ kR Try.underlying40 rfl hiR ?_)
          | (go_at_call 48; refine (count_any (pad R) HPR.out _).mono ?_; rintro e w1 ⟨rfl, hb1⟩; rw [HCR.out]; have hcB := (kB.below hb1 kB.lt).cell 0; rw [arr_get _ 0 (by rw [HPB.out]; omega), HB0.out] at hcB; have hbel := hbel0.trans (hb1.mono hbel0.size)))
      refine wp_region_held_drew (S := (fun w' => Below w.heap.size w w')) (by kernel_rfl) (hbel.trans ((Dr.n w1 1).below _)) (fun hHeld => ?_)
      refine wpAnyH_take (i := 0) (v := .bool false) (by simp only [List.getElem?_toArray, List.getElem?_cons_succ, List.getElem?_cons_zero]; exact rfl) (by kernel_rfl) (by kernel_rfl) (by kernel_rfl) (by intro _ _ _ h; exact h) (Or.inl ⟨by kernel_rfl, by intro w hSw; go_simp⟩) (by assumption) ?_
      simp only [Act.put, List.setIfInBounds_toArray, List.set_cons_zero, List.set_cons_succ, List.toList_toArray]
      refine wpAnyH_take (i := 1) (v := .bool false) (by simp only [List.getElem?_toArray, List.getElem?_cons_succ, List.getElem?_cons_zero]; exact rfl) (by kernel_rfl) (by kernel_rfl) (by kernel_rfl) (by intro _ _ _ h; exact h) (Or.inl ⟨by kernel_rfl, by intro w hSw; go_simp⟩) (by assumption) ?_
      simp only [Act.put, List.setIfInBounds_toArray, List.set_cons_zero, List.set_cons_succ, List.toList_toArray]
      refine wpAnyH_take (i := 2) (v := undef) (by simp only [List.getElem?_toArray, List.getElem?_cons_succ, List.getElem?_cons_zero]; exact rfl) (by kernel_rfl) (by kernel_rfl) (by kernel_rfl) (by intro _ _ _ h; exact h) (Or.inr ⟨by kernel_rfl, rfl⟩) (by assumption) ?_
      simp only [Act.put, List.setIfInBounds_toArray, List.set_cons_zero, List.set_cons_succ, List.toList_toArray]
      refine wpAnyH_take (i := 3) (v := undef) (by simp only [List.getElem?_toArray, List.getElem?_cons_succ, List.getElem?_cons_zero]; exact rfl) (by kernel_rfl) (by kernel_rfl) (by kernel_rfl) (by intro _ _ _ h; exact h) (Or.inr ⟨by kernel_rfl, rfl⟩) (by assumption) ?_
      simp only [Act.put, List.setIfInBounds_toArray, List.set_cons_zero, List.set_cons_succ, List.toList_toArray]
      refine wpAnyH_take (i := 4) (v := undef) (by simp only [List.getElem?_toArray, List.getElem?_cons_succ, List.getElem?_cons_zero]; exact rfl) (by kernel_rfl) (by kernel_rfl) (by kernel_rfl) (by intro _ _ _ h; exact h) (Or.inr ⟨by kernel_rfl, rfl⟩) (by assumption) ?_
      simp only [Act.put, List.setIfInBounds_toArray, List.set_cons_zero, List.set_cons_succ, List.toList_toArray]
      refine wpAnyH_take (i := 5) (v := undef) (by simp only [List.getElem?_toArray, List.getElem?_cons_succ, List.getElem?_cons_zero]; exact rfl) (by kernel_rfl) (by kernel_rfl) (by kernel_rfl) (by intro _ _ _ h; exact h) (Or.inr ⟨by kernel_rfl, rfl⟩) (by assumption) ?_
      simp only [Act.put, List.setIfInBounds_toArray, List.set_cons_zero, List.set_cons_succ, List.toList_toArray]
      refine wpAnyH_take (i := 6) (v := undef) (by simp only [List.getElem?_toArray, List.getElem?_cons_succ, List.getElem?_cons_zero]; exact rfl) (by kernel_rfl) (by kernel_rfl) (by kernel_rfl) (by intro _ _ _ h; exact h) (Or.inr ⟨by kernel_rfl, rfl⟩) (by assumption) ?_
      simp only [Act.put, List.setIfInBounds_toArray, List.set_cons_zero, List.set_cons_succ, List.toList_toArray]
      refine wpAnyH_take (i := 7) (v := undef) (by simp only [List.getElem?_toArray, List.getElem?_cons_succ, List.getElem?_cons_zero]; exact rfl) (by kernel_rfl) (by kernel_rfl) (by kernel_rfl) (by intro _ _ _ h; exact h) (Or.inr ⟨by kernel_rfl, rfl⟩) (by assumption) ?_
      simp only [Act.put, List.setIfInBounds_toArray, List.set_cons_zero, List.set_cons_succ, List.toList_toArray]
      refine wpAnyH_take (i := 8) (v := undef) (by simp only [List.getElem?_toArray, List.getElem?_cons_succ, List.getElem?_cons_zero]; exact rfl) (by kernel_rfl) (by kernel_rfl) (by kernel_rfl) (by intro _ _ _ h; exact h) (Or.inr ⟨by kernel_rfl, rfl⟩) (by assumption) ?_
      simp only [Act.put, List.setIfInBounds_toArray, List.set_cons_zero, List.set_cons_succ, List.toList_toArray]
      refine wpAnyH_take (i := 9) (v := undef) (by simp only [List.getElem?_toArray, List.getElem?_cons_succ, List.getElem?_cons_zero]; exact rfl) (by kernel_rfl) (by kernel_rfl) (by kernel_rfl) (by intro _ _ _ h; exact h) (Or.inr ⟨by kernel_rfl, rfl⟩) (by assumption) ?_
      simp only [Act.put, List.setIfInBounds_toArray, List.set_cons_zero, List.set_cons_succ, List.toList_toArray]
      refine wpAnyH_take (i := 10) (v := undef) (by simp only [List.getElem?_toArray, List.getElem?_cons_succ, List.getElem?_cons_zero]; exact rfl) (by kernel_rfl) (by kernel_rfl) (by kernel_rfl) (by intro _ _ _ h; exact h) (Or.inr ⟨by kernel_rfl, rfl⟩) (by assumption) ?_
      simp only [Act.put, List.setIfInBounds_toArray, List.set_cons_zero, List.set_cons_succ, List.toList_toArray]
      refine wpAnyH_take (i := 11) (v := undef) (by simp only [List.getElem?_toArray, List.getElem?_cons_succ, List.getElem?_cons_zero]; exact rfl) (by kernel_rfl) (by kernel_rfl) (by kernel_rfl) (by intro _ _ _ h; exact h) (Or.inr ⟨by kernel_rfl, rfl⟩) (by assumption) ?_
      simp only [Act.put, List.setIfInBounds_toArray, List.set_cons_zero, List.set_cons_succ, List.toList_toArray]
      refine wpAnyH_take (i := 12) (v := .bool false) (by simp only [List.getElem?_toArray, List.getElem?_cons_succ, List.getElem?_cons_zero]; exact rfl) (by kernel_rfl) (by kernel_rfl) (by kernel_rfl) (by intro _ _ _ h; exact h) (Or.inl ⟨by kernel_rfl, by intro w hSw; go_simp⟩) (by assumption) ?_
      simp only [Act.put, List.setIfInBounds_toArray, List.set_cons_zero, List.set_cons_succ, List.toList_toArray]
      refine wpAnyH_take (i := 13) (v := .bool false) (by simp only [List.getElem?_toArray, List.getElem?_cons_succ, List.getElem?_cons_zero]; exact rfl) (by kernel_rfl) (by kernel_rfl) (by kernel_rfl) (by intro _ _ _ h; exact h) (Or.inl ⟨by kernel_rfl, by intro w hSw; go_simp⟩) (by assumption) ?_
      simp only [Act.put, List.setIfInBounds_toArray, List.set_cons_zero, List.set_cons_succ, List.toList_toArray]
      refine wpAnyH_done (by kernel_rfl) ?_ _
      try simp only [Act.put, List.setIfInBounds_toArray, List.set_cons_zero, List.set_cons_succ]
      go_wp2_with fail
      go_ret
      exact ⟨ret_bool HV.out.symm, hHeld⟩
  · have d1 : decide ((R.length : Int) ≤ d) = false := decide_eq_false h1
    have HV := Lib.hid (sqOk_no1 (B := B) h1)
    clear hR hB h1 hB0 hy
    go_enter Try.func37, Try.ntmps37
    go_wp2_with (first
          | (refine wpList_load_row rfl 40 (.tmp 4) rfl (w.heap.size) rfl 40 (arr (pad R)) (0, 0) _ kR Try.underlying40 rfl hiR ?_)
          | (go_at_call 48; refine (count_any (pad R) HPR.out _).mono ?_; rintro e w1 ⟨rfl, hb1⟩; rw [HCR.out]; have hcB := (kB.below hb1 kB.lt).cell 0; rw [arr_get _ 0 (by rw [HPB.out]; omega), HB0.out] at hcB; have hbel := hbel0.trans (hb1.mono hbel0.size)))
    refine wp_region_held_drew (S := (fun w' => Below w.heap.size w w')) (by kernel_rfl) (hbel.trans ((Dr.n w1 1).below _)) (fun hHeld => ?_)
    refine wpAnyH_take (i := 0) (v := .bool false) (by simp only [List.getElem?_toArray, List.getElem?_cons_succ, List.getElem?_cons_zero]; exact rfl) (by kernel_rfl) (by kernel_rfl) (by kernel_rfl) (by intro _ _ _ h; exact h) (Or.inl ⟨by kernel_rfl, by intro w hSw; go_simp⟩) (by assumption) ?_
    simp only [Act.put, List.setIfInBounds_toArray, List.set_cons_zero, List.set_cons_succ, List.toList_toArray]
    refine wpAnyH_take (i := 1) (v := .bool false) (by simp only [List.getElem?_toArray, List.getElem?_cons_succ, List.getElem?_cons_zero]; exact rfl) (by kernel_rfl) (by kernel_rfl) (by kernel_rfl) (by intro _ _ _ h; exact h) (Or.inl ⟨by kernel_rfl, by intro w hSw; go_simp⟩) (by assumption) ?_
    simp only [Act.put, List.setIfInBounds_toArray, List.set_cons_zero, List.set_cons_succ, List.toList_toArray]
    refine wpAnyH_take (i := 2) (v := undef) (by simp only [List.getElem?_toArray, List.getElem?_cons_succ, List.getElem?_cons_zero]; exact rfl) (by kernel_rfl) (by kernel_rfl) (by kernel_rfl) (by intro _ _ _ h; exact h) (Or.inr ⟨by kernel_rfl, rfl⟩) (by assumption) ?_
    simp only [Act.put, List.setIfInBounds_toArray, List.set_cons_zero, List.set_cons_succ, List.toList_toArray]
    refine wpAnyH_take (i := 3) (v := undef) (by simp only [List.getElem?_toArray, List.getElem?_cons_succ, List.getElem?_cons_zero]; exact rfl) (by kernel_rfl) (by kernel_rfl) (by kernel_rfl) (by intro _ _ _ h; exact h) (Or.inr ⟨by kernel_rfl, rfl⟩) (by assumption) ?_
    simp only [Act.put, List.setIfInBounds_toArray, List.set_cons_zero, List.set_cons_succ, List.toList_toArray]
    refine wpAnyH_take (i := 4) (v := undef) (by simp only [List.getElem?_toArray, List.getElem?_cons_succ, List.getElem?_cons_zero]; exact rfl) (by kernel_rfl) (by kernel_rfl) (by kernel_rfl) (by intro _ _ _ h; exact h) (Or.inr ⟨by kernel_rfl, rfl⟩) (by assumption) ?_
    simp only [Act.put, List.setIfInBounds_toArray, List.set_cons_zero, List.set_cons_succ, List.toList_toArray]
    refine wpAnyH_take (i := 5) (v := undef) (by simp only [List.getElem?_toArray, List.getElem?_cons_succ, List.getElem?_cons_zero]; exact rfl) (by kernel_rfl) (by kernel_rfl) (by kernel_rfl) (by intro _ _ _ h; exact h) (Or.inr ⟨by kernel_rfl, rfl⟩) (by assumption) ?_
    simp only [Act.put, List.setIfInBounds_toArray, List.set_cons_zero, List.set_cons_succ, List.toList_toArray]
    refine wpAnyH_take (i := 6) (v := undef) (by simp only [List.getElem?_toArray, List.getElem?_cons_succ, List.getElem?_cons_zero]; exact rfl) (by kernel_rfl) (by kernel_rfl) (by kernel_rfl) (by intro _ _ _ h; exact h) (Or.inr ⟨by kernel_rfl, rfl⟩) (by assumption) ?_
    simp only [Act.put, List.setIfInBounds_toArray, List.set_cons_zero, List.set_cons_succ, List.toList_toArray]
    refine wpAnyH_take (i := 7) (v := undef) (by simp only [List.getElem?_toArray, List.getElem?_cons_succ, List.getElem?_cons_zero]; exact rfl) (by kernel_rfl) (by kernel_rfl) (by kernel_rfl) (by intro _ _ _ h; exact h) (Or.inr ⟨by kernel_rfl, rfl⟩) (by assumption) ?_
    simp only [Act.put, List.setIfInBounds_toArray, List.set_cons_zero, List.set_cons_succ, List.toList_toArray]
    refine wpAnyH_take (i := 8) (v := undef) (by simp only [List.getElem?_toArray, List.getElem?_cons_succ, List.getElem?_cons_zero]; exact rfl) (by kernel_rfl) (by kernel_rfl) (by kernel_rfl) (by intro _ _ _ h; exact h) (Or.inr ⟨by kernel_rfl, rfl⟩) (by assumption) ?_
    simp only [Act.put, List.setIfInBounds_toArray, List.set_cons_zero, List.set_cons_succ, List.toList_toArray]
    refine wpAnyH_take (i := 9) (v := undef) (by simp only [List.getElem?_toArray, List.getElem?_cons_succ, List.getElem?_cons_zero]; exact rfl) (by kernel_rfl) (by kernel_rfl) (by kernel_rfl) (by intro _ _ _ h; exact h) (Or.inr ⟨by kernel_rfl, rfl⟩) (by assumption) ?_
    simp only [Act.put, List.setIfInBounds_toArray, List.set_cons_zero, List.set_cons_succ, List.toList_toArray]
    refine wpAnyH_take (i := 10) (v := undef) (by simp only [List.getElem?_toArray, List.getElem?_cons_succ, List.getElem?_cons_zero]; exact rfl) (by kernel_rfl) (by kernel_rfl) (by kernel_rfl) (by intro _ _ _ h; exact h) (Or.inr ⟨by kernel_rfl, rfl⟩) (by assumption) ?_
    simp only [Act.put, List.setIfInBounds_toArray, List.set_cons_zero, List.set_cons_succ, List.toList_toArray]
    refine wpAnyH_take (i := 11) (v := undef) (by simp only [List.getElem?_toArray, List.getElem?_cons_succ, List.getElem?_cons_zero]; exact rfl) (by kernel_rfl) (by kernel_rfl) (by kernel_rfl) (by intro _ _ _ h; exact h) (Or.inr ⟨by kernel_rfl, rfl⟩) (by assumption) ?_
    simp only [Act.put, List.setIfInBounds_toArray, List.set_cons_zero, List.set_cons_succ, List.toList_toArray]
    refine wpAnyH_take (i := 12) (v := .bool false) (by simp only [List.getElem?_toArray, List.getElem?_cons_succ, List.getElem?_cons_zero]; exact rfl) (by kernel_rfl) (by kernel_rfl) (by kernel_rfl) (by intro _ _ _ h; exact h) (Or.inl ⟨by kernel_rfl, by intro w hSw; go_simp⟩) (by assumption) ?_
    simp only [Act.put, List.setIfInBounds_toArray, List.set_cons_zero, List.set_cons_succ, List.toList_toArray]
    refine wpAnyH_take (i := 13) (v := .bool false) (by simp only [List.getElem?_toArray, List.getElem?_cons_succ, List.getElem?_cons_zero]; exact rfl) (by kernel_rfl) (by kernel_rfl) (by kernel_rfl) (by intro _ _ _ h; exact h) (Or.inl ⟨by kernel_rfl, by intro w hSw; go_simp⟩) (by assumption) ?_
    simp only [Act.put, List.setIfInBounds_toArray, List.set_cons_zero, List.set_cons_succ, List.toList_toArray]
    refine wpAnyH_done (by kernel_rfl) ?_ _
    try simp only [Act.put, List.setIfInBounds_toArray, List.set_cons_zero, List.set_cons_succ]
    go_wp2_with fail
    go_ret
    exact ⟨ret_bool HV.out.symm, hHeld⟩

set_option maxHeartbeats 4000000 in
theorem sqput_any (n : Nat) (R B : List Int) (hok : sqOk n R B = true) (w : World) :
    Calls Try.prog 38 #[.int .i64 n, .agg (arr (pad R)), .agg (arr (pad B))] w fun e w' => e = .returned (.agg (arr (pad (sqPut n R B)))) ∧ Below w.heap.size w w' := by
  obtain ⟨h0, h16, hR, hB, hRl, hB0, hs⟩ := (sqOk_iff _ _ _).1 hok
  obtain ⟨t1, tw2, hput, hm, hlen, h1, hvP⟩ := sq_put hok
  have hn : n ≤ 16 := by omega
  have hlR := (valid_bd hR).2.2.2
  have hlB := (valid_bd hB).2.2.2
  have hvA := valid_adp t1
  have hlA := (valid_bd hvA).2.2.2
  have hlPP := (valid_bd hvP).2.2.2
  have HPR := Lib.hid (pad_len hlR)
  have HPB := Lib.hid (pad_len hlB)
  have HPA := Lib.hid (pad_len hlA)
  have hps : (pad (sqs n)).length = 16 := by rw [← fillN_end, fillN_len n _ hn]
  have HPS := Lib.hid hps
  have hgs : ∀ i, (pad (sqs n)).getD i 0 = (sqs n).getD i 0 := fun i => pad_getD (by simp [sqs]; omega) i
  have HPL : Hid (∀ i, (0 ≤ (pad R).getD i 0 ∧ (pad R).getD i 0 ≤ 1000) ∧ (0 ≤ (pad (sqs n)).getD i 0 ∧ (pad (sqs n)).getD i 0 ≤ 1000)) := Lib.hid fun i => by
    rw [pad_getD hlR, hgs, sqs_getD]
    have := getD_nn hR i
    refine ⟨by omega, ?_⟩
    split <;> omega
  have HAD : Hid (amid (pad R) (pad (sqs n)) 16 = pad (adp (sqs n) R)) := Lib.hid (by
    rw [adp_comm, ← amid_end (by rw [two_comm]; exact t1)]
    unfold amid
    simp only [pad_getD hlR, hgs])
  have HUM : Hid ((um (fun i => (pad (adp (sqs n) R)).getD i 0) (fun i => (pad B).getD i 0) 16).1 = pad (sqPut n R B)) := Lib.hid (by
    have e1 : (fun i => (pad (adp (sqs n) R)).getD i 0) = fun i => (adp (sqs n) R).getD i 0 := by funext i; exact pad_getD hlA i
    have e2 : (fun i => (pad B).getD i 0) = fun i => B.getD i 0 := by funext i; exact pad_getD hlB i
    rw [e1, e2]
    exact sq_um hok)
  have hu := Try.underlying40
  have hiRi : (Try.prog.info? 40).map (·.size) = some (ints (pad R)).length := by rw [List.length_map, pad_len hlR]; exact T_info35
  have hlRi : (ints (pad R)).length = 16 := by rw [List.length_map, pad_len hlR]
  have hzRi : (ints (pad R)).toArray.size = 16 := by rw [List.size_toArray]; exact hlRi
  have h1Ri := ints_one (pad R)
  have hiBi : (Try.prog.info? 40).map (·.size) = some (ints (pad B)).length := by rw [List.length_map, pad_len hlB]; exact T_info35
  have hlBi : (ints (pad B)).length = 16 := by rw [List.length_map, pad_len hlB]
  have hzBi : (ints (pad B)).toArray.size = 16 := by rw [List.size_toArray]; exact hlBi
  have h1Bi := ints_one (pad B)
  have hiP : (Try.prog.info? 40).map (·.size) = some (ints (pad (sqPut n R B))).length := by rw [List.length_map, pad_len hlPP]; exact T_info35
  have hlP : (ints (pad (sqPut n R B))).length = 16 := by rw [List.length_map, pad_len hlPP]
  have hzP : (ints (pad (sqPut n R B))).toArray.size = 16 := by rw [List.size_toArray]; exact hlP
  have h1P := ints_one (pad (sqPut n R B))
  obtain ⟨wA, hwA⟩ : ∃ wA, wA = ((w.alloc (.cells (arr (pad R)) 40)).alloc (.cells (arr (pad B)) 40)).alloc (.cells (#[.int .i64 0, .int .i64 0, .int .i64 0, .int .i64 0, .int .i64 0, .int .i64 0, .int .i64 0, .int .i64 0, .int .i64 0, .int .i64 0, .int .i64 0, .int .i64 0, .int .i64 0, .int .i64 0, .int .i64 0, .int .i64 0]) 40) := ⟨_, rfl⟩
  have k0 : Blk wA w.heap.size 40 (arr (pad R)) := by rw [hwA]; exact ((Blk.new w 40 (arr (pad R))).alloc _).alloc _
  have k1 : Blk wA (w.heap.size + 1) 40 (arr (pad B)) := by
    rw [hwA]
    have e := Blk.new (w.alloc (.cells (arr (pad R)) 40)) 40 (arr (pad B))
    rw [World.size_alloc] at e
    exact e.alloc _
  have k2 : Blk wA (w.heap.size + 2) 40 (arr (List.replicate 16 0)) := by
    rw [hwA]
    have e := Blk.new ((w.alloc (.cells (arr (pad R)) 40)).alloc (.cells (arr (pad B)) 40)) 40 (arr (List.replicate 16 0))
    rw [World.size_alloc, World.size_alloc] at e
    exact e
  have hbel0 : Below w.heap.size w wA := by
    rw [hwA]
    exact (((Below.refl _ _).alloc (Nat.le_refl _) _).alloc (by simp) _).alloc (by simp; omega) _
  have r0 := rng_of k0
  have r1 := rng_of k1
  have t2 := k2.there
  clear hok h0 h16 hR hB hRl hB0 hs t1 tw2 hput hm hlen h1 hvP hvA hps hgs k0 k1 k2
  go_enter Try.func38, Try.ntmps38
  go_wp2_with fail
  rw [← hwA]
  clear hwA
  refine wp_region_held_drew (S := (fun w' => w'.rangeAt w.heap.size 0 (ints (pad R)) ∧ w'.rangeAt (w.heap.size + 1) 0 (ints (pad B)) ∧ w'.there (w.heap.size + 2) 0 16 ∧ Below w.heap.size w w')) (by kernel_rfl) ⟨r0, r1, t2, hbel0.trans ((Dr.n wA 1).below _)⟩ (fun hHeld => ?_)
  refine wpAnyH_take (i := 0) (v := _) (by simp only [List.getElem?_toArray, List.getElem?_cons_succ, List.getElem?_cons_zero]; exact rfl) (by kernel_rfl) (by kernel_rfl) (by kernel_rfl) (by intro _ _ _ h; exact h) (yieldsIf_load_mid (by kernel_rfl) _ _ rfl w.heap.size 0 rfl (ints (pad R)) _ (fun _ hw => hw.1) hu rfl hiRi) (by assumption) ?_
  simp only [Act.put, List.setIfInBounds_toArray, List.set_cons_zero, List.set_cons_succ, List.toList_toArray]
  refine wpAnyH_take (i := 1) (v := .int .i64 (n : Int)) (by simp only [List.getElem?_toArray, List.getElem?_cons_succ, List.getElem?_cons_zero]; exact rfl) (by kernel_rfl) (by kernel_rfl) (by kernel_rfl) (by intro _ _ _ h; exact h) (Or.inl ⟨by kernel_rfl, by intro w hSw; go_simp⟩) (by assumption) ?_
  simp only [Act.put, List.setIfInBounds_toArray, List.set_cons_zero, List.set_cons_succ, List.toList_toArray]
  refine wpAnyH_take (i := 4) (v := _) (by simp only [List.getElem?_toArray, List.getElem?_cons_succ, List.getElem?_cons_zero]; exact rfl) (by kernel_rfl) (by kernel_rfl) (by kernel_rfl) (by intro _ _ _ h; exact h) (yieldsIf_load_mid (by kernel_rfl) _ _ rfl (w.heap.size + 1) 0 rfl (ints (pad B)) _ (fun _ hw => hw.2.1) hu rfl hiBi) (by assumption) ?_
  simp only [Act.put, List.setIfInBounds_toArray, List.set_cons_zero, List.set_cons_succ, List.toList_toArray]
  refine wpAnyH_ready (rs := [2]) (by kernel_rfl) (by simp) ?_
  refine AllReadyH.cons (o := _) (by simp only [List.getElem?_toArray, List.getElem?_cons_succ, List.getElem?_cons_zero]; exact rfl) (fun K hK => ?_) AllReadyH.nil
  rw [if_pos (by rfl)]
  go_simp
  go_at_call 50
  refine (sqdiag_any n (by omega) _).mono ?_
  rintro e w5 ⟨rfl, hbd⟩
  refine hK.out _ _ ⟨range_below hHeld.1 hbd, range_below hHeld.2.1 hbd, there_below hHeld.2.2.1 hbd, hHeld.2.2.2.trans (hbd.mono hHeld.2.2.2.size)⟩ (fun hH2 => ?_)
  clear hK K
  try simp only [Act.put, List.setIfInBounds_toArray, List.set_cons_zero, List.set_cons_succ, List.toList_toArray]
  refine wpAnyH_ready (rs := [3]) (by kernel_rfl) (by simp) ?_
  refine AllReadyH.cons (o := _) (by simp only [List.getElem?_toArray, List.getElem?_cons_succ, List.getElem?_cons_zero]; exact rfl) (fun K hK => ?_) AllReadyH.nil
  rw [if_pos (by rfl)]
  go_simp
  go_at_call 33
  refine (plus_any (pad R) (pad (sqs n)) HPR.out HPS.out HPL.out _).mono ?_
  rintro e w6 ⟨rfl, hbd⟩
  rw [HAD.out]
  refine hK.out _ _ ⟨range_below hH2.1 hbd, range_below hH2.2.1 hbd, there_below hH2.2.2.1 hbd, hH2.2.2.2.trans (hbd.mono hH2.2.2.2.size)⟩ (fun hH3 => ?_)
  clear hK K
  try simp only [Act.put, List.setIfInBounds_toArray, List.set_cons_zero, List.set_cons_succ, List.toList_toArray]
  refine wpAnyH_ready (rs := [5]) (by kernel_rfl) (by simp) ?_
  refine AllReadyH.cons (o := _) (by simp only [List.getElem?_toArray, List.getElem?_cons_succ, List.getElem?_cons_zero]; exact rfl) (fun K hK => ?_) AllReadyH.nil
  rw [if_pos (by rfl)]
  go_simp
  go_at_call 29
  refine (unite_any (pad (adp (sqs n) R)) (pad B) HPA.out HPB.out _).mono ?_
  rintro e w7 ⟨rfl, hbd⟩
  rw [HUM.out]
  refine hK.out _ _ ⟨range_below hH3.1 hbd, range_below hH3.2.1 hbd, there_below hH3.2.2.1 hbd, hH3.2.2.2.trans (hbd.mono hH3.2.2.2.size)⟩ (fun hH4 => ?_)
  clear hK K
  try simp only [Act.put, List.setIfInBounds_toArray, List.set_cons_zero, List.set_cons_succ, List.toList_toArray]
  refine wpAnyH_ready (rs := [6]) (by kernel_rfl) (by simp) ?_
  refine AllReadyH.cons (o := _) (by simp only [List.getElem?_toArray, List.getElem?_cons_succ, List.getElem?_cons_zero]; exact rfl) (fun K hK => ?_) AllReadyH.nil
  rw [if_pos (by rfl)]
  refine wp_store_mid _ _ _ rfl (w.heap.size + 2) 0 (ints (pad (sqPut n R B))).toArray rfl rfl (by rw [hzP]; exact hH4.2.2.1) (by rw [hzP]; exact T_info35) (all_oneCell_toArray h1P) ?_
  simp only [Act.put, List.setIfInBounds_toArray, List.set_cons_zero, List.set_cons_succ, List.toList_toArray]
  refine hK.out _ _ ⟨World.rangeAt_setCells_apart hH4.1 _ _ _ (.inl (by omega)), World.rangeAt_setCells_apart hH4.2.1 _ _ _ (.inl (by omega)), World.there_setCells hH4.2.2.1 _ _ _, below_setCells (by omega) _ _ _ _ hH4.2.2.2⟩ (fun hT => ?_)
  clear hK K
  try simp only [Act.put, List.setIfInBounds_toArray, List.set_cons_zero, List.set_cons_succ, List.toList_toArray]
  refine wpAnyH_done (by kernel_rfl) ?_ _
  try simp only [Act.put, List.setIfInBounds_toArray, List.set_cons_zero, List.set_cons_succ]
  have rA := World.rangeAt_setCells_same _ (w.heap.size + 2) 0 (ints (pad (sqPut n R B))) (by rw [hlP]; exact hH4.2.2.1)
  go_wp2_with fail
  refine bodyPost_ret (results_1cell rfl _ _ (w.heap.size + 2) (ints (pad (sqPut n R B))) _ rfl rA hu rfl hiP) rfl ?_
  exact ⟨rfl, hT.2.2.2⟩
end Go.Proofs.Ytldbjnnolebfbaa
