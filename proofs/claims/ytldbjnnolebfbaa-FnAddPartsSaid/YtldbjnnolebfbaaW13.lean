/-
  Walks: parts united and added, of the program and of the model.
-/
import Derived.Test.YtldbjnnolebfbaaW24
namespace Go.Proofs.Ytldbjnnolebfbaa
open Go.RowKit NP
set_option linter.unusedVariables false

theorem um_set {U : List Int} {N : Nat} (hU : U.length = N) (hN : N < 16) (x : Int) : (U ++ List.replicate (16 - N) 0).set N x = (U ++ [x]) ++ List.replicate (16 - (N + 1)) 0 := by
  rw [show 16 - N = (16 - (N + 1)) + 1 by omega, List.replicate_succ, List.set_append_right _ _ (by omega), hU, Nat.sub_self, List.set_cons_zero]
  simp

theorem unite_any (D E : List Int) (hD : D.length = 16) (hE : E.length = 16) (w : World) :
    Calls Try.prog 29 #[.agg (arr D), .agg (arr E)] w fun e w' => e = .returned (.agg (arr (um (fun i => D.getD i 0) (fun i => E.getD i 0) 16).1)) ∧ Below w.heap.size w w' := by
  have hd16 : 16 ≤ D.length := by omega
  have he16 : 16 ≤ E.length := by omega
  have hb0 := ((Blk.new w 40 (arr D)).alloc (.cells (arr E) 40)).alloc (.cells (arr (List.replicate 16 0)) 40) |>.alloc (.cells (arr (List.replicate 16 0)) 40)
  have hb1 := ((Blk.new (w.alloc (.cells (arr D) 40)) 40 (arr E)).alloc (.cells (arr (List.replicate 16 0)) 40)).alloc (.cells (arr (List.replicate 16 0)) 40)
  have hb2 := (Blk.new ((w.alloc (.cells (arr D) 40)).alloc (.cells (arr E) 40)) 40 (arr (List.replicate 16 0))).alloc (.cells (arr (List.replicate 16 0)) 40)
  have hb3 := Blk.new (((w.alloc (.cells (arr D) 40)).alloc (.cells (arr E) 40)).alloc (.cells (arr (List.replicate 16 0)) 40)) 40 (arr (List.replicate 16 0))
  rw [World.size_alloc] at hb1
  rw [World.size_alloc, World.size_alloc] at hb2
  rw [World.size_alloc, World.size_alloc, World.size_alloc] at hb3
  have hbel0 : Below w.heap.size w ((((w.alloc (.cells (arr D) 40)).alloc (.cells (arr E) 40)).alloc (.cells (arr (List.replicate 16 0)) 40)).alloc (.cells (arr (List.replicate 16 0)) 40)) :=
    ((((Below.refl _ _).alloc (Nat.le_refl _) _).alloc (by simp) _).alloc (by simp; omega) _).alloc (by simp; omega) _
  have HDE := Lib.hid (And.intro hD hE)
  clear hD hE
  go_enter Try.func29, Try.ntmps29
  go_wp2
  go_loopw [6, 7, 8, 9] (fun vi vk vp vn wr => ∃ N : Nat, N ≤ 16 ∧ vn = .int .i64 N ∧ vi = .int .i64 ((um (fun i => D.getD i 0) (fun i => E.getD i 0) N).2.1 : Nat) ∧ vk = .int .i64 ((um (fun i => D.getD i 0) (fun i => E.getD i 0) N).2.2 : Nat) ∧ Below w.heap.size w wr ∧ Blk wr w.heap.size 40 (arr D) ∧ Blk wr (w.heap.size + 1) 40 (arr E) ∧ Blk wr (w.heap.size + 2) 40 (arr (List.replicate 16 0)) ∧ Blk wr (w.heap.size + 3) 40 (arr ((um (fun i => D.getD i 0) (fun i => E.getD i 0) N).1 ++ List.replicate (16 - N) 0))) (fun _ _ _ vn _ => 16 - (intOf vn).toNat)
  case atStart => exact ⟨0, Nat.zero_le _, rfl, rfl, rfl, hbel0, hb0, hb1, hb2, hb3⟩
  case round =>
    obtain ⟨N, hN, rfl, rfl, rfl, hbel, hbD, hbE, hbZ, hbU⟩ := hrel
    have hct := um_count (fun i => D.getD i 0) (fun i => E.getD i 0) N
    have HY := Lib.hid (um_step_yes (fun i => D.getD i 0) (fun i => E.getD i 0) N)
    have HNO := Lib.hid (um_step_no (fun i => D.getD i 0) (fun i => E.getD i 0) N)
    clear hb0 hb1 hb2 hb3 hbel0
    by_cases hlt : N < 16
    · generalize (um (fun i => D.getD i 0) (fun i => E.getD i 0) N).1 = U at *
      generalize (um (fun i => D.getD i 0) (fun i => E.getD i 0) N).2.1 = i at *
      generalize (um (fun i => D.getD i 0) (fun i => E.getD i 0) N).2.2 = k at *
      obtain ⟨hik, hUl⟩ := hct
      have hi16 : i < 16 := by omega
      have hk16 : k < 16 := by omega
      have hi16' : (i : Int) < 16 := by omega
      have hk16' : (k : Int) < 16 := by omega
      have hlt' : (N : Int) < 16 := by omega
      have hc1 : wr.cell? ⟨w.heap.size, i, none⟩ = some (.int .i64 (D.getD i 0)) := by rw [hbD.cell i, arr_get D i (by omega), getD_lt]
      have hc2 : wr.cell? ⟨w.heap.size + 1, k, none⟩ = some (.int .i64 (E.getD k 0)) := by rw [hbE.cell k, arr_get E k (by omega), getD_lt]
      have hUs : N < (U ++ List.replicate (16 - N) 0).length := by simp; omega
      have hc3 : wr.cell? ⟨w.heap.size + 3, N, none⟩ = some (.int .i64 ((U ++ List.replicate (16 - N) 0)[N])) := by rw [hbU.cell N, arr_get _ N hUs]
      have hf3 : wr.frozen? ⟨w.heap.size + 3, N, none⟩ = false := hbU.free N
      have HS := Lib.hid (um_set hUl hlt)
      obtain ⟨x, hx⟩ : ∃ x, x = D.getD i 0 := ⟨_, rfl⟩
      obtain ⟨y, hy⟩ : ∃ y, y = E.getD k 0 := ⟨_, rfl⟩
      rw [← hx] at hc1
      rw [← hy] at hc2
      generalize (U ++ List.replicate (16 - N) 0)[N] = z at hc3
      by_cases hle : y ≤ x
      · have HE := Lib.hid (HY.out (by rw [hx, hy] at hle; exact hle))
        have HX := Lib.hid hx
        clear hx hy hUs hik hUl
        go_wp2_with fail
        go_quiet (fail)
        go_wp2
        go_roundw
        case rel =>
          refine ⟨N + 1, by omega, by go_num, by rw [HE.out]; go_num, by rw [HE.out], (hbel.trans ((Dr.n wr _).below _)).setCell (by show w.heap.size ≤ w.heap.size + 3; omega) _, (hbD.drewN _).off (by show w.heap.size ≠ w.heap.size + 3; omega) _, (hbE.drewN _).off (by show w.heap.size + 1 ≠ w.heap.size + 3; omega) _, (hbZ.drewN _).off (by show w.heap.size + 2 ≠ w.heap.size + 3; omega) _, ?_⟩
          have e := (hbU.drewN nq).set N (.int .i64 x)
          rw [arr_set, HS.out] at e
          rw [HE.out]
          show Blk _ _ _ (arr (U ++ [D.getD i 0] ++ List.replicate (16 - (N + 1)) 0))
          rw [← HX.out]
          exact e
        case measure => simp [intOf]; omega
      · have HE := Lib.hid (HNO.out (by rw [hx, hy] at hle; exact hle))
        have hle' : x < y := by omega
        have HX := Lib.hid hy
        clear hx hy hUs hik hUl hle
        go_wp2_with fail
        go_quiet (fail)
        go_wp2
        go_roundw
        case rel =>
          refine ⟨N + 1, by omega, by go_num, by rw [HE.out], by rw [HE.out]; go_num, (hbel.trans ((Dr.n wr _).below _)).setCell (by show w.heap.size ≤ w.heap.size + 3; omega) _, (hbD.drewN _).off (by show w.heap.size ≠ w.heap.size + 3; omega) _, (hbE.drewN _).off (by show w.heap.size + 1 ≠ w.heap.size + 3; omega) _, (hbZ.drewN _).off (by show w.heap.size + 2 ≠ w.heap.size + 3; omega) _, ?_⟩
          have e := (hbU.drewN nq).set N (.int .i64 y)
          rw [arr_set, HS.out] at e
          rw [HE.out]
          show Blk _ _ _ (arr (U ++ [E.getD k 0] ++ List.replicate (16 - (N + 1)) 0))
          rw [← HX.out]
          exact e
        case measure => simp [intOf]; omega
    · obtain rfl : N = 16 := by omega
      obtain ⟨U, hU⟩ : ∃ U, U = (um (fun i => D.getD i 0) (fun i => E.getD i 0) 16).1 := ⟨_, rfl⟩
      rw [← hU] at hct hbU
      have hbU' : Blk wr (w.heap.size + 3) 40 (arr U) := by have e := hbU; simp at e; exact e
      have hiU : (Try.prog.info? 40).map (·.size) = some (arr U).size := by rw [arr_size, hct.2]; exact T_info35
      have hsU : (arr U).size = (arr (List.replicate 16 0)).size := by rw [arr_size, arr_size, hct.2]; rfl
      have HU := Lib.hid hU
      clear hbU HY HNO hU hct
      go_wp2_with (first | (refine wpList_load_row rfl 40 (.tmp 5) rfl (w.heap.size + 3) rfl 40 (arr U) (0, 0) _ hbU' Try.underlying40 rfl hiU ?_) | (refine wpList_store_row rfl 40 (.tmp 4) (.tmp 34) rfl (w.heap.size + 2) rfl (arr U) rfl 40 _ hbZ hiU hsU (arr_one _) ?_))
      refine bodyPost_ret (results_cell_row rfl _ _ (w.heap.size + 2) 40 (arr U) (0, 0) _ rfl hbZ.row Try.underlying40 rfl hiU) rfl ?_
      exact ⟨by rw [HU.out], below_setRow' hbel (by omega) _⟩
set_option maxHeartbeats 1000000 in
theorem iUniteParts_any    (a b : Option Addr) (ca cb Ba Bb : Nat) (P Q : List Int) (w : World) (h : Rd w Ba a (ints P)) (hq : Rd w Bb b (ints Q)) (hBa : Ba ≤ w.heap.size) (hBb : Bb ≤ w.heap.size) (hl : P.length ≤ 4611686018427387904) (hlq : Q.length ≤ 4611686018427387904) :
    Calls Try.prog 11 #[.slice a P.length ca, .slice b Q.length cb] w fun e w' => ∃ a' c', e = .returned (.tuple #[.slice a' (uniF P Q).length c', .bool (two P Q)]) ∧ Own w' w.heap.size w'.heap.size 3 (.slice a' (uniF P Q).length c') (ints (uniF P Q)) ∧ Below w.heap.size w w' := by
  have hiP : (Try.prog.info? 40).map (·.size) = some (arr (dg P)).size := by rw [arr_size, dg_len]; exact T_info35
  have hszP : (arr (dg P)).size = (arr (List.replicate 16 0)).size := by rw [arr_size, arr_size, dg_len]; rfl
  have hiQ : (Try.prog.info? 40).map (·.size) = some (arr (dg Q)).size := by rw [arr_size, dg_len]; exact T_info35
  have hszQ : (arr (dg Q)).size = (arr (List.replicate 16 0)).size := by rw [arr_size, arr_size, dg_len]; rfl
  cases ht : two P Q with
  | true =>
    have HT := Lib.hid ht
    have HF := Lib.hid (uniF_yes ht)
    have hvu := valid_uni ht
    have HV := Lib.hid hvu
    obtain ⟨hvp, hvq, _⟩ := two_out ht
    have hum : (um (fun i => (dg P).getD i 0) (fun i => (dg Q).getD i 0) 16).1 = pad (uni P Q) := by
      rw [← um_uni ht]
      have e1 : (fun i => (dg P).getD i 0) = (fun i => P.getD i 0) := by funext i; rw [dg_yes hvp]; exact pad_getD (valid_bd hvp).2.2.2 i
      have e2 : (fun i => (dg Q).getD i 0) = (fun i => Q.getD i 0) := by funext i; rw [dg_yes hvq]; exact pad_getD (valid_bd hvq).2.2.2 i
      rw [e1, e2]
    have HUM := Lib.hid hum
    clear ht hvu hvp hvq hum
    go_enter Try.func11, Try.ntmps11
    go_wp2_with (first
      | (go_at_call 30; refine (list_any (uni P Q) HV.out _).mono ?_; rintro e w4 ⟨a', rfl, ho4, hb4⟩)
      | (go_at_call 29; refine (unite_any (dg P) (dg Q) (dg_len P) (dg_len Q) _).mono ?_; rintro e w3 ⟨rfl, hb3⟩; rw [HUM.out])
      | (refine wpList_load_row rfl 40 (.tmp 6) rfl w1.heap.size rfl 40 (arr (dg P)) (0, 0) _ hB6 Try.underlying40 rfl hiP ?_)
      | (refine wpList_load_row rfl 40 (.tmp 7) rfl (w1.heap.size + 1) rfl 40 (arr (dg Q)) (0, 0) _ hB7 Try.underlying40 rfl hiQ ?_)
      | (refine wpList_store_row rfl 40 (.tmp 6) (.tmp 13) rfl w1.heap.size rfl (arr (dg P)) rfl 40 (arr (List.replicate 16 0)) ((Blk.new w1 _ _).alloc _) hiP hszP (arr_one _) ?_)
      | (refine wpList_store_row rfl 40 (.tmp 7) (.tmp 14) rfl (w1.heap.size + 1) rfl (arr (dg Q)) rfl 40 (arr (List.replicate 16 0)) (first_row w1 _ _ _) hiQ hszQ (arr_one _) ?_; have hR := two_rows w1 40 (arr (List.replicate 16 0)) (arr (dg P)) (arr (dg Q)); obtain ⟨w2, hw2⟩ : ∃ w2, w2 = (((w1.alloc (.cells (#[.int .i64 0, .int .i64 0, .int .i64 0, .int .i64 0, .int .i64 0, .int .i64 0, .int .i64 0, .int .i64 0, .int .i64 0, .int .i64 0, .int .i64 0, .int .i64 0, .int .i64 0, .int .i64 0, .int .i64 0, .int .i64 0]) 40)).alloc (.cells (#[.int .i64 0, .int .i64 0, .int .i64 0, .int .i64 0, .int .i64 0, .int .i64 0, .int .i64 0, .int .i64 0, .int .i64 0, .int .i64 0, .int .i64 0, .int .i64 0, .int .i64 0, .int .i64 0, .int .i64 0, .int .i64 0]) 40)).setRow w1.heap.size (arr (dg P))).setRow (w1.heap.size + 1) (arr (dg Q)) := ⟨_, rfl⟩; rw [← hw2]; replace hR : Blk w2 w1.heap.size 40 (arr (dg P)) ∧ Blk w2 (w1.heap.size + 1) 40 (arr (dg Q)) ∧ Below w1.heap.size w1 w2 := hw2 ▸ hR; clear hw2; obtain ⟨hB6, hB7, hbw⟩ := hR; have hb2 := hb1.trans (hbw.mono hb1.size))
      | (go_at_call 28; refine (twoThatFit_any _ _ _ _ Ba Bb P Q _ h hq hBa hBb hl hlq).mono ?_; rintro e w1 ⟨rfl, hb1⟩; rw [HT.out]))
    go_ret2
    have hb3' := hb2.trans (hb3.mono hb2.size)
    rw [HF.out]
    exact ⟨a', (uni P Q).length, rfl, ho4.lower hb3'.size, hb3'.trans (hb4.mono hb3'.size)⟩
  | false =>
    have HT := Lib.hid ht
    have HF := Lib.hid (uniF_no ht)
    clear ht
    go_enter Try.func11, Try.ntmps11
    go_wp2_with (first
      | (refine wpList_store_row rfl 40 (.tmp 6) (.tmp 13) rfl w1.heap.size rfl (arr (dg P)) rfl 40 (arr (List.replicate 16 0)) ((Blk.new w1 _ _).alloc _) hiP hszP (arr_one _) ?_)
      | (refine wpList_store_row rfl 40 (.tmp 7) (.tmp 14) rfl (w1.heap.size + 1) rfl (arr (dg Q)) rfl 40 (arr (List.replicate 16 0)) (first_row w1 _ _ _) hiQ hszQ (arr_one _) ?_; have hR := two_rows w1 40 (arr (List.replicate 16 0)) (arr (dg P)) (arr (dg Q)); obtain ⟨w2, hw2⟩ : ∃ w2, w2 = (((w1.alloc (.cells (#[.int .i64 0, .int .i64 0, .int .i64 0, .int .i64 0, .int .i64 0, .int .i64 0, .int .i64 0, .int .i64 0, .int .i64 0, .int .i64 0, .int .i64 0, .int .i64 0, .int .i64 0, .int .i64 0, .int .i64 0, .int .i64 0]) 40)).alloc (.cells (#[.int .i64 0, .int .i64 0, .int .i64 0, .int .i64 0, .int .i64 0, .int .i64 0, .int .i64 0, .int .i64 0, .int .i64 0, .int .i64 0, .int .i64 0, .int .i64 0, .int .i64 0, .int .i64 0, .int .i64 0, .int .i64 0]) 40)).setRow w1.heap.size (arr (dg P))).setRow (w1.heap.size + 1) (arr (dg Q)) := ⟨_, rfl⟩; rw [← hw2]; replace hR : Blk w2 w1.heap.size 40 (arr (dg P)) ∧ Blk w2 (w1.heap.size + 1) 40 (arr (dg Q)) ∧ Below w1.heap.size w1 w2 := hw2 ▸ hR; clear hw2; obtain ⟨hB6, hB7, hbw⟩ := hR; have hb2 := hb1.trans (hbw.mono hb1.size))
      | (go_at_call 28; refine (twoThatFit_any _ _ _ _ Ba Bb P Q _ h hq hBa hBb hl hlq).mono ?_; rintro e w1 ⟨rfl, hb1⟩; rw [HT.out]))
    go_ret2
    rw [HF.out]
    exact ⟨none, 0, rfl, own_nil0 _ _ _, hb2⟩

set_option maxHeartbeats 1000000 in
theorem iAddParts_any    (a b : Option Addr) (ca cb Ba Bb : Nat) (P Q : List Int) (w : World) (h : Rd w Ba a (ints P)) (hq : Rd w Bb b (ints Q)) (hBa : Ba ≤ w.heap.size) (hBb : Bb ≤ w.heap.size) (hl : P.length ≤ 4611686018427387904) (hlq : Q.length ≤ 4611686018427387904) :
    Calls Try.prog 17 #[.slice a P.length ca, .slice b Q.length cb] w fun e w' => ∃ a' c', e = .returned (.tuple #[.slice a' (adpF P Q).length c', .bool (two P Q)]) ∧ Own w' w.heap.size w'.heap.size 3 (.slice a' (adpF P Q).length c') (ints (adpF P Q)) ∧ Below w.heap.size w w' := by
  have hiP : (Try.prog.info? 40).map (·.size) = some (arr (dg P)).size := by rw [arr_size, dg_len]; exact T_info35
  have hszP : (arr (dg P)).size = (arr (List.replicate 16 0)).size := by rw [arr_size, arr_size, dg_len]; rfl
  have hiQ : (Try.prog.info? 40).map (·.size) = some (arr (dg Q)).size := by rw [arr_size, dg_len]; exact T_info35
  have hszQ : (arr (dg Q)).size = (arr (List.replicate 16 0)).size := by rw [arr_size, arr_size, dg_len]; rfl
  cases ht : two P Q with
  | true =>
    have HT := Lib.hid ht
    have HF := Lib.hid (adpF_yes ht)
    have hvu := valid_adp ht
    have HV := Lib.hid hvu
    obtain ⟨hvp, hvq, _⟩ := two_out ht
    have e1 : ∀ i, (dg P).getD i 0 = P.getD i 0 := fun i => by rw [dg_yes hvp]; exact pad_getD (valid_bd hvp).2.2.2 i
    have e2 : ∀ i, (dg Q).getD i 0 = Q.getD i 0 := fun i => by rw [dg_yes hvq]; exact pad_getD (valid_bd hvq).2.2.2 i
    have hum : amid (dg P) (dg Q) 16 = pad (adp P Q) := by
      rw [← amid_end ht]
      unfold amid
      simp only [e1, e2]
    have hpb : ∀ i, (0 ≤ (dg P).getD i 0 ∧ (dg P).getD i 0 ≤ 1000) ∧ (0 ≤ (dg Q).getD i 0 ∧ (dg Q).getD i 0 ≤ 1000) := fun i => by
      rw [e1, e2]
      have := getD_nn hvp i
      have := getD_nn hvq i
      omega
    have HPB := Lib.hid hpb
    have HUM := Lib.hid hum
    clear ht hvu hvp hvq hum e1 e2 hpb
    go_enter Try.func17, Try.ntmps17
    go_wp2_with (first
      | (go_at_call 30; refine (list_any (adp P Q) HV.out _).mono ?_; rintro e w4 ⟨a', rfl, ho4, hb4⟩)
      | (go_at_call 33; refine (plus_any (dg P) (dg Q) (dg_len P) (dg_len Q) HPB.out _).mono ?_; rintro e w3 ⟨rfl, hb3⟩; rw [HUM.out])
      | (refine wpList_load_row rfl 40 (.tmp 6) rfl w1.heap.size rfl 40 (arr (dg P)) (0, 0) _ hB6 Try.underlying40 rfl hiP ?_)
      | (refine wpList_load_row rfl 40 (.tmp 7) rfl (w1.heap.size + 1) rfl 40 (arr (dg Q)) (0, 0) _ hB7 Try.underlying40 rfl hiQ ?_)
      | (refine wpList_store_row rfl 40 (.tmp 6) (.tmp 13) rfl w1.heap.size rfl (arr (dg P)) rfl 40 (arr (List.replicate 16 0)) ((Blk.new w1 _ _).alloc _) hiP hszP (arr_one _) ?_)
      | (refine wpList_store_row rfl 40 (.tmp 7) (.tmp 14) rfl (w1.heap.size + 1) rfl (arr (dg Q)) rfl 40 (arr (List.replicate 16 0)) (first_row w1 _ _ _) hiQ hszQ (arr_one _) ?_; have hR := two_rows w1 40 (arr (List.replicate 16 0)) (arr (dg P)) (arr (dg Q)); obtain ⟨w2, hw2⟩ : ∃ w2, w2 = (((w1.alloc (.cells (#[.int .i64 0, .int .i64 0, .int .i64 0, .int .i64 0, .int .i64 0, .int .i64 0, .int .i64 0, .int .i64 0, .int .i64 0, .int .i64 0, .int .i64 0, .int .i64 0, .int .i64 0, .int .i64 0, .int .i64 0, .int .i64 0]) 40)).alloc (.cells (#[.int .i64 0, .int .i64 0, .int .i64 0, .int .i64 0, .int .i64 0, .int .i64 0, .int .i64 0, .int .i64 0, .int .i64 0, .int .i64 0, .int .i64 0, .int .i64 0, .int .i64 0, .int .i64 0, .int .i64 0, .int .i64 0]) 40)).setRow w1.heap.size (arr (dg P))).setRow (w1.heap.size + 1) (arr (dg Q)) := ⟨_, rfl⟩; rw [← hw2]; replace hR : Blk w2 w1.heap.size 40 (arr (dg P)) ∧ Blk w2 (w1.heap.size + 1) 40 (arr (dg Q)) ∧ Below w1.heap.size w1 w2 := hw2 ▸ hR; clear hw2; obtain ⟨hB6, hB7, hbw⟩ := hR; have hb2 := hb1.trans (hbw.mono hb1.size))
      | (go_at_call 28; refine (twoThatFit_any _ _ _ _ Ba Bb P Q _ h hq hBa hBb hl hlq).mono ?_; rintro e w1 ⟨rfl, hb1⟩; rw [HT.out]))
    go_ret2
    have hb3' := hb2.trans (hb3.mono hb2.size)
    rw [HF.out]
    exact ⟨a', (adp P Q).length, rfl, ho4.lower hb3'.size, hb3'.trans (hb4.mono hb3'.size)⟩
  | false =>
    have HT := Lib.hid ht
    have HF := Lib.hid (adpF_no ht)
    clear ht
    go_enter Try.func17, Try.ntmps17
    go_wp2_with (first
      | (refine wpList_store_row rfl 40 (.tmp 6) (.tmp 13) rfl w1.heap.size rfl (arr (dg P)) rfl 40 (arr (List.replicate 16 0)) ((Blk.new w1 _ _).alloc _) hiP hszP (arr_one _) ?_)
      | (refine wpList_store_row rfl 40 (.tmp 7) (.tmp 14) rfl (w1.heap.size + 1) rfl (arr (dg Q)) rfl 40 (arr (List.replicate 16 0)) (first_row w1 _ _ _) hiQ hszQ (arr_one _) ?_; have hR := two_rows w1 40 (arr (List.replicate 16 0)) (arr (dg P)) (arr (dg Q)); obtain ⟨w2, hw2⟩ : ∃ w2, w2 = (((w1.alloc (.cells (#[.int .i64 0, .int .i64 0, .int .i64 0, .int .i64 0, .int .i64 0, .int .i64 0, .int .i64 0, .int .i64 0, .int .i64 0, .int .i64 0, .int .i64 0, .int .i64 0, .int .i64 0, .int .i64 0, .int .i64 0, .int .i64 0]) 40)).alloc (.cells (#[.int .i64 0, .int .i64 0, .int .i64 0, .int .i64 0, .int .i64 0, .int .i64 0, .int .i64 0, .int .i64 0, .int .i64 0, .int .i64 0, .int .i64 0, .int .i64 0, .int .i64 0, .int .i64 0, .int .i64 0, .int .i64 0]) 40)).setRow w1.heap.size (arr (dg P))).setRow (w1.heap.size + 1) (arr (dg Q)) := ⟨_, rfl⟩; rw [← hw2]; replace hR : Blk w2 w1.heap.size 40 (arr (dg P)) ∧ Blk w2 (w1.heap.size + 1) 40 (arr (dg Q)) ∧ Below w1.heap.size w1 w2 := hw2 ▸ hR; clear hw2; obtain ⟨hB6, hB7, hbw⟩ := hR; have hb2 := hb1.trans (hbw.mono hb1.size))
      | (go_at_call 28; refine (twoThatFit_any _ _ _ _ Ba Bb P Q _ h hq hBa hBb hl hlq).mono ?_; rintro e w1 ⟨rfl, hb1⟩; rw [HT.out]))
    go_ret2
    rw [HF.out]
    exact ⟨none, 0, rfl, own_nil0 _ _ _, hb2⟩
end Go.Proofs.Ytldbjnnolebfbaa
