/-
  Walks: parts out of arms and legs, of the program.
-/
import Derived.Test.YtemkchihbnneeaaW15
namespace Go.Proofs.Ytemkchihbnneeaa
open Go.RowKit NP
set_option linter.unusedVariables false

theorem areArms_any (a : Option Addr) (c B : Nat) (A : List Int) (w : World) (h : Rd w B a (ints A)) (hl : A.length ≤ 4611686018427387904) :
    Calls Try.prog 49 #[.slice a A.length c] w fun e w' => e = .returned (.bool (dnB 16 A)) ∧ w = w' := by
  go_enter Try.func49, Try.ntmps49
  go_wp2
  go_loop [3, 4, 7] (fun _ _ vi => ∃ k : Nat, k ≤ A.length ∧ vi = .int .i64 k ∧ Hid (∀ j, j < k → (0 ≤ A.getD j 0 ∧ A.getD j 0 < 16 ∧ (0 < j → A.getD j 0 < A.getD (j - 1) 0)))) (fun _ _ vi => A.length - (intOf vi).toNat)
  case atStart => exact ⟨0, Nat.zero_le _, rfl, Lib.hid fun j hj => by omega⟩
  case round =>
    obtain ⟨k, hk, rfl, HP⟩ := hrel
    by_cases hlt : k < A.length
    · have hlt' : (k : Int) < (A.length : Int) := by omega
      obtain ⟨b, o, rfl, _, hc⟩ := h.at_ hlt
      have HN := Lib.hid (dnB_at (m := 16) hlt)
      have hg : A.getD k 0 = A[k] := getD_lt hlt
      have HG := Lib.hid hg
      clear hg
      by_cases h1 : A[k] < 0
      · have d1 : decide (A[k] < 0) = true := decide_eq_true h1
        have HD : Hid (dnB 16 A = false) := Lib.hid (HN.out (by rw [HG.out]; intro hh; omega))
        clear h1
        go_wp2_with fail
        go_ret
        exact ⟨ret_bool HD.out.symm, rfl⟩
      · have d1 : decide (A[k] < 0) = false := decide_eq_false h1
        by_cases h2 : 16 ≤ A[k]
        · have d2 : decide (16 ≤ A[k]) = true := decide_eq_true h2
          have HD : Hid (dnB 16 A = false) := Lib.hid (HN.out (by rw [HG.out]; intro hh; omega))
          clear h1 h2
          go_wp2_with fail
          go_ret
          exact ⟨ret_bool HD.out.symm, rfl⟩
        · have d2 : decide (16 ≤ A[k]) = false := decide_eq_false h2
          by_cases h0 : k = 0
          · subst h0
            have d3 : decide ((0 : Int) < ((0 : Nat) : Int)) = false := rfl
            have HS : Hid (∀ j, j < 0 + 1 → (0 ≤ A.getD j 0 ∧ A.getD j 0 < 16 ∧ (0 < j → A.getD j 0 < A.getD (j - 1) 0))) := Lib.hid fun j hj => by
              obtain rfl : j = 0 := by omega
              rw [HG.out]
              exact ⟨by omega, by omega, fun h => by omega⟩
            have hc' : w.cell? ⟨b, o, none⟩ = some (.int .i64 A[0]) := hc
            clear h1 h2
            go_wp2_with fail
            go_round
            case rel => exact ⟨0 + 1, by omega, by go_num, HS⟩
            case measure => simp [intOf]; omega
          · have hk1 : k - 1 < A.length := by omega
            obtain ⟨b', o', e', -, hc2⟩ := h.at_ hk1
            injection e' with e'; injection e' with e1 e2; subst e1 e2
            have hg2 : A.getD (k - 1) 0 = A[k - 1] := getD_lt hk1
            have HG2 := Lib.hid hg2
            clear hg2
            have d3 : decide ((0 : Int) < (k : Int)) = true := decide_eq_true (by omega)
            have h4 : (0 : Int) < k := by omega
            have h5 : 0 < k := by omega
            have h7 : 1 ≤ k := by omega
            by_cases h3 : A[k - 1] ≤ A[k]
            · have d4 : decide (A[k - 1] ≤ A[k]) = true := decide_eq_true h3
              have HD : Hid (dnB 16 A = false) := Lib.hid (HN.out (by rw [HG.out, HG2.out]; intro hh; have := hh.2.2 h5; omega))
              clear h1 h2 h0
              go_wp2_with fail
              go_ret
              exact ⟨ret_bool HD.out.symm, rfl⟩
            · have d4 : decide (A[k - 1] ≤ A[k]) = false := decide_eq_false h3
              have HS : Hid (∀ j, j < k + 1 → (0 ≤ A.getD j 0 ∧ A.getD j 0 < 16 ∧ (0 < j → A.getD j 0 < A.getD (j - 1) 0))) := Lib.hid fun j hj => by
                rcases Nat.lt_or_ge j k with h | h
                · exact HP.out j h
                · obtain rfl : j = k := by omega
                  rw [HG.out, HG2.out]
                  exact ⟨by omega, by omega, fun h => by omega⟩
              clear h1 h2 h0 h3
              go_wp2_with fail
              go_round
              case rel => exact ⟨k + 1, by omega, by go_num, HS⟩
              case measure => simp [intOf]; omega
    · obtain rfl : k = A.length := by omega
      have HD : Hid (dnB 16 A = true) := Lib.hid ((dnB_iff 16 A).2 HP.out)
      go_wp2
      go_ret
      exact ⟨ret_bool HD.out.symm, rfl⟩

theorem fmid_cell {A B : List Int} {n : Nat} {t : Bool} {k j : Nat} (hj : j < 16) : (fmid A B n t k)[j]'(by rw [fmid_len]; exact hj) = fro A B n j + (if t = true ∧ j = n then 1 + A.getD n 0 else 0) + (if n + 1 ≤ j ∧ j < n + 1 + k then 1 else 0) := fmid_get A B n t k j _
theorem dn_len {A : List Int} (h : dnB 16 A = true) : A.length ≤ 16 := by
  rcases Nat.eq_zero_or_pos A.length with h0 | h0
  · omega
  · have h1 := dn_low h 0 h0
    have h2 := (dnB_iff 16 A).1 h 0 h0
    omega
theorem dn_bd {A : List Int} (h : dnB 16 A = true) (i : Nat) : 0 ≤ A.getD i 0 ∧ A.getD i 0 ≤ 15 := by
  rcases Nat.lt_or_ge i A.length with h1 | h1
  · have := (dnB_iff 16 A).1 h i h1; omega
  · rw [getD_ge h1]; omega
theorem dn_sum {A : List Int} (h : dnB 16 A = true) (n : Nat) : 0 ≤ sumTo A n ∧ sumTo A n ≤ 15 * n := by
  induction n with
  | zero => exact ⟨Int.le_refl _, Int.le_refl _⟩
  | succ n ih =>
    have := dn_bd h n
    rw [sumTo]
    omega

set_option maxHeartbeats 2000000 in
theorem around_any (a b : Option Addr) (ca cb Ba Bb : Nat) (P Q : List Int) (w : World) (h : Rd w Ba a (ints P)) (hq : Rd w Bb b (ints Q)) (hBa : Ba ≤ w.heap.size) (hBb : Bb ≤ w.heap.size) (hok : pofOk P Q = true) :
    Calls Try.prog 50 #[.slice a P.length ca, .slice b Q.length cb] w fun e w' => e = .returned (.agg (arr (pad (pof P Q)))) ∧ Below w.heap.size w w' := by
  obtain ⟨hvp, hvq, hlen, hsum⟩ := pofOk_out hok
  have HP := Lib.hid hvp
  have HQ := Lib.hid hvq
  have hl16 := dn_len hvp
  have HBP := Lib.hid (dn_bd hvp)
  have HBQ := Lib.hid (dn_bd hvq)
  have HEQ := Lib.hid hlen
  have HV := Lib.hid (valid_pof hok)
  have HE := Lib.hid (fmid_end (pofOk_pre hok))
  have hi16 : (Try.prog.info? 44).map (·.size) = some (arr (pad (pof P Q))).size := by rw [← HE.out, arr_size, fmid_len]; exact T_info35
  have hsz : (arr (pad (pof P Q))).size = (arr (List.replicate 16 0)).size := by rw [← HE.out, arr_size, arr_size, fmid_len]; rfl
  have HFB := Lib.hid (fun (n j : Nat) (hn : n ≤ P.length) => fro_bd (A := P) (B := Q) HP.out (n := n) (j := j) hn (by omega))
  have HZ := Lib.hid (fmid_zero P Q)
  have hbZ0 := (Blk.new w 44 (arr (List.replicate 16 0))).alloc (.cells (arr (List.replicate 16 0)) 44)
  have hbk0 := Blk.new (w.alloc (.cells (arr (List.replicate 16 0)) 44)) 44 (arr (List.replicate 16 0))
  rw [World.size_alloc] at hbk0
  have hbel0 : Below w.heap.size w ((w.alloc (.cells (arr (List.replicate 16 0)) 44)).alloc (.cells (arr (List.replicate 16 0)) 44)) := ((Below.refl _ _).alloc (Nat.le_refl _) _).alloc (by simp) _
  clear hvp hvq hlen hsum hok
  go_enter Try.func50, Try.ntmps50
  go_wp2_with fail
  go_loopw [11] (fun vi wx => ∃ n : Nat, n ≤ P.length ∧ vi = .int .i64 n ∧ Below w.heap.size w wx ∧ Blk wx (w.heap.size + 1) 44 (arr (fmid P Q n false 0)) ∧ Blk wx w.heap.size 44 (arr (List.replicate 16 0))) (fun vi _ => P.length - (intOf vi).toNat)
  case atStart => exact ⟨0, Nat.zero_le _, rfl, hbel0, by rw [HZ.out]; exact hbk0, hbZ0⟩
  case round =>
    obtain ⟨n, hn, rfl, hbel, hbk, hbZ⟩ := hrel
    obtain ⟨wx, rfl⟩ : ∃ wx : World, wx = wr := ⟨_, rfl⟩
    clear hbel0 hbk0 hbZ0
    by_cases hlt : n < P.length
    · have hltq : n < Q.length := by rw [← HEQ.out]; exact hlt
      have hlt' : (n : Int) < (P.length : Int) := by omega
      have hltq' : (n : Int) < (Q.length : Int) := by omega
      have hn16 : n < 16 := by omega
      have hn16' : (n : Int) < 16 := by omega
      obtain ⟨b1, o1, rfl, hbB1, hc1⟩ := ((h.more hBa).below hbel).at_ hlt
      obtain ⟨b2, o2, rfl, hbB2, hc2⟩ := ((hq.more hBb).below hbel).at_ hltq
      have hx := HBP.out n
      have hy := HBQ.out n
      have hgap : (n : Int) + Q.getD n 0 ≤ 15 := by
        have h1 := dn_gap HQ.out n 0 (by omega) hltq
        have h2 := (HBQ.out 0).2
        omega
      have hf0 := HFB.out n n hn
      have HARM := Lib.hid (fmid_arm P Q n)
      have HLEG := Lib.hid (fmid_leg P Q n)
      have HNEXT := Lib.hid (fmid_next P Q n)
      have hcd : wx.cell? ⟨(w.heap.size + 1), n, none⟩ = some (.int .i64 (fro P Q n n)) := by
        rw [hbk.cell n, arr_get _ n (by rw [fmid_len]; exact hn16), fmid_cell hn16, if_neg (by simp), if_neg (by omega)]
        congr 2; omega
      have hfd : wx.frozen? ⟨(w.heap.size + 1), n, none⟩ = false := hbk.free n
      rw [getD_lt hlt] at hx HARM
      rw [getD_lt hltq] at hy hgap
      have HGQ : Hid (Q.getD n 0 = Q[n]) := Lib.hid (getD_lt hltq)
      generalize P[n] = x at *
      generalize Q[n] = y at *
      have hne1 : b1 ≠ (w.heap.size + 1) := by omega
      have hne2 : b2 ≠ (w.heap.size + 1) := by omega
      generalize fro P Q n n = z at *
      have hc2' : (wx.setCell ⟨(w.heap.size + 1), n, none⟩ (.int .i64 (z + (1 + x)))).cell? ⟨b2, o2 + n, none⟩ = some (.int .i64 y) := by
        rw [World.cell?_setCell_other _ _ _ _ (by intro e; injection e with e; omega)]
        exact hc2
      go_wp2_with fail
      have hbk2 := hbk.set n (.int .i64 (z + (1 + x)))
      rw [arr_set, HARM.out] at hbk2
      have hbel2 : Below w.heap.size w (wx.setCell ⟨(w.heap.size + 1), n, none⟩ (.int .i64 (z + (1 + x)))) := hbel.setCell (by show w.heap.size ≤ w.heap.size + 1; omega) _
      have hbZ2 := hbZ.off (p := ⟨w.heap.size + 1, n, none⟩) (by show w.heap.size ≠ w.heap.size + 1; omega) (.int .i64 (z + (1 + x)))
      clear hc1 hc2 hc2' hcd hfd hbel hbk hbZ
      obtain ⟨wy, hwy⟩ : ∃ wy, wy = wx.setCell ⟨(w.heap.size + 1), n, none⟩ (.int .i64 (z + (1 + x))) := ⟨_, rfl⟩
      rw [← hwy] at hbk2 hbel2 hbZ2 ⊢
      clear hwy
      go_loopw [27] (fun vk wz => ∃ k : Nat, (k : Int) ≤ y ∧ vk = .int .i64 k ∧ Below w.heap.size w wz ∧ Blk wz (w.heap.size + 1) 44 (arr (fmid P Q n true k)) ∧ Blk wz w.heap.size 44 (arr (List.replicate 16 0))) (fun vk _ => 20 - (intOf vk).toNat)
      case atStart => exact ⟨0, hy.1, rfl, hbel2, hbk2, hbZ2⟩
      case round =>
        obtain ⟨k, hk, rfl, hbelz, hbz, hbZz⟩ := hrel
        obtain ⟨wz, rfl⟩ : ∃ wz : World, wz = wr := ⟨_, rfl⟩
        clear hbel2 hbk2 hbZ2
        by_cases hltk : (k : Int) < y
        · obtain ⟨q, hq⟩ : ∃ q : Nat, q = n + 1 + k := ⟨_, rfl⟩
          have hq16 : q < 16 := by omega
          have hq16' : (q : Int) < 16 := by omega
          have hcq : wz.cell? ⟨(w.heap.size + 1), q, none⟩ = some (.int .i64 (fro P Q n q)) := by
            rw [hbz.cell q, arr_get _ q (by rw [fmid_len]; exact hq16), fmid_cell hq16, if_neg (by intro e; omega), if_neg (by omega)]
            congr 2; omega
          have hfq : wz.frozen? ⟨(w.heap.size + 1), q, none⟩ = false := hbz.free q
          have hfb := HFB.out n q hn
          have HL := Lib.hid (HLEG.out k)
          rw [← hq] at HL
          have hw1 : IntKind.i64.wrap ((n : Int) + 1 + (k : Int)) = (q : Int) := by rw [IntWalk.i64_in _ (by omega)]; omega
          have hw2 : (n : Int) + 1 + (k : Int) = (q : Int) := by omega
          generalize fro P Q n q = u at *
          clear hq
          go_wp2_with fail
          go_roundw
          case rel =>
            refine ⟨k + 1, by omega, by go_num, hbelz.setCell (by show w.heap.size ≤ w.heap.size + 1; omega) _, ?_, hbZz.off (by show w.heap.size ≠ w.heap.size + 1; omega) _⟩
            have e := hbz.set q (.int .i64 (u + 1))
            rw [arr_set, HL.out] at e
            exact e
          case measure => simp [intOf]; omega
        · have HX := Lib.hid (HNEXT.out k (by rw [HGQ.out]; omega))
          go_wp2_with fail
          go_roundw
          case rel => exact ⟨n + 1, by omega, by go_num, hbelz, by rw [← HX.out]; exact hbz, hbZz⟩
          case measure => simp [intOf]; omega
    · obtain rfl : n = P.length := by omega
      rw [HE.out] at hbk
      go_wp2_with (first
        | (refine wpList_load_row rfl 44 (.tmp 5) rfl (w.heap.size + 1) rfl 44 (arr (pad (pof P Q))) (0, 0) _ hbk Try.underlying44 rfl hi16 ?_)
        | (refine wpList_store_row rfl 44 (.tmp 4) (.tmp 40) rfl w.heap.size rfl (arr (pad (pof P Q))) rfl 44 _ hbZ hi16 hsz (arr_one _) ?_))
      refine bodyPost_ret (results_cell_row rfl _ _ w.heap.size 44 (arr (pad (pof P Q))) (0, 0) _ rfl hbZ.row Try.underlying44 rfl hi16) rfl ?_
      exact ⟨rfl, below_setRow' hbel (Nat.le_refl _) _⟩

set_option maxHeartbeats 2000000 in
theorem iPartsOfFrobenius_any (a b : Option Addr) (ca cb Ba Bb : Nat) (P Q : List Int) (w : World) (h : Rd w Ba a (ints P)) (hq : Rd w Bb b (ints Q)) (hBa : Ba ≤ w.heap.size) (hBb : Bb ≤ w.heap.size) (hl : P.length ≤ 4611686018427387904) (hlq : Q.length ≤ 4611686018427387904) :
    Calls Try.prog 17 #[.slice a P.length ca, .slice b Q.length cb] w fun e w' => ∃ a' c', e = .returned (.tuple #[.slice a' (pofF P Q).length c', .bool (pofOk P Q)]) ∧ Own w' w.heap.size w'.heap.size 3 (.slice a' (pofF P Q).length c') (ints (pofF P Q)) ∧ Below w.heap.size w w' := by
  by_cases hlen : P.length = Q.length
  · have b0 : ((P.length : Int) != (Q.length : Int)) = false := by simp [hlen]
    cases hvp : dnB 16 P with
    | false =>
      have hk : pofOk P Q = false := by unfold pofOk; rw [hvp]; rfl
      have HP := Lib.hid hvp
      rw [pofF_no hk, hk]
      clear hvp hk hlen
      go_enter Try.func17, Try.ntmps17
      go_wp2_with (go_at_call 49; refine (areArms_any _ _ Ba P _ h hl).mono ?_; rintro e w' ⟨rfl, rfl⟩; rw [HP.out])
      go_ret2
      exact ⟨none, 0, rfl, own_nil0 _ _ _, Below.refl _ _⟩
    | true =>
      have HP := Lib.hid hvp
      cases hvq : dnB 16 Q with
      | false =>
        have hk : pofOk P Q = false := by unfold pofOk; rw [hvq, Bool.and_false]; rfl
        have HQ := Lib.hid hvq
        rw [pofF_no hk, hk]
        clear hvp hvq hk hlen
        go_enter Try.func17, Try.ntmps17
        go_wp2_with (first
          | (go_at_call 49; have hsx := hs1; refine (areArms_any _ _ Bb Q _ hq hlq).mono ?_; rintro e w' ⟨rfl, rfl⟩; rw [HQ.out])
          | (go_at_call 49; refine (areArms_any _ _ Ba P _ h hl).mono ?_; rintro e w' ⟨rfl, rfl⟩; rw [HP.out]; have hs1 : True := trivial))
        go_ret2
        exact ⟨none, 0, rfl, own_nil0 _ _ _, Below.refl _ _⟩
      | true =>
        have HQ := Lib.hid hvq
        have hl16 := dn_len hvp
        have HBP := Lib.hid (dn_bd hvp)
        have HBQ := Lib.hid (dn_bd hvq)
        have HSP := Lib.hid (dn_sum hvp)
        have HSQ := Lib.hid (dn_sum hvq)
        have HEQ := Lib.hid hlen
        have hsp := dn_sum hvp P.length
        have hsq := dn_sum hvq P.length
        have HSE : Hid (sumTo P P.length = sumL P ∧ sumTo Q P.length = sumL Q) := Lib.hid ⟨sumTo_all P _ (Nat.le_refl _), sumTo_all Q _ (by omega)⟩
        clear hvp hvq hlen
        go_enter Try.func17, Try.ntmps17
        go_wp2_with (first
          | (go_at_call 49; have hsx := hs1; refine (areArms_any _ _ Bb Q _ hq hlq).mono ?_; rintro e w' ⟨rfl, rfl⟩; rw [HQ.out])
          | (go_at_call 49; refine (areArms_any _ _ Ba P _ h hl).mono ?_; rintro e w' ⟨rfl, rfl⟩; rw [HP.out]; have hs1 : True := trivial))
        clear hs1 b0
        go_loopw [6, 7, 27] (fun vs _ vi wr => ∃ k : Nat, k ≤ P.length ∧ vi = .int .i64 k ∧ vs = .int .i64 ((P.length : Int) + sumTo P k + sumTo Q k) ∧ Dr w wr) (fun _ _ vi _ => P.length - (intOf vi).toNat)
        case atStart => exact ⟨0, Nat.zero_le _, rfl, by simp [sumTo], Dr.refl _⟩
        case round =>
          obtain ⟨k, hk, rfl, rfl, hdr⟩ := hrel
          have hs1 := HSP.out k
          have hs2 := HSQ.out k
          by_cases hlt : k < P.length
          · have hltq : k < Q.length := by rw [← HEQ.out]; exact hlt
            have hlt' : (k : Int) < (P.length : Int) := by omega
            have hltq' : (k : Int) < (Q.length : Int) := by omega
            obtain ⟨b1, o1, rfl, _, hc1⟩ := (h.dr hdr).at_ hlt
            obtain ⟨b2, o2, rfl, _, hc2⟩ := (hq.dr hdr).at_ hltq
            have hx := HBP.out k
            have hy := HBQ.out k
            have HS : Hid (sumTo P (k + 1) = sumTo P k + P[k] ∧ sumTo Q (k + 1) = sumTo Q k + Q[k]) := Lib.hid ⟨by rw [sumTo, getD_lt hlt], by rw [sumTo, getD_lt hltq]⟩
            rw [getD_lt hlt] at hx
            rw [getD_lt hltq] at hy
            have e1 : IntKind.i64.wrap (P[k] + Q[k]) = P[k] + Q[k] := IntWalk.i64_in _ (by omega)
            have e2 : IntKind.i64.wrap ((P.length : Int) + sumTo P k + sumTo Q k + (P[k] + Q[k])) = (P.length : Int) + sumTo P k + sumTo Q k + (P[k] + Q[k]) := IntWalk.i64_in _ (by omega)
            clear hsp hsq
            go_wp2_with fail
            go_quiet (fail)
            go_wp2
            go_roundw
            case rel => exact ⟨k + 1, by omega, by go_num, by rw [HS.out.1, HS.out.2]; congr 1; omega, hdr.drewN _⟩
            case measure => simp [intOf]; omega
          · obtain rfl : k = P.length := by omega
            rw [HSE.out.1] at hs1
            rw [HSE.out.2] at hs2
            rw [HSE.out.1, HSE.out.2]
            by_cases hs : sumL P + sumL Q + (P.length : Int) ≤ 16
            · have hok : pofOk P Q = true := by unfold pofOk; rw [HP.out, HQ.out, decide_eq_true HEQ.out, decide_eq_true hs]; rfl
              have HPRE := Lib.hid (pofOk_pre hok)
              have HV := Lib.hid (valid_pof hok)
              have HE := Lib.hid (fmid_end (pofOk_pre hok))
              have g1 : decide (16 < (P.length : Int) + sumL P + sumL Q) = false := decide_eq_false (by omega)
              have HOK := Lib.hid hok
              have hs16 : (P.length : Int) + sumL P + sumL Q ≤ 16 := by omega
              clear hok hs hlt hk hsp hsq
              have hdB : Below w.heap.size w wr := hdr.below _
              have hRP := (h.more hBa).below hdB
              have hRQ := (hq.more hBb).below hdB
              have hsz0 : w.heap.size ≤ wr.heap.size := hdB.size
              clear hdr h hq
              go_wp2_with (first
                | (go_at_call 51; refine (list_any (pof P Q) HV.out _).mono ?_; rintro e w4 ⟨a', rfl, ho4, hb4⟩)
                | (go_at_call 50; refine (around_any _ _ _ _ w.heap.size w.heap.size P Q _ hRP hRQ hsz0 hsz0 HOK.out).mono ?_; rintro e w3 ⟨rfl, hb3⟩))
              go_ret2
              have hbw := hdB.trans (hb3.mono hdB.size)
              rw [pofF_yes HOK.out, HOK.out]
              exact ⟨a', (pof P Q).length, rfl, ho4.lower hbw.size, hbw.trans (hb4.mono hbw.size)⟩
            · have hk2 : pofOk P Q = false := by unfold pofOk; rw [decide_eq_false hs, Bool.and_false]
              have g1 : decide (16 < (P.length : Int) + sumL P + sumL Q) = true := decide_eq_true (by omega)
              have HK2 := Lib.hid hk2
              clear hs hlt hk2 hk
              go_wp2_with fail
              go_ret2
              rw [pofF_no HK2.out, HK2.out]
              exact ⟨none, 0, rfl, own_nil0 _ _ _, hdr.below _⟩
  · have b0 : ((P.length : Int) != (Q.length : Int)) = true := by simp; omega
    have hk : pofOk P Q = false := by unfold pofOk; rw [decide_eq_false hlen]; simp
    rw [pofF_no hk, hk]
    clear hlen hk
    go_enter Try.func17, Try.ntmps17
    go_wp2_with fail
    go_ret2
    exact ⟨none, 0, rfl, own_nil0 _ _ _, Below.refl _ _⟩
end Go.Proofs.Ytemkchihbnneeaa
