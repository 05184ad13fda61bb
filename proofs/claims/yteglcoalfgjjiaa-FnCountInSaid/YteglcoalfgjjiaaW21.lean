/-
  Walks: parts of a set, of the model.
-/
import Derived.Test.YteglcoalfgjjiaaW20
namespace Go.Proofs.Yteglcoalfgjjiaa
open Go.RowKit NP
set_option linter.unusedVariables false

theorem validSet_any (a : Option Addr) (c B : Nat) (S : List Int) (w : World) (h : Rd w B a (ints S)) (hl : S.length ≤ 4611686018427387904) :
    Calls Try.prog 57 #[.slice a S.length c] w fun e w' => e = .returned (.bool (stB S)) ∧ ∃ n, w' = w.drewN n := by
  go_enter Try.func57, Try.ntmps57
  go_wp2
  go_loopw [3] (fun i wr => ∃ k : Nat, k ≤ S.length ∧ i = .int .i64 k ∧ Dr w wr ∧ Hid (∀ j, j < k → (1 ≤ S.getD j 0 ∧ S.getD j 0 ≤ 40 ∧ (0 < j → S.getD (j - 1) 0 < S.getD j 0)))) (fun i _ => S.length - (intOf i).toNat)
  case atStart => exact ⟨0, Nat.zero_le _, rfl, Dr.refl _, Lib.hid fun j h => by omega⟩
  case round =>
    obtain ⟨k, hk, rfl, hdr, HP⟩ := hrel
    by_cases hlt : k < S.length
    · have hR := h.dr hdr
      obtain ⟨b, o, rfl, hB, hc⟩ := hR.at_ hlt
      have HB := Lib.hid (stB_at hlt)
      rw [getD_lt hlt] at HB
      have HM := Lib.hid (stB_mk hlt HP.out)
      by_cases h12 : 1 ≤ S[k] ∧ S[k] ≤ 40
      · obtain ⟨h1, h2⟩ := h12
        by_cases h0 : k = 0
        · subst h0
          have hc' : wr.cell? ⟨b, o, none⟩ = some (.int .i64 S[0]) := hc
          have HS := Lib.hid (HM.out h1 h2 (fun h => absurd h (by omega)))
          go_wp2_with fail
          go_quiet ((go_at_call 46; exact Calls.quiet_of_same (inRange_yes _ _ _ _ h1 h2)))
          go_wp2
          go_roundw
          case rel => exact ⟨0 + 1, by omega, by go_num, hdr.drewN _, HS⟩
          case measure => simp [intOf]; omega
        · have hk1 : k - 1 < S.length := by omega
          obtain ⟨b', o', e', -, hc2⟩ := hR.at_ hk1
          injection e' with e'; injection e' with e1 e2; subst e1 e2
          have hg2 : S.getD (k - 1) 0 = S[k - 1] := getD_lt hk1
          rw [hg2] at HM HB
          clear hg2
          have h4 : (0 : Int) < k := by omega
          have h5 : 0 < k := by omega
          have h7 : 1 ≤ k := by omega
          by_cases h3 : S[k] ≤ S[k - 1]
          · have HV : Hid (stB S = false) := Lib.hid (HB.out (fun hh => by have := hh.2.2 h5; omega))
            go_wp2_with fail
            go_quiet ((go_at_call 46; exact Calls.quiet_of_same (inRange_yes _ _ _ _ h1 h2)))
            go_wp2
            go_ret
            exact ⟨ret_bool HV.out.symm, hdr.drewN _⟩
          · have h3' : S[k - 1] < S[k] := by omega
            have HS := Lib.hid (HM.out h1 h2 (fun _ => h3'))
            clear h3
            go_wp2_with fail
            go_quiet ((go_at_call 46; exact Calls.quiet_of_same (inRange_yes _ _ _ _ h1 h2)))
            go_wp2
            go_roundw
            case rel => exact ⟨k + 1, by omega, by go_num, hdr.drewN _, HS⟩
            case measure => simp [intOf]; omega
      · have HV : Hid (stB S = false) := Lib.hid (HB.out (fun hh => h12 ⟨hh.1, hh.2.1⟩))
        have h12' : S[k] < 1 ∨ 40 < S[k] := by omega
        clear h12
        have H12 := Lib.hid h12'
        clear h12'
        go_wp2_with fail
        go_quiet ((go_at_call 46; exact Calls.quiet_of_same (inRange_no _ _ _ _ H12.out)))
        go_wp2
        go_ret
        exact ⟨ret_bool HV.out.symm, hdr.drewN _⟩
    · obtain rfl : k = S.length := by omega
      have HD : Hid (stB S = true) := Lib.hid ((stB_iff S).2 HP.out)
      go_wp2_with fail
      go_ret
      exact ⟨ret_bool HD.out.symm, hdr⟩

set_option maxHeartbeats 2000000 in
theorem countInMany_any (a : Option Addr) (c B : Nat) (S : List Int) (N : Nat) (w : World) (h : Rd w B a (ints S)) (hB : B ≤ w.heap.size) (hs : stB S = true) (hN : N ≤ 40) :
    Calls Try.prog 58 #[.slice a S.length c, .int .i64 N, .bool false] w fun e w' => e = .returned (.int .i64 (cntF false S N)) ∧ Below w.heap.size w w' := by
  obtain ⟨i0, hi, hz0, hz1, hz2⟩ := T_int'
  obtain ⟨M, hM⟩ : ∃ M : Nat, M = N + 1 := ⟨_, rfl⟩
  have hmk := run_make_ints 22 3 i0 Try.underlying22 hi hz0 hz1 hz2 M (by omega)
  have HS := Lib.hid hs
  have hSl := stB_len hs
  have HE := Lib.hid (cntF_in false hs (n := (N : Int)) (by omega) (by omega))
  have hk1 : (N : Int) + 1 = (M : Int) := by omega
  have hM0 : (0 : Int) < (M : Int) := by omega
  have hb0 := Blk.new w 3 (arr (List.replicate M 0))
  have hc0 : (w.alloc (.cells (arr (List.replicate M 0)) 3)).cell? ⟨w.heap.size, 0, none⟩ = some (.int .i64 0) := by rw [hb0.cell 0, arr_get _ 0 (by simp; omega)]; simp
  have hf0 : (w.alloc (.cells (arr (List.replicate M 0)) 3)).frozen? ⟨w.heap.size, 0, none⟩ = false := hb0.free 0
  have hb1 : Blk (w.alloc (.cells ((arr (List.replicate M 0)).setIfInBounds 0 (.int .i64 1)) 3)) w.heap.size 3 (arr (cutR (setRows false (S.take 0)) N)) := by
    have e := Blk.new w 3 ((arr (List.replicate M 0)).setIfInBounds 0 (.int .i64 1))
    have e2 : setRows false (S.take 0) = crow 0 := rfl
    rw [e2, ← cutR_start N hN, ← arr_set, ← hM]
    exact e
  have HM := Lib.hid hM
  clear hs hM
  go_enter Try.func58, Try.ntmps58
  go_wp2_with fail
  clear hb0 hc0 hf0 hmk hk1
  go_loopw [8] (fun vi wr => ∃ i : Nat, i ≤ S.length ∧ vi = .int .i64 i ∧ Below w.heap.size w wr ∧ Blk wr w.heap.size 3 (arr (cutR (setRows false (S.take i)) N))) (fun vi _ => 50 - (intOf vi).toNat)
  case atStart => exact ⟨0, Nat.zero_le _, rfl, (Below.refl _ _).alloc (Nat.le_refl _) _, hb1⟩
  case round =>
    obtain ⟨i, hi2, rfl, hbel, hbk⟩ := hrel
    clear hb1
    by_cases hlt : i < S.length
    · have hlt' : (i : Int) < (S.length : Int) := by omega
      have hx := (stB_iff S).1 HS.out i hlt
      rw [getD_lt hlt] at hx
      have hstep := setRows_step HS.out false hlt
      have hsucc := setRows_succ false hlt
      obtain ⟨w5, rfl⟩ : ∃ w5 : World, w5 = wr := ⟨_, rfl⟩
      have hS5 := (h.more hB).below hbel
      generalize setRows false (S.take i) = D at *
      obtain ⟨p, hp⟩ : ∃ p : Nat, S[i] = (p : Int) := ⟨S[i].toNat, by omega⟩
      rw [hp] at hx hsucc
      rw [hp] at hstep
      have e1 : ((p : Int)).toNat = p := by omega
      rw [e1] at hstep hsucc
      have HP := Lib.hid hp
      have HSU := Lib.hid hsucc
      have hp1 : 1 ≤ p := by omega
      have hp40 : p ≤ 40 := by omega
      have hnv : ∀ s, s < 41 → (0 ≤ D.getD s 0 ∧ D.getD s 0 ≤ 1099511627776) ∧ 0 ≤ nv false D p s ∧ nv false D p s ≤ 1099511627776 * 2 := fun s hs => by
        have h1 := hstep s hs
        refine ⟨h1.1, ?_⟩
        unfold nv
        simp only [Bool.false_eq_true, if_false]; omega
      have HNV := Lib.hid hnv
      have HTZ := Lib.hid (tmD_zero false (D := D) N p)
      have HTE := Lib.hid (tmD_end false (D := D) N p hN)
      clear hp hstep hsucc e1 hx hnv
      go_wp2_with fail
      go_loopw [9, 10] (fun vk _ wr => ∃ k : Nat, k ≤ N + 1 ∧ vk = .int .i64 k ∧ Below w.heap.size w wr ∧ Blk wr w.heap.size 3 (arr (tmD false D N p k))) (fun vk _ _ => 50 - (intOf vk).toNat)
      case atStart => exact ⟨0, Nat.zero_le _, rfl, hbel, by rw [HTZ.out]; exact hbk⟩
      case round =>
        obtain ⟨k, hk, rfl, hbr, hbt⟩ := hrel
        clear hbel hbk
        by_cases hkN : k ≤ N
        · have hkN' : (k : Int) ≤ (N : Int) := by omega
          obtain ⟨b, o, rfl, hbB, hc⟩ := ((h.more hB).below hbr).at_ hlt
          rw [HP.out] at hc
          have hXd : xD false N k = k := rfl
          have hXN : k ≤ N := by omega
          have hXlen : k < (tmD false D N p k).length := by rw [tmD_len]; omega
          have hcX : wr.cell? ⟨w.heap.size, k, none⟩ = some (.int .i64 (D.getD k 0)) := by
            have hpr := prD_at false hkN
            rw [hXd] at hpr
            rw [hbt.cell k, arr_get _ k hXlen, tmD_get, hpr]; simp
          have hfX : wr.frozen? ⟨w.heap.size, k, none⟩ = false := hbt.free k
          have HSET := Lib.hid (tmD_set false D (p := p) hkN)
          have HSAME := Lib.hid (tmD_same false D (p := p) hkN)
          have HVAL := Lib.hid (tmD_val false D (p := p) hkN hp1)
          rw [hXd] at HSET HSAME HVAL
          have hXM : (k : Int) < (M : Int) := by have := HM.out; omega
          have hm := HM.out
          clear hXd hm
          by_cases hpX : p ≤ k
          · obtain ⟨q, hq⟩ : ∃ q : Nat, q = k - p := ⟨_, rfl⟩
            have hqlen : q < (tmD false D N p k).length := by rw [tmD_len]; omega
            have hcq : wr.cell? ⟨w.heap.size, q, none⟩ = some (.int .i64 (if prD false N k q then nv false D p q else D.getD q 0)) := by
              rw [hbt.cell q, arr_get _ q hqlen, tmD_get]
            have hw1 : IntKind.i64.wrap ((k : Int) - (p : Int)) = (q : Int) := by rw [IntWalk.i64_in _ (by omega)]; omega
            have hqM : (q : Int) < (M : Int) := by have := HM.out; omega
            have d0 : decide ((p : Int) ≤ (k : Int)) = true := decide_eq_true (by omega)
            have hpX' : (p : Int) ≤ (k : Int) := by omega
            have b1 := (HNV.out k (by omega)).1
            have b2 : 0 ≤ (if prD false N k q then nv false D p q else D.getD q 0) ∧ (if prD false N k q then nv false D p q else D.getD q 0) ≤ 1099511627776 * 2 := by
              have := HNV.out q (by omega)
              split <;> omega
            have HV2 := Lib.hid (HVAL.out hpX)
            rw [← hq] at HV2
            generalize D.getD k 0 = y at *
            generalize (if prD false N k q then nv false D p q else D.getD q 0) = z at *
            have hw2 : IntKind.i64.wrap (y + z) = y + z := IntWalk.i64_in _ (by omega)
            clear hq HVAL HSAME hXlen hqlen
            go_wp2
            go_still_tail 17, (by kernel_rfl)
            change wpList _ _ _ _ _ wr.drew
            have hbel2 : Below w.heap.size w wr.drew := hbr.trans ((Dr.n wr 1).below _)
            have hb2 : Blk wr.drew w.heap.size 3 (arr (tmD false D N p k)) := hbt
            have hf3 : wr.drew.frozen? ⟨w.heap.size, k, none⟩ = false := hfX
            have hc3 : wr.drew.cell? ⟨w.heap.size, k, none⟩ = some (.int .i64 y) := hcX
            generalize wr.drew = w2 at *
            clear hbr hbt
            go_wp2
            go_roundw
            case rel =>
              refine ⟨k + 1, by omega, by go_num, hbel2.setCell (by show w.heap.size ≤ w.heap.size; omega) _, ?_⟩
              have e := hb2.set k (.int .i64 (y + z))
              have e2 := HSET.out
              rw [HV2.out] at e2
              rw [arr_set, e2] at e
              exact e
            case measure => simp [intOf]; omega
          · have d0 : decide ((p : Int) ≤ (k : Int)) = false := decide_eq_false (by omega)
            have hpX' : (k : Int) < (p : Int) := by omega
            have HSM := Lib.hid (HSAME.out (by omega))
            clear HVAL HSAME hXlen
            go_wp2_with fail
            go_roundw
            case rel => exact ⟨k + 1, by omega, by go_num, hbr, by rw [← HSM.out]; exact hbt⟩
            case measure => simp [intOf]; omega
        · obtain rfl : k = N + 1 := by omega
          have hkN' : (N : Int) < ((N + 1 : Nat) : Int) := by omega
          go_wp2_with fail
          go_roundw
          case rel =>
            refine ⟨i + 1, by omega, by go_num, hbr, ?_⟩
            have e := hbt
            rw [HTE.out] at e
            rw [HSU.out]
            exact e
          case measure => simp [intOf]; omega
    · obtain rfl : i = S.length := by omega
      rw [List.take_of_length_le (Nat.le_refl _)] at hbk
      have hNl : N < (cutR (setRows false S) N).length := by rw [cutR_len]; omega
      have hc := hbk.cell N
      rw [arr_get _ N hNl, cutR_get] at hc
      have hMany : (N : Int) < (M : Int) := by have := HM.out; omega
      have HG : Hid ((setRows false S).getD N 0 = cntF false S N) := Lib.hid (by rw [HE.out]; rfl)
      go_wp2_with fail
      go_ret
      exact ⟨ret_i64 HG.out, hbel⟩

theorem sCountIn_any (a : Option Addr) (c B : Nat) (S : List Int) (n : Int) (w : World) (h : Rd w B a (ints S)) (hB : B ≤ w.heap.size) (hl : S.length ≤ 4611686018427387904) :
    Calls Try.prog 32 #[.slice a S.length c, .int .i64 n] w fun e w' => e = .returned (.int .i64 (cntF false S n)) ∧ Below w.heap.size w w' := by
  cases hs : stB S with
  | true =>
    have HS := Lib.hid hs
    by_cases hn : 0 ≤ n ∧ n ≤ 40
    · obtain ⟨N, rfl⟩ := Int.eq_ofNat_of_zero_le hn.1
      obtain ⟨hn1, hn2⟩ := hn
      have hN : N ≤ 40 := by omega
      clear hs
      go_enter Try.func32, Try.ntmps32
      go_wp2_with (first
        | (go_at_call 58; refine (countInMany_any _ _ B S N _ (h.dr (Dr.n w n1)) (by exact hB) HS.out hN).mono ?_; rintro e w5 ⟨rfl, hb5⟩)
        | (go_at_call 46; refine (inRange_yes _ _ _ _ hn1 hn2).mono ?_; rintro e wv ⟨rfl, rfl⟩)
        | (go_at_call 57; refine (validSet_any _ _ B S _ h hl).mono ?_; rintro e wv ⟨rfl, n1, rfl⟩; rw [HS.out]))
      go_ret
      exact ⟨rfl, ((Dr.n w n1).below _).trans hb5⟩
    · have hE : cntF false S n = -1 := cntF_out false (fun hh => hn hh.2)
      have hn' : n < 0 ∨ 40 < n := by omega
      have HN := Lib.hid hn'
      rw [hE]
      clear hE hs hn hn'
      go_enter Try.func32, Try.ntmps32
      go_wp2_with (first
        | (go_at_call 46; refine (inRange_no _ _ _ _ HN.out).mono ?_; rintro e wv ⟨rfl, rfl⟩)
        | (go_at_call 57; refine (validSet_any _ _ B S _ h hl).mono ?_; rintro e wv ⟨rfl, n1, rfl⟩; rw [HS.out]))
      go_ret
      exact ⟨rfl, (Dr.n w n1).below _⟩
  | false =>
    have HS := Lib.hid hs
    have hE : cntF false S n = -1 := cntF_out false (fun hh => by rw [hs] at hh; cases hh.1)
    rw [hE]
    clear hE hs
    go_enter Try.func32, Try.ntmps32
    go_wp2_with (go_at_call 57; refine (validSet_any _ _ B S _ h hl).mono ?_; rintro e wv ⟨rfl, n1, rfl⟩; rw [HS.out])
    go_ret
    exact ⟨rfl, (Dr.n w n1).below _⟩

end Go.Proofs.Yteglcoalfgjjiaa
