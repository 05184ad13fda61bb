/-
  Walks: parts of a set, of the model.
-/
import Derived.Test.YtgdkifpjcjegpaaW20
namespace Go.Proofs.Ytgdkifpjcjegpaa
open Go.RowKit NP
set_option linter.unusedVariables false



set_option maxHeartbeats 2000000 in
theorem countInOnce_any (a : Option Addr) (c B : Nat) (S : List Int) (N : Nat) (w : World) (h : Rd w B a (ints S)) (hB : B ≤ w.heap.size) (hs : stB S = true) (hN : N ≤ 40) :
    Calls Try.prog 29 #[.slice a S.length c, .int .i64 N, .bool true] w fun e w' => e = .returned (.int .i64 (cntF true S N)) ∧ Below w.heap.size w w' := by
  obtain ⟨i0, hi, hz0, hz1, hz2⟩ := T_int'
  obtain ⟨M, hM⟩ : ∃ M : Nat, M = N + 1 := ⟨_, rfl⟩
  have hmk := run_make_ints 31 3 i0 Try.underlying31 hi hz0 hz1 hz2 M (by omega)
  have HS := Lib.hid hs
  have hSl := stB_len hs
  have HE := Lib.hid (cntF_in true hs (n := (N : Int)) (by omega) (by omega))
  have hk1 : (N : Int) + 1 = (M : Int) := by omega
  have hM0 : (0 : Int) < (M : Int) := by omega
  have hb0 := Blk.new w 3 (arr (List.replicate M 0))
  have hc0 : (w.alloc (.cells (arr (List.replicate M 0)) 3)).cell? ⟨w.heap.size, 0, none⟩ = some (.int .i64 0) := by rw [hb0.cell 0, arr_get _ 0 (by simp; omega)]; simp
  have hf0 : (w.alloc (.cells (arr (List.replicate M 0)) 3)).frozen? ⟨w.heap.size, 0, none⟩ = false := hb0.free 0
  have hb1 : Blk (w.alloc (.cells ((arr (List.replicate M 0)).setIfInBounds 0 (.int .i64 1)) 3)) w.heap.size 3 (arr (cutR (setRows true (S.take 0)) N)) := by
    have e := Blk.new w 3 ((arr (List.replicate M 0)).setIfInBounds 0 (.int .i64 1))
    have e2 : setRows true (S.take 0) = crow 0 := rfl
    rw [e2, ← cutR_start N hN, ← arr_set, ← hM]
    exact e
  have HM := Lib.hid hM
  clear hs hM
  go_enter Try.func29, Try.ntmps29
  go_wp2_with fail
  clear hb0 hc0 hf0 hmk hk1
  go_loopw [8] (fun vi wr => ∃ i : Nat, i ≤ S.length ∧ vi = .int .i64 i ∧ Below w.heap.size w wr ∧ Blk wr w.heap.size 3 (arr (cutR (setRows true (S.take i)) N))) (fun vi _ => 50 - (intOf vi).toNat)
  case atStart => exact ⟨0, Nat.zero_le _, rfl, (Below.refl _ _).alloc (Nat.le_refl _) _, hb1⟩
  case round =>
    obtain ⟨i, hi2, rfl, hbel, hbk⟩ := hrel
    clear hb1
    by_cases hlt : i < S.length
    · have hlt' : (i : Int) < (S.length : Int) := by omega
      have hx := (stB_iff S).1 HS.out i hlt
      rw [getD_lt hlt] at hx
      have hstep := setRows_step HS.out true hlt
      have hsucc := setRows_succ true hlt
      obtain ⟨w5, rfl⟩ : ∃ w5 : World, w5 = wr := ⟨_, rfl⟩
      have hS5 := (h.more hB).below hbel
      generalize setRows true (S.take i) = D at *
      obtain ⟨p, hp⟩ : ∃ p : Nat, S[i] = (p : Int) := ⟨S[i].toNat, by omega⟩
      rw [hp] at hx hsucc
      rw [hp] at hstep
      have e1 : ((p : Int)).toNat = p := by omega
      rw [e1] at hstep hsucc
      have HP := Lib.hid hp
      have HSU := Lib.hid hsucc
      have hp1 : 1 ≤ p := by omega
      have hp40 : p ≤ 40 := by omega
      have hnv : ∀ s, s < 41 → (0 ≤ D.getD s 0 ∧ D.getD s 0 ≤ 1099511627776) ∧ 0 ≤ nv true D p s ∧ nv true D p s ≤ 1099511627776 * 2 := fun s hs => by
        have h1 := hstep s hs
        refine ⟨h1.1, ?_⟩
        unfold nv
        simp only [if_true]; unfold wo
        split
        · omega
        · have := hstep (s - p) (by omega); omega
      have HNV := Lib.hid hnv
      have HTZ := Lib.hid (tmD_zero true (D := D) N p)
      have HTE := Lib.hid (tmD_end true (D := D) N p hN)
      clear hp hstep hsucc e1 hx hnv
      go_wp2_with fail
      go_loopw [9, 10] (fun vk _ wr => ∃ k : Nat, k ≤ N + 1 ∧ vk = .int .i64 k ∧ Below w.heap.size w wr ∧ Blk wr w.heap.size 3 (arr (tmD true D N p k))) (fun vk _ _ => 50 - (intOf vk).toNat)
      case atStart => exact ⟨0, Nat.zero_le _, rfl, hbel, by rw [HTZ.out]; exact hbk⟩
      case round =>
        obtain ⟨k, hk, rfl, hbr, hbt⟩ := hrel
        clear hbel hbk
        by_cases hkN : k ≤ N
        · have hkN' : (k : Int) ≤ (N : Int) := by omega
          obtain ⟨b, o, rfl, hbB, hc⟩ := ((h.more hB).below hbr).at_ hlt
          rw [HP.out] at hc
          obtain ⟨X, hX⟩ : ∃ X : Nat, X = N - k := ⟨_, rfl⟩
          have hXd : xD true N k = X := hX.symm
          have hXN : X ≤ N := by omega
          have hXk : (N : Int) - (k : Int) = (X : Int) := by omega
          have hXlen : X < (tmD true D N p k).length := by rw [tmD_len]; omega
          have hcX : wr.cell? ⟨w.heap.size, X, none⟩ = some (.int .i64 (D.getD X 0)) := by
            have hpr := prD_at true hkN
            rw [hXd] at hpr
            rw [hbt.cell X, arr_get _ X hXlen, tmD_get, hpr]; simp
          have hfX : wr.frozen? ⟨w.heap.size, X, none⟩ = false := hbt.free X
          have HSET := Lib.hid (tmD_set true D (p := p) hkN)
          have HSAME := Lib.hid (tmD_same true D (p := p) hkN)
          have HVAL := Lib.hid (tmD_val true D (p := p) hkN hp1)
          rw [hXd] at HSET HSAME HVAL
          have hXM : (X : Int) < (M : Int) := by have := HM.out; omega
          have hm := HM.out
          clear hX hXd hm
          by_cases hpX : p ≤ X
          · obtain ⟨q, hq⟩ : ∃ q : Nat, q = X - p := ⟨_, rfl⟩
            have hqlen : q < (tmD true D N p k).length := by rw [tmD_len]; omega
            have hcq : wr.cell? ⟨w.heap.size, q, none⟩ = some (.int .i64 (if prD true N k q then nv true D p q else D.getD q 0)) := by
              rw [hbt.cell q, arr_get _ q hqlen, tmD_get]
            have hw1 : IntKind.i64.wrap ((X : Int) - (p : Int)) = (q : Int) := by rw [IntWalk.i64_in _ (by omega)]; omega
            have hqM : (q : Int) < (M : Int) := by have := HM.out; omega
            have d0 : decide ((p : Int) ≤ (X : Int)) = true := decide_eq_true (by omega)
            have hpX' : (p : Int) ≤ (X : Int) := by omega
            have b1 := (HNV.out X (by omega)).1
            have b2 : 0 ≤ (if prD true N k q then nv true D p q else D.getD q 0) ∧ (if prD true N k q then nv true D p q else D.getD q 0) ≤ 1099511627776 * 2 := by
              have := HNV.out q (by omega)
              split <;> omega
            have HV2 := Lib.hid (HVAL.out hpX)
            rw [← hq] at HV2
            generalize D.getD X 0 = y at *
            generalize (if prD true N k q then nv true D p q else D.getD q 0) = z at *
            have hw2 : IntKind.i64.wrap (y + z) = y + z := IntWalk.i64_in _ (by omega)
            clear hq HVAL HSAME hXlen hqlen
            go_wp2
            go_still_tail 17, (by kernel_rfl)
            change wpList _ _ _ _ _ wr.drew
            have hbel2 : Below w.heap.size w wr.drew := hbr.trans ((Dr.n wr 1).below _)
            have hb2 : Blk wr.drew w.heap.size 3 (arr (tmD true D N p k)) := hbt
            have hf3 : wr.drew.frozen? ⟨w.heap.size, X, none⟩ = false := hfX
            have hc3 : wr.drew.cell? ⟨w.heap.size, X, none⟩ = some (.int .i64 y) := hcX
            generalize wr.drew = w2 at *
            clear hbr hbt
            go_wp2
            go_roundw
            case rel =>
              refine ⟨k + 1, by omega, by go_num, hbel2.setCell (by show w.heap.size ≤ w.heap.size; omega) _, ?_⟩
              have e := hb2.set X (.int .i64 (y + z))
              have e2 := HSET.out
              rw [HV2.out] at e2
              rw [arr_set, e2] at e
              exact e
            case measure => simp [intOf]; omega
          · have d0 : decide ((p : Int) ≤ (X : Int)) = false := decide_eq_false (by omega)
            have hpX' : (X : Int) < (p : Int) := by omega
            have HSM := Lib.hid (HSAME.out (by omega))
            clear HVAL HSAME hXlen
            go_wp2_with fail
            go_roundw
            case rel => exact ⟨k + 1, by omega, by go_num, hbr, by rw [← HSM.out]; exact hbt⟩
            case measure => simp [intOf]; omega
        · obtain rfl : k = N + 1 := by omega
          have hkN' : (N : Int) < ((N + 1 : Nat) : Int) := by omega
          go_wp2_with fail
          go_roundw
          case rel =>
            refine ⟨i + 1, by omega, by go_num, hbr, ?_⟩
            have e := hbt
            rw [HTE.out] at e
            rw [HSU.out]
            exact e
          case measure => simp [intOf]; omega
    · obtain rfl : i = S.length := by omega
      rw [List.take_of_length_le (Nat.le_refl _)] at hbk
      have hNl : N < (cutR (setRows true S) N).length := by rw [cutR_len]; omega
      have hc := hbk.cell N
      rw [arr_get _ N hNl, cutR_get] at hc
      have hOnce : (N : Int) < (M : Int) := by have := HM.out; omega
      have HG : Hid ((setRows true S).getD N 0 = cntF true S N) := Lib.hid (by rw [HE.out]; rfl)
      go_wp2_with fail
      go_ret
      exact ⟨ret_i64 HG.out, hbel⟩

end Go.Proofs.Ytgdkifpjcjegpaa
