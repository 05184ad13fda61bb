/-
  Walks: parts of a set, of the program and of the model.
-/
import Derived.Test.YteglcoalfgjjiaaW1
import Derived.Test.YteglcoalfgjjiaaL1
import Derived.Test.YteglcoalfgjjiaaC4
import Derived.Test.YteglcoalfgjjiaaM22
namespace Go.Proofs.Yteglcoalfgjjiaa
open Go.RowKit NP
set_option linter.unusedVariables false

theorem stB_mk {S : List Int} {k : Nat} (hk : k < S.length) (HP : ∀ j, j < k → (1 ≤ S.getD j 0 ∧ S.getD j 0 ≤ 40 ∧ (0 < j → S.getD (j - 1) 0 < S.getD j 0))) (h1 : 1 ≤ S[k]) (h2 : S[k] ≤ 40) (h3 : 0 < k → S.getD (k - 1) 0 < S[k]) :
    ∀ j, j < k + 1 → (1 ≤ S.getD j 0 ∧ S.getD j 0 ≤ 40 ∧ (0 < j → S.getD (j - 1) 0 < S.getD j 0)) := fun j hj => by
  rcases Nat.lt_or_ge j k with h | h
  · exact HP j h
  · obtain rfl : j = k := by omega
    rw [getD_lt hk]
    exact ⟨h1, h2, h3⟩

theorem isSet_any (a : Option Addr) (c B : Nat) (S : List Int) (w : World) (h : Rd w B a (ints S)) (hl : S.length ≤ 4611686018427387904) :
    Calls Try.prog 67 #[.slice a S.length c] w fun e w' => e = .returned (.bool (stB S)) ∧ w = w' := by
  go_enter Try.func67, Try.ntmps67
  go_wp2
  go_loop [3, 5, 8] (fun vl _ vi => ∃ k : Nat, k ≤ S.length ∧ vi = .int .i64 k ∧ vl = .int .i64 (lastOf S k : Nat) ∧ Hid (∀ j, j < k → (1 ≤ S.getD j 0 ∧ S.getD j 0 ≤ 40 ∧ (0 < j → S.getD (j - 1) 0 < S.getD j 0)))) (fun _ _ vi => S.length - (intOf vi).toNat)
  case atStart => exact ⟨0, Nat.zero_le _, rfl, rfl, Lib.hid fun j hj => by omega⟩
  case round =>
    obtain ⟨k, hk, rfl, rfl, HP⟩ := hrel
    by_cases hlt : k < S.length
    · have hlt' : (k : Int) < (S.length : Int) := by omega
      obtain ⟨b, o, rfl, _, hc⟩ := h.at_ hlt
      have hlast : (lastOf S k : Int) = if k = 0 then 0 else S.getD (k - 1) 0 := by
        unfold lastOf
        split
        · rfl
        · have := (HP.out (k - 1) (by omega)).1; omega
      have hnext : 1 ≤ S[k] → lastOf S (k + 1) = S[k].toNat := fun _ => by unfold lastOf; rw [if_neg (by omega), Nat.add_sub_cancel, getD_lt hlt]
      have HN := Lib.hid hnext
      have HB := Lib.hid (stB_at hlt)
      rw [getD_lt hlt] at HB
      have HM := Lib.hid (stB_mk hlt HP.out)
      have hls : 0 < k → (lastOf S k : Int) = S.getD (k - 1) 0 := fun h0 => by rw [hlast, if_neg (by omega)]
      have hl0 : k = 0 → (lastOf S k : Int) = 0 := fun h0 => by rw [hlast, if_pos h0]
      have HLS := Lib.hid hls
      have HL0 := Lib.hid hl0
      clear hlast hnext hls hl0
      generalize lastOf S k = la at *
      by_cases h1 : S[k] ≤ (la : Int)
      · have d1 : decide (S[k] ≤ (la : Int)) = true := decide_eq_true h1
        have HD : Hid (stB S = false) := Lib.hid (HB.out (by
          intro hh
          rcases Nat.eq_zero_or_pos k with h0 | h0
          · have := HL0.out h0; omega
          · have := HLS.out h0; have := hh.2.2 h0; omega))
        clear h1
        go_wp2_with fail
        go_ret
        exact ⟨ret_bool HD.out.symm, rfl⟩
      · have d1 : decide (S[k] ≤ (la : Int)) = false := decide_eq_false h1
        by_cases h2 : 40 < S[k]
        · have d2 : decide (40 < S[k]) = true := decide_eq_true h2
          have HD : Hid (stB S = false) := Lib.hid (HB.out (by intro hh; omega))
          clear h1 h2
          go_wp2_with fail
          go_ret
          exact ⟨ret_bool HD.out.symm, rfl⟩
        · have d2 : decide (40 < S[k]) = false := decide_eq_false h2
          have HS := Lib.hid (HM.out (by omega) (by omega) (fun h0 => by have := HLS.out h0; omega))
          have hnx := HN.out (by omega)
          have HX : Hid (((lastOf S (k + 1) : Nat) : Int) = S[k]) := Lib.hid (by rw [hnx]; omega)
          clear h1 h2 hnx
          go_wp2_with fail
          go_round
          case rel => exact ⟨k + 1, by omega, by go_num, by rw [HX.out], HS⟩
          case measure => simp [intOf]; omega
    · obtain rfl : k = S.length := by omega
      have HD : Hid (stB S = true) := Lib.hid ((stB_iff S).2 HP.out)
      go_wp2
      go_ret
      exact ⟨ret_bool HD.out.symm, rfl⟩


set_option maxHeartbeats 1000000 in
theorem countOverMany_any (a : Option Addr) (c B : Nat) (S : List Int) (n : Int) (w : World) (h : Rd w B a (ints S)) (hB : B ≤ w.heap.size) (hl : S.length ≤ 4611686018427387904) :
    Calls Try.prog 55 #[.slice a S.length c, .int .i64 n, .func (.func 56) #[] #[]] w fun e w' => e = .returned (.int .i64 (cntF false S n)) ∧ Below w.heap.size w w' := by
  by_cases hn : 0 ≤ n ∧ n ≤ 40
  · have d1 : decide (n < 0) = false := decide_eq_false (by omega)
    have d2 : decide (40 < n) = false := decide_eq_false (by omega)
    cases hs : stB S with
    | true =>
      have HS := Lib.hid hs
      have hSl := stB_len hs
      have HE := Lib.hid (cntF_in false hs hn.1 hn.2)
      obtain ⟨N, rfl⟩ := Int.eq_ofNat_of_zero_le hn.1
      have hN : N ≤ 40 := by omega
      have hi0 : (Try.prog.info? 55).map (·.size) = some (arr (1 :: List.replicate 40 0)).size := T_info41
      have hsz0 : (arr (1 :: List.replicate 40 0)).size = (arr (List.replicate 41 0)).size := rfl
      have hb1 := Blk.new w 55 (arr (List.replicate 41 0))
      clear hs hn
      go_enter Try.func55, Try.ntmps55
      go_wp2_with (first
        | (refine wpList_store_row rfl 55 (.tmp 7) (.tmp 21) rfl w.heap.size rfl (arr (1 :: List.replicate 40 0)) rfl 55 _ hb1 hi0 hsz0 (arr_one _) ?_)
        | (go_at_call 67; refine (isSet_any _ _ B S _ h hl).mono ?_; rintro e w' ⟨rfl, rfl⟩; rw [HS.out]))
      go_loopw [9, 24] (fun vp vi wr => ∃ i : Nat, i ≤ S.length ∧ vi = .int .i64 i ∧ Below w.heap.size w wr ∧ Blk wr w.heap.size 55 (arr (setRows false (S.take i)))) (fun _ vi _ => 50 - (intOf vi).toNat)
      case atStart =>
        refine ⟨0, Nat.zero_le _, rfl, below_setRow' ((Below.refl _ _).alloc (Nat.le_refl _) _) (Nat.le_refl _) _, ?_⟩
        have e := hb1.row (vs := arr (1 :: List.replicate 40 0))
        have e0 : setRows false (S.take 0) = 1 :: List.replicate 40 0 := crow_zero
        rw [e0]
        exact e
      case round =>
        obtain ⟨i, hi, rfl, hbel, hbk⟩ := hrel
        clear hb1
        by_cases hlt : i < S.length
        · have hlt' : (i : Int) < (S.length : Int) := by omega
          obtain ⟨b, o, rfl, hbB, hc⟩ := ((h.more hB).below hbel).at_ hlt
          have hx := (stB_iff S).1 HS.out i hlt
          rw [getD_lt hlt] at hx
          have hstep := setRows_step HS.out false hlt
          have hsucc := setRows_succ false hlt
          have hrl := setRows_len false (S.take i)
          generalize setRows false (S.take i) = D at *
          obtain ⟨p, hp⟩ : ∃ p : Nat, S[i] = (p : Int) := ⟨S[i].toNat, by omega⟩
          rw [hp] at hx hc hsucc
          rw [hp] at hstep
          have e1 : ((p : Int)).toNat = p := by omega
          rw [e1] at hstep hsucc
          have HST := Lib.hid hstep
          have HSU := Lib.hid hsucc
          have hp1 : 1 ≤ p := by omega
          have hp40 : p ≤ 40 := by omega
          have hil : (Try.prog.info? 55).map (·.size) = some (arr D).size := by rw [arr_size, hrl]; exact T_info41
          have hir : (Try.prog.info? 55).map (·.size) = some (arr (mrow false D p)).size := by rw [arr_size, mrow_len]; exact T_info41
          have hsz : (arr (mrow false D p)).size = (arr D).size := by rw [arr_size, arr_size, mrow_len, hrl]
          have HRL := Lib.hid hrl
          have HALL : Hid (∀ s, -1099511627776 ≤ D.getD s 0 ∧ D.getD s 0 ≤ 1099511627776) := Lib.hid fun s => by
            rcases Nat.lt_or_ge s 41 with h1 | h1
            · have := (hstep s h1).1; omega
            · rw [getD_ge (by omega)]; omega
          clear hp hstep hsucc e1 hrl hx
          go_wp2_with (first
            | (refine wpList_store_row rfl 55 (.tmp 7) (.tmp 31) rfl w.heap.size rfl (arr (mrow false D p)) rfl 55 _ hbk2 hir hsz (arr_one _) ?_)
            | (go_at_call 56; refine (withMany_any D HRL.out p hp1 hp40 HST.out _).mono ?_; rintro e w5 ⟨rfl, hbw⟩; have hbk2 := hbk.below hbw hbk.lt; have hbel2 := hbel.trans (hbw.mono hbel.size))
            | (refine wpList_load_row rfl 55 (.tmp 7) rfl w.heap.size rfl 55 (arr D) (0, 0) _ hbk Try.underlying55 rfl hil ?_))
          go_roundw
          case rel =>
            refine ⟨i + 1, by omega, by go_num, below_setRow' hbel2 (Nat.le_refl _) _, ?_⟩
            rw [HSU.out]
            exact hbk2.row
          case measure => simp [intOf]; omega
        · obtain rfl : i = S.length := by omega
          rw [List.take_of_length_le (Nat.le_refl _)] at hbk
          have hrl := setRows_len false S
          have hN41 : N < (setRows false S).length := by omega
          have hN' : (N : Int) < 41 := by omega
          have hc := hbk.cell N
          rw [arr_get _ N hN41] at hc
          have HG : Hid ((setRows false S)[N] = cntF false S N) := Lib.hid (by rw [HE.out, getD_lt (by simpa using hN41)]; rfl)
          go_wp2_with fail
          go_ret
          exact ⟨ret_i64 HG.out, hbel⟩
    | false =>
      have HS := Lib.hid hs
      have hE : cntF false S n = -1 := cntF_out false (fun hh => by rw [hs] at hh; cases hh.1)
      rw [hE]
      clear hE hs hn
      go_enter Try.func55, Try.ntmps55
      go_wp2_with (go_at_call 67; refine (isSet_any _ _ B S _ h hl).mono ?_; rintro e w' ⟨rfl, rfl⟩; rw [HS.out])
      go_ret
      exact ⟨rfl, Below.refl _ _⟩
  · have hE : cntF false S n = -1 := cntF_out false (fun hh => hn hh.2)
    rw [hE]
    by_cases h0 : n < 0
    · have d1 : decide (n < 0) = true := decide_eq_true h0
      clear hn h0 hE
      go_enter Try.func55, Try.ntmps55
      go_wp2_with fail
      go_ret
      exact ⟨rfl, Below.refl _ _⟩
    · have d1 : decide (n < 0) = false := decide_eq_false h0
      have d2 : decide (40 < n) = true := decide_eq_true (by omega)
      clear hn h0 hE
      go_enter Try.func55, Try.ntmps55
      go_wp2_with fail
      go_ret
      exact ⟨rfl, Below.refl _ _⟩

theorem iCountIn_any (a : Option Addr) (c B : Nat) (S : List Int) (n : Int) (w : World) (h : Rd w B a (ints S)) (hB : B ≤ w.heap.size) (hl : S.length ≤ 4611686018427387904) :
    Calls Try.prog 31 #[.slice a S.length c, .int .i64 n] w fun e w' => e = .returned (.int .i64 (cntF false S n)) ∧ Below w.heap.size w w' := by
  go_enter Try.func31, Try.ntmps31
  go_wp2_with (go_at_call 55; refine (countOverMany_any _ _ B S n _ h hB hl).mono ?_; rintro e w1 ⟨rfl, hb1⟩)
  go_ret
  exact ⟨rfl, hb1⟩


end Go.Proofs.Yteglcoalfgjjiaa
