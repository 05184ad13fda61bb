/-
  Walks of the model: kinds of parts; stairs.
-/
import Derived.Test.YtdoihndifaebcaaW33
import Derived.Test.YtdoihndifaebcaaW8
namespace Go.Proofs.Ytdoihndifaebcaa
open Go.RowKit NP
set_option linter.unusedVariables false
set_option linter.unusedSimpArgs false

set_option maxHeartbeats 1000000 in
theorem gaps_any (a : Option Addr) (c B : Nat) (L : List Int) (d : Int) (hd : 0 ≤ d ∧ d ≤ 100) (hv : valid L = true) (w : World) (h : Rd w B a (ints L)) :
    Calls Try.prog 48 #[.slice a L.length c, .int .i64 d] w fun e w' => e = .returned (.bool (kFall d d L)) ∧ ∃ n, w' = w.drewN n := by
  have hl16 := (valid_bd hv).2.2.2
  have HNN := Lib.hid (getD_nn hv)
  clear hv
  go_enter Try.func48, Try.ntmps48
  go_wp2
  go_loopw [5] (fun vi wr => ∃ k : Nat, k ≤ L.length - 1 ∧ vi = .int .i64 k ∧ Dr w wr ∧ Hid (∀ j, j < k → (fun j => decide ((if L.getD j 0 % 3 = 0 then d else d) ≤ L.getD j 0 - L.getD (j + 1) 0)) j = true)) (fun vi _ => L.length - (intOf vi).toNat)
  case atStart => exact ⟨0, Nat.zero_le _, rfl, Dr.refl _, Lib.hid fun j hj => by omega⟩
  case round =>
    obtain ⟨k, hk, rfl, hdr, HP⟩ := hrel
    by_cases hlt : k < L.length - 1
    · have hlt' : (k : Int) + 1 < (L.length : Int) := by omega
      have hR := h.dr hdr
      have hk0 : k < L.length := by omega
      have hk1 : k + 1 < L.length := by omega
      obtain ⟨b, o, rfl, _, hc⟩ := hR.at_ hk0
      obtain ⟨b', o', e', -, hc'⟩ := hR.at_ hk1
      injection e' with e'; injection e' with e2 e3; subst e2 e3
      have hx := HNN.out k
      have hy := HNN.out (k + 1)
      have hg : L.getD k 0 = L[k] := getD_lt hk0
      have hg' : L.getD (k + 1) 0 = L[k + 1] := getD_lt hk1
      rw [hg] at hx
      rw [hg'] at hy
      have HG := Lib.hid hg
      have HG' := Lib.hid hg'
      have HT : Hid (∀ x : Int, (if x % 3 = 0 then d else d) = d) := Lib.hid fun x => by split <;> rfl
      clear hg hg'
      generalize L[k] = x at hc hx HG
      generalize L[k + 1] = y at hc' hy HG'
      by_cases e2 : x - y < d
      · have HF : Hid (kFall d d L = false) := Lib.hid (allTo_no hlt (by rw [HG.out, HG'.out, HT.out]; simpa using e2))
        go_wp2_with fail
        go_quiet (fail)
        go_wp2
        go_ret
        exact ⟨ret_bool HF.out.symm, hdr.trans (Dr.n _ _)⟩
      · have e3 : d ≤ x - y := by omega
        clear e2
        go_wp2_with fail
        go_quiet (fail)
        go_wp2
        go_roundw
        case rel => exact ⟨k + 1, by omega, by go_num, hdr.drewN _, Lib.hid (upto HP.out (by show decide (_ ≤ _) = true; rw [HG.out, HG'.out, HT.out]; simpa using e3))⟩
        case measure => simp [intOf]; omega
    · have hge : ¬ (k : Int) + 1 < (L.length : Int) := by omega
      obtain rfl : k = L.length - 1 := by omega
      have HF : Hid (kFall d d L = true) := Lib.hid (allTo_yes HP.out)
      clear hlt
      go_wp2
      go_ret
      exact ⟨ret_bool HF.out.symm, hdr⟩

set_option maxHeartbeats 1000000 in
theorem same_any (a b : Option Addr) (ca cb Ba Bb : Nat) (L M : List Int) (hl : L.length ≤ 1000) (w : World) (h : Rd w Ba a (ints L)) (hm : Rd w Bb b (ints M)) (hml : M.length ≤ 1000) :
    Calls Try.prog 67 #[.slice a L.length ca, .slice b M.length cb] w fun e w' => e = .returned (.bool (decide (L = M))) ∧ ∃ n, w' = w.drewN n := by
  by_cases hlen : L.length = M.length
  · have b0 : ((L.length : Int) != (M.length : Int)) = false := by simp [hlen]
    go_enter Try.func67, Try.ntmps67
    go_wp2_with fail
    clear b0
    go_loopw [5] (fun vi wr => ∃ k : Nat, k ≤ L.length ∧ vi = .int .i64 k ∧ Dr w wr ∧ Hid (∀ j, j < k → L.getD j 0 = M.getD j 0)) (fun vi _ => L.length - (intOf vi).toNat)
    case atStart => exact ⟨0, Nat.zero_le _, rfl, Dr.refl _, Lib.hid fun j hj => by omega⟩
    case round =>
      obtain ⟨k, hk, rfl, hdr, HP⟩ := hrel
      by_cases hlt : k < L.length
      · have hlt' : (k : Int) < (L.length : Int) := by omega
        have hltm : k < M.length := by omega
        have hlt'm : (k : Int) < (M.length : Int) := by omega
        obtain ⟨b1, o1, rfl, _, hc⟩ := (h.dr hdr).at_ hlt
        obtain ⟨b2, o2, rfl, _, hc'⟩ := (hm.dr hdr).at_ hltm
        have HG : Hid (L.getD k 0 = L[k]) := Lib.hid (getD_lt hlt)
        have HG' : Hid (M.getD k 0 = M[k]) := Lib.hid (getD_lt hltm)
        by_cases e1 : L[k] = M[k]
        · have HE : Hid (L.getD k 0 = M.getD k 0) := Lib.hid (by rw [HG.out, HG'.out, e1])
          have b1 : (L[k] != M[k]) = false := by simp [e1]
          clear e1 hlen
          generalize L[k] = x at hc HG b1
          generalize M[k] = y at hc' HG' b1
          go_wp2_with fail
          go_quiet (fail)
          go_wp2
          go_roundw
          case rel => exact ⟨k + 1, by omega, by go_num, hdr.drewN _, Lib.hid fun j hj => by
            rcases Nat.lt_or_ge j k with h1 | h1
            · exact HP.out j h1
            · obtain rfl : j = k := by omega
              exact HE.out⟩
          case measure => simp [intOf]; omega
        · have HF : Hid (decide (L = M) = false) := Lib.hid (decide_eq_false fun hc => e1 (by subst hc; rfl))
          have b1 : (L[k] != M[k]) = true := by simpa using e1
          clear e1 hlen
          generalize L[k] = x at hc HG b1
          generalize M[k] = y at hc' HG' b1
          go_wp2_with fail
          go_quiet (fail)
          go_wp2
          go_ret
          exact ⟨ret_bool HF.out.symm, hdr.trans (Dr.n _ _)⟩
      · obtain rfl : k = L.length := by omega
        have HF : Hid (decide (L = M) = true) := Lib.hid (decide_eq_true (List.ext_getElem hlen fun j h1 h2 => by
          have := HP.out j h1
          rwa [getD_lt h1, getD_lt h2] at this))
        clear hlen
        go_wp2
        go_ret
        exact ⟨ret_bool HF.out.symm, hdr⟩
  · have b0 : ((L.length : Int) != (M.length : Int)) = true := by simp; omega
    have HF : Hid (decide (L = M) = false) := Lib.hid (decide_eq_false fun hc => hlen (by rw [hc]))
    clear hlen
    go_enter Try.func67, Try.ntmps67
    go_wp2_with fail
    go_ret
    exact ⟨ret_bool HF.out.symm, 0, rfl⟩

/-- whether all leave one of some remainders -/
def remIn (m : Int) (R : List Int) (L : List Int) : Bool := allTo (fun j => hasI R (L.getD j 0 % m)) L.length
set_option maxHeartbeats 1000000 in
theorem allRemain_any (a b : Option Addr) (c cb Bb B : Nat) (L R : List Int) (m : Int) (hm : 1 ≤ m ∧ m ≤ 100) (hv : valid L = true) (w : World) (h : Rd w B a (ints L)) (hr : Rd w Bb b (ints R)) (hrl : R.length ≤ 1000) :
    Calls Try.prog 73 #[.slice a L.length c, .int .i64 m, .slice b R.length cb] w fun e w' => e = .returned (.bool (remIn m R L)) ∧ w = w' := by
  have hl16 := (valid_bd hv).2.2.2
  have HNN := Lib.hid (getD_nn hv)
  clear hv
  go_enter Try.func73, Try.ntmps73
  go_wp2
  go_loop [7] (fun vi => ∃ k : Nat, k ≤ L.length ∧ vi = .int .i64 k ∧ Hid (∀ j, j < k → (fun j => hasI R (L.getD j 0 % m)) j = true)) (fun vi => L.length - (intOf vi).toNat)
  case atStart => exact ⟨0, Nat.zero_le _, rfl, Lib.hid fun j hj => by omega⟩
  case round =>
    obtain ⟨k, hk, rfl, HP⟩ := hrel
    by_cases hlt : k < L.length
    · have hlt' : (k : Int) < (L.length : Int) := by omega
      obtain ⟨b1, o1, rfl, _, hc⟩ := h.at_ hlt
      have hx := HNN.out k
      have hg : L.getD k 0 = L[k] := getD_lt hlt
      rw [hg] at hx
      have HG := Lib.hid hg
      clear hg
      generalize L[k] = x at hc hx HG
      obtain ⟨q, hq⟩ : ∃ q, x % m = q := ⟨_, rfl⟩
      have hq0 : x.tmod m = q := by rw [Int.tmod_eq_emod_of_nonneg hx.1]; exact hq
      have HQ := Lib.hid hq
      cases hh : hasI R q with
      | true =>
        have HH := Lib.hid hh
        clear hh
        go_wp2_with (go_at_call 105; refine (hasInt_any _ _ Bb R q _ hr (by omega)).mono ?_; rintro e w' ⟨rfl, rfl⟩; rw [HH.out])
        go_round
        case rel => exact ⟨k + 1, by omega, by go_num, Lib.hid (upto HP.out (by show hasI R _ = true; rw [HG.out, HQ.out, HH.out]))⟩
        case measure => simp [intOf]; omega
      | false =>
        have HH := Lib.hid hh
        have HF : Hid (remIn m R L = false) := Lib.hid (allTo_no hlt (by rw [HG.out, HQ.out, hh]))
        clear hh
        go_wp2_with (go_at_call 105; refine (hasInt_any _ _ Bb R q _ hr (by omega)).mono ?_; rintro e w' ⟨rfl, rfl⟩; rw [HH.out])
        go_ret
        exact ⟨ret_bool HF.out.symm, rfl⟩
    · obtain rfl : k = L.length := by omega
      have HF : Hid (remIn m R L = true) := Lib.hid (allTo_yes HP.out)
      go_wp2
      go_ret
      exact ⟨ret_bool HF.out.symm, rfl⟩

set_option maxHeartbeats 2000000 in
theorem sStairCut_any (a : Option Addr) (c B : Nat) (L : List Int) (w : World) (h : Rd w B a (ints L)) (hB : B ≤ w.heap.size) (hl : L.length ≤ 4611686018427387904) :
    Calls Try.prog 17 #[.slice a L.length c] w fun e w' => ∃ a' c', e = .returned (.tuple #[.slice a' (stCutF L).length c', .int .i64 (stN L), .bool (dis L)]) ∧ Own w' w.heap.size w'.heap.size 3 (.slice a' (stCutF L).length c') (ints (stCutF L)) ∧ Below w.heap.size w w' := by
  obtain ⟨i0, hi, hz0, hz1, hz2⟩ := T_int'
  cases hv : valid L with
  | false =>
    have HV := Lib.hid hv
    have hd : dis L = false := by simp [dis, hv]
    rw [stCutF_no hd, stN_no hd, hd]
    clear hv hd
    go_enter Try.func17, Try.ntmps17
    go_wp2_with (go_at_call 47; refine (validParts_any _ _ B L _ h hl).mono ?_; rintro e wv ⟨rfl, n1, rfl⟩; rw [HV.out])
    go_ret3
    exact ⟨none, 0, rfl, own_nil0 _ _ _, (Dr.n w n1).below _⟩
  | true =>
    have HV := Lib.hid hv
    have hl16 := (valid_bd hv).2.2.2
    cases hk : kFall 1 1 L with
    | false =>
      have HK := Lib.hid hk
      have hd : dis L = false := by simp [dis, hk]
      rw [stCutF_no hd, stN_no hd, hd]
      clear hv hd hk
      go_enter Try.func17, Try.ntmps17
      go_wp2_with (first
        | (go_at_call 48; refine (gaps_any _ _ B L 1 (by omega) HV.out _ (h.dr (Dr.n w n1))).mono ?_; rintro e wv ⟨rfl, n2, rfl⟩; rw [HK.out])
        | (go_at_call 47; refine (validParts_any _ _ B L _ h hl).mono ?_; rintro e wv ⟨rfl, n1, rfl⟩; rw [HV.out]))
      go_ret3
      exact ⟨none, 0, rfl, own_nil0 _ _ _, (Dr.n w (n1 + n2)).below _⟩
    | true =>
      have HK := Lib.hid hk
      have hd : dis L = true := by simp [dis, hv, hk]
      have HNN := Lib.hid (getD_nn hv)
      rw [stCutF_yes hd, stN_yes hd, hd]
      clear hv hd hk
      go_enter Try.func17, Try.ntmps17
      go_wp2_with (first
        | (go_at_call 48; refine (gaps_any _ _ B L 1 (by omega) HV.out _ (h.dr (Dr.n w n1))).mono ?_; rintro e wv ⟨rfl, n2, rfl⟩; rw [HK.out]; have hd12 := Dr.n w (n1 + n2))
        | (go_at_call 47; refine (validParts_any _ _ B L _ h hl).mono ?_; rintro e wv ⟨rfl, n1, rfl⟩; rw [HV.out]))
      go_loopw [5, 6, 7] (fun v vi _ wr => ∃ k : Nat, k ≤ L.length ∧ vi = .int .i64 (k : Int) ∧ Below w.heap.size w wr ∧ Own wr w.heap.size wr.heap.size 3 v (ints (stT L k))) (fun _ vi _ _ => 20 - (intOf vi).toNat)
      case atStart => exact ⟨0, Nat.zero_le _, rfl, (hd12.below _).alloc (by simp) _, (Own.empty (w.drewN (n1 + n2)) 3).more⟩
      case round =>
        obtain ⟨k, hk, rfl, hbel, hown⟩ := hrel
        clear hd12
        have hlr := stT_len L k
        by_cases hlt : k < L.length
        · have hlt' : (k : Int) < (L.length : Int) := by omega
          have hS := Lib.hid (stT_succ L k)
          have hx := HNN.out k
          rw [getD_lt hlt] at hx hS
          obtain ⟨b1, o1, rfl, _, hc1⟩ := ((h.more hB).below hbel).at_ hlt
          obtain ⟨vs, hvs⟩ : ∃ vs, vs = ints (stT L k) := ⟨_, rfl⟩
          have hlv : vs.length ≤ 16 := by rw [hvs, List.length_map]; omega
          rw [← hvs] at hown
          have HVS := Lib.hid hvs
          have HO := Lib.hid hown
          clear hvs hown hlr
          generalize L[k] = x at *
          obtain ⟨z, hz⟩ : ∃ z, x - ((L.length : Int) - (k : Int)) = z := ⟨_, rfl⟩
          have hzb : -100 ≤ z ∧ z ≤ 100 := by omega
          have HZ := Lib.hid hz
          by_cases hx2 : 0 < z
          · go_wp2_with (at_builtin; refine wpList_append_o _ rfl (.tmp 34) (.tmp 36) 22 rfl w.heap.size wr.heap.size 3 i0 (.int .i64 0) 8 Try.underlying22 hi hz0 hz1 hz2 rfl _ vs rfl (HO.out.alloc _) (wr.heap.size + 1) (some ⟨wr.heap.size, 0, none⟩) 1 1 [.int .i64 (z)] rfl (Rd.one _ _ _) rfl (by simp; rfl) (by unfold maxLen; omega) (by omega) (by have := hbel.size; simp; omega) ?_; intro v' w1 ho1 hg1 hat1)
            go_roundw
            case rel =>
              refine ⟨k + 1, by omega, by go_num, below_push hbel (Nat.le_refl _) hg1 HO.out.base, ?_⟩
              rw [HVS.out] at ho1
              rw [hS.out, HZ.out, if_pos hx2]
              simpa [ints] using ho1
            case measure => simp [intOf]; omega
          · have hx3 : z ≤ 0 := by omega
            go_wp2_with fail
            go_roundw
            case rel =>
              refine ⟨k + 1, by omega, by go_num, hbel, ?_⟩
              rw [hS.out, HZ.out, if_neg hx2, List.append_nil, ← HVS.out]
              exact HO.out
            case measure => simp [intOf]; omega
        · obtain rfl : k = L.length := by omega
          obtain ⟨a', c', rfl⟩ := hown.form
          have hl4 : (ints (stT L L.length)).length = (stCut L).length := by simp [stCut]
          rw [hl4] at hown ⊢
          have HO := Lib.hid hown
          clear hown hl4 hlt hk hlr
          go_wp2
          go_ret3
          exact ⟨a', c', rfl, HO.out, hbel⟩

set_option maxHeartbeats 2000000 in
theorem sStairPut_any (a : Option Addr) (c B : Nat) (P : List Int) (k : Int) (w : World) (h : Rd w B a (ints P)) (hB : B ≤ w.heap.size) (hl : P.length ≤ 4611686018427387904) :
    Calls Try.prog 27 #[.slice a P.length c, .int .i64 k] w fun e w' => ∃ a' c', e = .returned (.tuple #[.slice a' (stPutF P k).length c', .bool (stOk P k)]) ∧ Own w' w.heap.size w'.heap.size 3 (.slice a' (stPutF P k).length c') (ints (stPutF P k)) ∧ Below w.heap.size w w' := by
  obtain ⟨i0, hi, hz0, hz1, hz2⟩ := T_int'
  cases hv : valid P with
  | false =>
    have HV := Lib.hid hv
    have hd : stOk P k = false := by simp [stOk, hv]
    rw [stPutF_no hd, hd]
    clear hv hd
    go_enter Try.func27, Try.ntmps27
    go_wp2_with (go_at_call 47; refine (validParts_any _ _ B P _ h hl).mono ?_; rintro e wv ⟨rfl, n1, rfl⟩; rw [HV.out])
    go_ret2
    exact ⟨none, 0, rfl, own_nil0 _ _ _, (Dr.n w n1).below _⟩
  | true =>
    have HV := Lib.hid hv
    have hl16 := (valid_bd hv).2.2.2
    by_cases hr : (P.length : Int) ≤ k ∧ k ≤ 16
    · obtain ⟨hr1, hr2⟩ := hr
      obtain ⟨n, rfl⟩ := Int.eq_ofNat_of_zero_le (show 0 ≤ k by omega)
      have hn : n ≤ 16 := by omega
      have hpn : P.length ≤ n := by omega
      have hmul := stairs_mul hn
      have HF := Lib.hid (valid_fits hv)
      have hbd := valid_bd hv
      have hs0 := hbd.1
      have hs1 := hbd.2.1
      have HR : Hid ((P.length : Int) ≤ (n : Int) ∧ (n : Int) ≤ 16) := Lib.hid ⟨hr1, hr2⟩
      have hso : stOk P n = decide (sumL P + (n : Int) * ((n : Int) + 1) / 2 ≤ 16) := by unfold stOk; rw [hv, decide_eq_true hr1, decide_eq_true hr2]; rfl
      obtain ⟨m, hm⟩ : ∃ m, (n : Int) * ((n : Int) + 1) = m := ⟨_, rfl⟩
      have hwm : IntKind.i64.wrap ((n : Int) * ((n : Int) + 1)) = m := by rw [hm]; exact IntWalk.i64_in _ (by omega)
      have hmb : 0 ≤ m ∧ m ≤ 272 := by omega
      obtain ⟨q, hq⟩ : ∃ q, m / 2 = q := ⟨_, rfl⟩
      have hq' : m.tdiv 2 = q := by rw [Int.tdiv_eq_ediv_of_nonneg hmb.1]; exact hq
      have hqb : 0 ≤ q ∧ q ≤ 136 := by omega
      rw [hm, hq] at hso
      have HNN := Lib.hid (getD_nn hv)
      by_cases hs : sumL P + q ≤ 16
      · have hok : stOk P n = true := by rw [hso, decide_eq_true hs]
        have g1 : decide (16 < sumL P + q) = false := decide_eq_false (by omega)
        obtain ⟨h5, htw, hvp, he⟩ := st_put hok
        have hlen : (adp P (stairs n)).length = n := by rw [adp_len, stairs_len]; omega
        have HLEN := Lib.hid hlen
        rw [stPutF_yes hok, hok, he]
        clear hv hso hok htw hvp he hbd hlen hmul hs
        go_enter Try.func27, Try.ntmps27
        go_wp2_with (first
          | (go_at_call 55; refine (sum_any _ _ B P _ (h.dr (Dr.n w n1)) HF.out hl).mono ?_; rintro e wv ⟨rfl, rfl⟩)
          | (go_at_call 54; refine (inRange_yes _ _ _ _ HR.out.1 HR.out.2).mono ?_; rintro e wv ⟨rfl, rfl⟩)
          | (go_at_call 47; refine (validParts_any _ _ B P _ h hl).mono ?_; rintro e wv ⟨rfl, n1, rfl⟩; rw [HV.out]))
        clear hwm hq' g1 hq hm
        go_loopw [6, 7, 8] (fun v vi _ wr => ∃ k : Nat, k ≤ n ∧ vi = .int .i64 (k : Int) ∧ Below w.heap.size w wr ∧ Own wr w.heap.size wr.heap.size 3 v (ints ((adp P (stairs n)).take k))) (fun _ vi _ _ => 20 - (intOf vi).toNat)
        case atStart => exact ⟨0, Nat.zero_le _, rfl, ((Dr.n w n1).below _).alloc (by simp) _, (Own.empty (w.drewN n1) 3).more⟩
        case round =>
          obtain ⟨k, hk, rfl, hbel, hown⟩ := hrel
          by_cases hlt : k < n
          · have hlt' : (k : Int) < (n : Int) := by omega
            have hnp := HNN.out k
            have hS : Hid ((adp P (stairs n)).take (k + 1) = (adp P (stairs n)).take k ++ [(n : Int) - (k : Int) + P.getD k 0]) := Lib.hid (by
              have hk2 : k < (adp P (stairs n)).length := by rw [HLEN.out]; exact hlt
              rw [List.take_succ_eq_append_getElem hk2, ← getD_lt hk2, adp_getD, stairs_getD, if_pos hlt, Int.add_comm])
            obtain ⟨vs, hvs⟩ : ∃ vs, vs = ints ((adp P (stairs n)).take k) := ⟨_, rfl⟩
            have hlv : vs.length ≤ 16 := by rw [hvs]; simp; omega
            rw [← hvs] at hown
            have HVS := Lib.hid hvs
            have HO := Lib.hid hown
            clear hvs hown
            by_cases hkp : k < P.length
            · obtain ⟨b1, o1, rfl, _, hc1⟩ := ((h.more hB).below hbel).at_ hkp
              rw [getD_lt hkp] at hnp hS
              have d1 : decide ((k : Int) < (P.length : Int)) = true := decide_eq_true (by omega)
              have d2 : decide (k < P.length) = true := decide_eq_true hkp
              generalize P[k] = x at *
              obtain ⟨z, hz⟩ : ∃ z, (n : Int) - (k : Int) + x = z := ⟨_, rfl⟩
              have hwz : IntKind.i64.wrap ((n : Int) - (k : Int) + x) = z := by rw [← hz]; exact IntWalk.i64_in _ (by omega)
              have HZ := Lib.hid hz
              go_wp2_with (at_builtin; refine wpList_append_o _ rfl (.tmp 49) (.tmp 51) 22 rfl w.heap.size wr.heap.size 3 i0 (.int .i64 0) 8 Try.underlying22 hi hz0 hz1 hz2 rfl _ vs rfl (HO.out.alloc _) (wr.heap.size + 1) (some ⟨wr.heap.size, 0, none⟩) 1 1 [.int .i64 (z)] rfl (Rd.one _ _ _) rfl (by simp; rfl) (by unfold maxLen; omega) (by omega) (by have := hbel.size; simp; omega) ?_; intro v' w1 ho1 hg1 hat1)
              go_roundw
              case rel =>
                refine ⟨k + 1, by omega, by go_num, below_push hbel (Nat.le_refl _) hg1 HO.out.base, ?_⟩
                rw [HVS.out] at ho1
                rw [hS.out, HZ.out]
                simpa [ints] using ho1
              case measure => simp [intOf]; omega
            · rw [getD_ge (by omega)] at hnp hS
              have d1 : decide ((k : Int) < (P.length : Int)) = false := decide_eq_false (by omega)
              have d2 : decide (k < P.length) = false := decide_eq_false hkp
              go_wp2_with (at_builtin; refine wpList_append_o _ rfl (.tmp 49) (.tmp 51) 22 rfl w.heap.size wr.heap.size 3 i0 (.int .i64 0) 8 Try.underlying22 hi hz0 hz1 hz2 rfl _ vs rfl (HO.out.alloc _) (wr.heap.size + 1) (some ⟨wr.heap.size, 0, none⟩) 1 1 [.int .i64 ((n : Int) - (k : Int))] rfl (Rd.one _ _ _) rfl (by simp; rfl) (by unfold maxLen; omega) (by omega) (by have := hbel.size; simp; omega) ?_; intro v' w1 ho1 hg1 hat1)
              go_roundw
              case rel =>
                refine ⟨k + 1, by omega, by go_num, below_push hbel (Nat.le_refl _) hg1 HO.out.base, ?_⟩
                rw [HVS.out] at ho1
                rw [hS.out, Int.add_zero]
                simpa [ints] using ho1
              case measure => simp [intOf]; omega
          · obtain rfl : k = n := by omega
            have HT : Hid ((adp P (stairs k)).take k = adp P (stairs k)) := Lib.hid (List.take_of_length_le (by rw [HLEN.out]; exact Nat.le_refl _))
            rw [HT.out] at hown
            obtain ⟨a', c', rfl⟩ := hown.form
            have hl4 : (ints (adp P (stairs k))).length = (adp P (stairs k)).length := by simp
            rw [hl4] at hown ⊢
            have HO := Lib.hid hown
            clear hown hl4 hlt hk
            go_wp2
            go_ret2
            exact ⟨a', c', rfl, HO.out, hbel⟩
      · have hok : stOk P n = false := by rw [hso, decide_eq_false hs]
        have g1 : decide (16 < sumL P + q) = true := decide_eq_true (by omega)
        rw [stPutF_no hok, hok]
        clear hv hso hok hbd hmul hs
        go_enter Try.func27, Try.ntmps27
        go_wp2_with (first
          | (go_at_call 55; refine (sum_any _ _ B P _ (h.dr (Dr.n w n1)) HF.out hl).mono ?_; rintro e wv ⟨rfl, rfl⟩)
          | (go_at_call 54; refine (inRange_yes _ _ _ _ HR.out.1 HR.out.2).mono ?_; rintro e wv ⟨rfl, rfl⟩)
          | (go_at_call 47; refine (validParts_any _ _ B P _ h hl).mono ?_; rintro e wv ⟨rfl, n1, rfl⟩; rw [HV.out]))
        go_ret2
        exact ⟨none, 0, rfl, own_nil0 _ _ _, (Dr.n w n1).below _⟩
    · have hd : stOk P k = false := by
        cases hq : stOk P k with
        | false => rfl
        | true => exact absurd ⟨((stOk_iff _ _).1 hq).2.1, ((stOk_iff _ _).1 hq).2.2.1⟩ hr
      have HR : Hid (k < (P.length : Int) ∨ 16 < k) := Lib.hid (by omega)
      rw [stPutF_no hd, hd]
      clear hv hd hr
      go_enter Try.func27, Try.ntmps27
      go_wp2_with (first
        | (go_at_call 54; refine (inRange_no _ _ _ _ HR.out).mono ?_; rintro e wv ⟨rfl, rfl⟩)
        | (go_at_call 47; refine (validParts_any _ _ B P _ h hl).mono ?_; rintro e wv ⟨rfl, n1, rfl⟩; rw [HV.out]))
      go_ret2
      exact ⟨none, 0, rfl, own_nil0 _ _ _, (Dr.n w n1).below _⟩
end Go.Proofs.Ytdoihndifaebcaa
