/-
  Walks of the model: meets, joins. Draws of chains down. Walks: whether a list is among others.
-/
import Derived.Test.YtmojonpjgaidgaaZchain1
import Derived.Test.YtmojonpjgaidgaaZchain2
import Derived.Test.YtmojonpjgaidgaaZchain3
import Derived.Test.YtmojonpjgaidgaaZchain4
import Derived.Test.YtmojonpjgaidgaaZchain5
import Derived.Test.YtmojonpjgaidgaaZchain6
import Derived.Test.YtmojonpjgaidgaaZchain7
import Derived.Test.YtmojonpjgaidgaaZchain8
import Derived.Test.YtmojonpjgaidgaaZchain9
import Derived.Test.YtmojonpjgaidgaaZchain10
import Derived.Test.YtmojonpjgaidgaaZchain11
namespace Go.Proofs.Ytmojonpjgaidgaa
open Go.RowKit NP
set_option maxRecDepth 8000
set_option linter.unusedVariables false
set_option linter.unusedSimpArgs false
theorem own_nilF (w : World) (lo : Nat) (e : TypeId) : Own w lo w.heap.size e (.slice none ([] : List Int).length 0) (ints []) := Own.nil w lo e

set_option maxHeartbeats 4000000 in
theorem smeet_any (a b : Option Addr) (ca cb Ba Bb : Nat) (P Q : List Int) (w : World) (h : Rd w Ba a (ints P)) (hq : Rd w Bb b (ints Q)) (hBa : Ba ≤ w.heap.size) (hBb : Bb ≤ w.heap.size) (hvp : valid P = true) (hvq : valid Q = true) :
    Calls Try.prog 46 #[.slice a P.length ca, .slice b Q.length cb] w fun e w' => ∃ a' c', e = .returned (.slice a' (NP.mt P Q).length c') ∧ Own w' w.heap.size w'.heap.size 3 (.slice a' (NP.mt P Q).length c') (ints (NP.mt P Q)) ∧ Below w.heap.size w w' := by
  obtain ⟨i0, hi, hz0, hz1, hz2⟩ := T_int'
  have hpl := (valid_bd hvp).2.2.2
  have hql := (valid_bd hvq).2.2.2
  have HGP := Lib.hid (getD_nn hvp)
  have HGQ := Lib.hid (getD_nn hvq)
  have HBP := Lib.hid (sumTo_bd hvp)
  have HBQ := Lib.hid (sumTo_bd hvq)
  have HP := Lib.hid hvp
  have HQ := Lib.hid hvq
  clear hvp hvq
  go_enter Try.func46, Try.ntmps46
  go_wp2_with fail
  go_loopw [5, 6, 7, 8, 9] (fun v va vb vl vi wr => ∃ k : Nat, k ≤ 16 ∧ vi = .int .i64 k ∧ va = .int .i64 (sumTo P k) ∧ vb = .int .i64 (sumTo Q k) ∧ vl = .int .i64 (mf P Q k) ∧ Below w.heap.size w wr ∧ Own wr w.heap.size wr.heap.size 3 v (ints (tr (mi P Q) k))) (fun _ _ _ _ vi _ => 20 - (intOf vi).toNat)
  case atStart => exact ⟨0, Nat.zero_le _, rfl, rfl, rfl, rfl, (Below.refl _ _).alloc (Nat.le_refl _) _, (Own.empty w 3).more⟩
  case round =>
    obtain ⟨k, hk, rfl, rfl, rfl, rfl, hbel, hown⟩ := hrel
    have hA := HBP.out k
    have hB := HBQ.out k
    by_cases h1 : k < P.length
    · by_cases h2 : k < Q.length
      · have hgo : True := trivial
        obtain ⟨b1, o1, rfl, _, hc1⟩ := ((h.more hBa).below hbel).at_ h1
        have hx := HGP.out k
        have hx2 := HBP.out (k + 1)
        rw [sumTo] at hx2
        rw [getD_lt h1] at hx hx2
        have HX : Hid (P.getD k 0 = P[k]) := Lib.hid (getD_lt h1)
        have d1 : decide ((k : Int) < (P.length : Int)) = true := decide_eq_true (by omega)
        have l1 : (k : Int) < (P.length : Int) := by omega
        obtain ⟨b2, o2, rfl, _, hc2⟩ := ((hq.more hBb).below hbel).at_ h2
        have hy := HGQ.out k
        have hy2 := HBQ.out (k + 1)
        rw [sumTo] at hy2
        rw [getD_lt h2] at hy hy2
        have HY : Hid (Q.getD k 0 = Q[k]) := Lib.hid (getD_lt h2)
        have d2 : decide ((k : Int) < (Q.length : Int)) = true := decide_eq_true (by omega)
        have l2 : (k : Int) < (Q.length : Int) := by omega
        obtain ⟨A, hAA⟩ : ∃ A, A = sumTo P k := ⟨_, rfl⟩
        rw [← hAA] at hA hx2 ⊢
        have HA : Hid (sumTo P k = A) := Lib.hid hAA.symm
        clear hAA
        obtain ⟨B, hBB⟩ : ∃ B, B = sumTo Q k := ⟨_, rfl⟩
        rw [← hBB] at hB hy2 ⊢
        have HB : Hid (sumTo Q k = B) := Lib.hid hBB.symm
        clear hBB
        generalize P[k] = x at *
        have hw1 : IntKind.i64.wrap (A + x) = A + x := IntWalk.i64_in _ (by omega)
        generalize Q[k] = y at *
        have hw2 : IntKind.i64.wrap (B + y) = B + y := IntWalk.i64_in _ (by omega)
        obtain ⟨M, hMM⟩ : ∃ M, M = mf P Q k := ⟨_, rfl⟩
        have hM : M = min A B := by rw [hMM]; unfold mf; rw [HA.out, HB.out]
        rw [← hMM]
        obtain ⟨N, hNN⟩ : ∃ N, N = mf P Q (k + 1) := ⟨_, rfl⟩
        have hN : N = min (A + x) (B + y) := by rw [hNN]; unfold mf; rw [sumTo, sumTo, HX.out, HY.out, HA.out, HB.out]
        have HN : Hid (mf P Q (k + 1) = N) := Lib.hid hNN.symm
        have HMI : Hid (mi P Q k = N - M) := Lib.hid (by unfold mi; rw [← hNN, ← hMM])
        have HS := Lib.hid (tr_succ (mi P Q) k)
        have hmn : (if (B + y) < (A + x) then (B + y) else (A + x)) = N := by rw [hN]; split <;> omega
        obtain ⟨vs, hvs⟩ : ∃ vs, vs = ints (tr (mi P Q) k) := ⟨_, rfl⟩
        have hlv : vs.length ≤ 16 := by rw [hvs, List.length_map]; have := tr_len (mi P Q) k; omega
        rw [← hvs] at hown
        have HVS := Lib.hid hvs
        have HO := Lib.hid hown
        have hnb : 0 ≤ N ∧ N ≤ 16 := by omega
        have hmb : 0 ≤ M ∧ M ≤ 16 := by omega
        clear hvs hown hMM hNN hM hN
        have hw3 : IntKind.i64.wrap (N - M) = N - M := IntWalk.i64_in _ (by omega)
        by_cases h3 : M < N
        · have d3 : decide (M < N) = true := decide_eq_true h3
          have HI : Hid (0 < mi P Q k) := Lib.hid (by rw [HMI.out]; omega)
          clear h3
          go_wp2_with (at_builtin; refine wpList_append_o _ rfl (.tmp 48) (.tmp 54) 22 rfl w.heap.size wr.heap.size 3 i0 (.int .i64 0) 8 Try.underlying22 hi hz0 hz1 hz2 rfl _ vs rfl (HO.out.alloc _) (wr.heap.size + 1) (some ⟨wr.heap.size, 0, none⟩) 1 1 [.int .i64 (N - M)] rfl (Rd.one _ _ _) rfl (by simp; rfl) (by unfold maxLen; omega) (by omega) (by have := hbel.size; simp; omega) ?_; intro v' w1 ho1 hg1 hat1)
          go_roundw
          case rel =>
            refine ⟨k + 1, by omega, by go_num, (by rw [sumTo, HX.out, HA.out]), (by rw [sumTo, HY.out, HB.out]), (by rw [HN.out]), below_push hbel (Nat.le_refl _) hg1 HO.out.base, ?_⟩
            rw [HVS.out] at ho1
            rw [HS.out, if_pos HI.out, HMI.out]
            simpa [ints] using ho1
          case measure => simp [intOf]; omega
        · have d3 : decide (M < N) = false := decide_eq_false h3
          have HI : Hid (¬ 0 < mi P Q k) := Lib.hid (by rw [HMI.out]; omega)
          clear h3
          go_wp2_with fail
          go_roundw
          case rel =>
            refine ⟨k + 1, by omega, by go_num, (by rw [sumTo, HX.out, HA.out]), (by rw [sumTo, HY.out, HB.out]), (by rw [HN.out]), hbel, ?_⟩
            rw [HS.out, if_neg HI.out, List.append_nil, ← HVS.out]
            exact HO.out
          case measure => simp [intOf]; omega
      · have hgo : True := trivial
        obtain ⟨b1, o1, rfl, _, hc1⟩ := ((h.more hBa).below hbel).at_ h1
        have hx := HGP.out k
        have hx2 := HBP.out (k + 1)
        rw [sumTo] at hx2
        rw [getD_lt h1] at hx hx2
        have HX : Hid (P.getD k 0 = P[k]) := Lib.hid (getD_lt h1)
        have d1 : decide ((k : Int) < (P.length : Int)) = true := decide_eq_true (by omega)
        have l1 : (k : Int) < (P.length : Int) := by omega
        have HY : Hid (Q.getD k 0 = 0) := Lib.hid (getD_ge (by omega))
        have d2 : decide ((k : Int) < (Q.length : Int)) = false := decide_eq_false (by omega)
        have l2 : ¬ (k : Int) < (Q.length : Int) := by omega
        obtain ⟨A, hAA⟩ : ∃ A, A = sumTo P k := ⟨_, rfl⟩
        rw [← hAA] at hA hx2 ⊢
        have HA : Hid (sumTo P k = A) := Lib.hid hAA.symm
        clear hAA
        obtain ⟨B, hBB⟩ : ∃ B, B = sumTo Q k := ⟨_, rfl⟩
        rw [← hBB] at hB ⊢
        have HB : Hid (sumTo Q k = B) := Lib.hid hBB.symm
        clear hBB
        generalize P[k] = x at *
        have hw1 : IntKind.i64.wrap (A + x) = A + x := IntWalk.i64_in _ (by omega)
        obtain ⟨M, hMM⟩ : ∃ M, M = mf P Q k := ⟨_, rfl⟩
        have hM : M = min A B := by rw [hMM]; unfold mf; rw [HA.out, HB.out]
        rw [← hMM]
        obtain ⟨N, hNN⟩ : ∃ N, N = mf P Q (k + 1) := ⟨_, rfl⟩
        have hN : N = min (A + x) B := by rw [hNN]; unfold mf; rw [sumTo, sumTo, HX.out, HY.out, HA.out, HB.out]; simp
        have HN : Hid (mf P Q (k + 1) = N) := Lib.hid hNN.symm
        have HMI : Hid (mi P Q k = N - M) := Lib.hid (by unfold mi; rw [← hNN, ← hMM])
        have HS := Lib.hid (tr_succ (mi P Q) k)
        have hmn : (if B < (A + x) then B else (A + x)) = N := by rw [hN]; split <;> omega
        obtain ⟨vs, hvs⟩ : ∃ vs, vs = ints (tr (mi P Q) k) := ⟨_, rfl⟩
        have hlv : vs.length ≤ 16 := by rw [hvs, List.length_map]; have := tr_len (mi P Q) k; omega
        rw [← hvs] at hown
        have HVS := Lib.hid hvs
        have HO := Lib.hid hown
        have hnb : 0 ≤ N ∧ N ≤ 16 := by omega
        have hmb : 0 ≤ M ∧ M ≤ 16 := by omega
        clear hvs hown hMM hNN hM hN
        have hw3 : IntKind.i64.wrap (N - M) = N - M := IntWalk.i64_in _ (by omega)
        by_cases h3 : M < N
        · have d3 : decide (M < N) = true := decide_eq_true h3
          have HI : Hid (0 < mi P Q k) := Lib.hid (by rw [HMI.out]; omega)
          clear h3
          go_wp2_with (at_builtin; refine wpList_append_o _ rfl (.tmp 48) (.tmp 54) 22 rfl w.heap.size wr.heap.size 3 i0 (.int .i64 0) 8 Try.underlying22 hi hz0 hz1 hz2 rfl _ vs rfl (HO.out.alloc _) (wr.heap.size + 1) (some ⟨wr.heap.size, 0, none⟩) 1 1 [.int .i64 (N - M)] rfl (Rd.one _ _ _) rfl (by simp; rfl) (by unfold maxLen; omega) (by omega) (by have := hbel.size; simp; omega) ?_; intro v' w1 ho1 hg1 hat1)
          go_roundw
          case rel =>
            refine ⟨k + 1, by omega, by go_num, (by rw [sumTo, HX.out, HA.out]), (by rw [sumTo, HY.out, HB.out]; go_num), (by rw [HN.out]), below_push hbel (Nat.le_refl _) hg1 HO.out.base, ?_⟩
            rw [HVS.out] at ho1
            rw [HS.out, if_pos HI.out, HMI.out]
            simpa [ints] using ho1
          case measure => simp [intOf]; omega
        · have d3 : decide (M < N) = false := decide_eq_false h3
          have HI : Hid (¬ 0 < mi P Q k) := Lib.hid (by rw [HMI.out]; omega)
          clear h3
          go_wp2_with fail
          go_roundw
          case rel =>
            refine ⟨k + 1, by omega, by go_num, (by rw [sumTo, HX.out, HA.out]), (by rw [sumTo, HY.out, HB.out]; go_num), (by rw [HN.out]), hbel, ?_⟩
            rw [HS.out, if_neg HI.out, List.append_nil, ← HVS.out]
            exact HO.out
          case measure => simp [intOf]; omega
    · by_cases h2 : k < Q.length
      · have hgo : True := trivial
        have HX : Hid (P.getD k 0 = 0) := Lib.hid (getD_ge (by omega))
        have d1 : decide ((k : Int) < (P.length : Int)) = false := decide_eq_false (by omega)
        have l1 : ¬ (k : Int) < (P.length : Int) := by omega
        obtain ⟨b2, o2, rfl, _, hc2⟩ := ((hq.more hBb).below hbel).at_ h2
        have hy := HGQ.out k
        have hy2 := HBQ.out (k + 1)
        rw [sumTo] at hy2
        rw [getD_lt h2] at hy hy2
        have HY : Hid (Q.getD k 0 = Q[k]) := Lib.hid (getD_lt h2)
        have d2 : decide ((k : Int) < (Q.length : Int)) = true := decide_eq_true (by omega)
        have l2 : (k : Int) < (Q.length : Int) := by omega
        obtain ⟨A, hAA⟩ : ∃ A, A = sumTo P k := ⟨_, rfl⟩
        rw [← hAA] at hA ⊢
        have HA : Hid (sumTo P k = A) := Lib.hid hAA.symm
        clear hAA
        obtain ⟨B, hBB⟩ : ∃ B, B = sumTo Q k := ⟨_, rfl⟩
        rw [← hBB] at hB hy2 ⊢
        have HB : Hid (sumTo Q k = B) := Lib.hid hBB.symm
        clear hBB
        generalize Q[k] = y at *
        have hw2 : IntKind.i64.wrap (B + y) = B + y := IntWalk.i64_in _ (by omega)
        obtain ⟨M, hMM⟩ : ∃ M, M = mf P Q k := ⟨_, rfl⟩
        have hM : M = min A B := by rw [hMM]; unfold mf; rw [HA.out, HB.out]
        rw [← hMM]
        obtain ⟨N, hNN⟩ : ∃ N, N = mf P Q (k + 1) := ⟨_, rfl⟩
        have hN : N = min A (B + y) := by rw [hNN]; unfold mf; rw [sumTo, sumTo, HX.out, HY.out, HA.out, HB.out]; simp
        have HN : Hid (mf P Q (k + 1) = N) := Lib.hid hNN.symm
        have HMI : Hid (mi P Q k = N - M) := Lib.hid (by unfold mi; rw [← hNN, ← hMM])
        have HS := Lib.hid (tr_succ (mi P Q) k)
        have hmn : (if (B + y) < A then (B + y) else A) = N := by rw [hN]; split <;> omega
        obtain ⟨vs, hvs⟩ : ∃ vs, vs = ints (tr (mi P Q) k) := ⟨_, rfl⟩
        have hlv : vs.length ≤ 16 := by rw [hvs, List.length_map]; have := tr_len (mi P Q) k; omega
        rw [← hvs] at hown
        have HVS := Lib.hid hvs
        have HO := Lib.hid hown
        have hnb : 0 ≤ N ∧ N ≤ 16 := by omega
        have hmb : 0 ≤ M ∧ M ≤ 16 := by omega
        clear hvs hown hMM hNN hM hN
        have hw3 : IntKind.i64.wrap (N - M) = N - M := IntWalk.i64_in _ (by omega)
        by_cases h3 : M < N
        · have d3 : decide (M < N) = true := decide_eq_true h3
          have HI : Hid (0 < mi P Q k) := Lib.hid (by rw [HMI.out]; omega)
          clear h3
          go_wp2_with (at_builtin; refine wpList_append_o _ rfl (.tmp 48) (.tmp 54) 22 rfl w.heap.size wr.heap.size 3 i0 (.int .i64 0) 8 Try.underlying22 hi hz0 hz1 hz2 rfl _ vs rfl (HO.out.alloc _) (wr.heap.size + 1) (some ⟨wr.heap.size, 0, none⟩) 1 1 [.int .i64 (N - M)] rfl (Rd.one _ _ _) rfl (by simp; rfl) (by unfold maxLen; omega) (by omega) (by have := hbel.size; simp; omega) ?_; intro v' w1 ho1 hg1 hat1)
          go_roundw
          case rel =>
            refine ⟨k + 1, by omega, by go_num, (by rw [sumTo, HX.out, HA.out]; go_num), (by rw [sumTo, HY.out, HB.out]), (by rw [HN.out]), below_push hbel (Nat.le_refl _) hg1 HO.out.base, ?_⟩
            rw [HVS.out] at ho1
            rw [HS.out, if_pos HI.out, HMI.out]
            simpa [ints] using ho1
          case measure => simp [intOf]; omega
        · have d3 : decide (M < N) = false := decide_eq_false h3
          have HI : Hid (¬ 0 < mi P Q k) := Lib.hid (by rw [HMI.out]; omega)
          clear h3
          go_wp2_with fail
          go_roundw
          case rel =>
            refine ⟨k + 1, by omega, by go_num, (by rw [sumTo, HX.out, HA.out]; go_num), (by rw [sumTo, HY.out, HB.out]), (by rw [HN.out]), hbel, ?_⟩
            rw [HS.out, if_neg HI.out, List.append_nil, ← HVS.out]
            exact HO.out
          case measure => simp [intOf]; omega
      · have hgo : True := trivial
        have HX : Hid (P.getD k 0 = 0) := Lib.hid (getD_ge (by omega))
        have d1 : decide ((k : Int) < (P.length : Int)) = false := decide_eq_false (by omega)
        have l1 : ¬ (k : Int) < (P.length : Int) := by omega
        have HY : Hid (Q.getD k 0 = 0) := Lib.hid (getD_ge (by omega))
        have d2 : decide ((k : Int) < (Q.length : Int)) = false := decide_eq_false (by omega)
        have l2 : ¬ (k : Int) < (Q.length : Int) := by omega
        rw [mt_at (by omega) (by omega) hk] at hown
        obtain ⟨a', c', rfl⟩ := hown.form
        have hl4 : (ints (NP.mt P Q)).length = (NP.mt P Q).length := by simp
        rw [hl4] at hown ⊢
        have HO := Lib.hid hown
        clear hown hl4
        go_wp2_with fail
        go_ret
        exact ⟨a', c', rfl, HO.out, hbel⟩


end Go.Proofs.Ytmojonpjgaidgaa
namespace Go.Proofs.Ytmojonpjgaidgaa
open Go.RowKit NP
set_option maxRecDepth 8000
set_option linter.unusedVariables false
set_option linter.unusedSimpArgs false
theorem sp_valid {M : List Int} (hv : valid M = true) : SmallParts M := by
  have hl16 := (valid_bd hv).2.2.2
  refine ⟨hl16, fun x hx => ?_⟩
  obtain ⟨i, hi, rfl⟩ := List.getElem_of_mem hx
  have h3 := pad_nonneg hv i (by rw [pad_len hl16]; omega)
  rw [pad_get hl16 hi] at h3
  have h4 := preS_of_valid hv i hi hi
  omega
theorem sm_valid {M : List Int} (hv : valid M = true) : Small M := by
  have h := sp_valid hv
  exact ⟨by have := h.1; omega, fun x hx => by have := h.2 x hx; omega⟩
theorem own_kept {w w' : World} {lo hi g : Nat} {e : TypeId} {v : Value} {vs : List Value} (h : Own w lo hi e v vs) (hg : w.grownBy w' (some g)) (hlo : g < lo) : Own w' lo hi e v vs :=
  h.keep hg.size fun k hk => hg.block k (Nat.lt_of_lt_of_le (h.lt k hk) h.le) (fun e => by injection e with e; have := h.base k hk; omega)
set_option maxHeartbeats 1000000 in
theorem DrawChainDown_any (a : Option Addr) (c B : Nat) (bs : List Int) (w : World) (h : Rd w B a (bs.map (Value.int .u8))) (hB : B ≤ w.heap.size) (hb : ∀ n ∈ bs, (Lit.int .u8 n).wf = true) (hl : bs.length ≤ 1048576) (hc : bs.length ≤ c) :
    Calls Try.prog 17 #[.slice a bs.length c] w fun e w' => ∃ a1 c1 M1 a2 c2 M2, e = .returned (.tuple #[.slice a1 M1.length c1, .slice a2 M2.length c2]) ∧ Own w' w.heap.size w'.heap.size 3 (.slice a1 M1.length c1) (ints M1) ∧ Own w' w.heap.size w'.heap.size 3 (.slice a2 M2.length c2) (ints M2) ∧ Small M1 ∧ Small M2 ∧ Below w.heap.size w w' := by
  go_enter Try.func17, Try.ntmps17
  go_wp2_with fail
  refine (newReader_any _ _ B bs _ h hB hb hl hc).mono ?_
  rintro e w1 ⟨rfl, h1, hb1, -⟩
  go_wp2_with fail
  refine (one_any w.heap.size 0 _ _ _ [6, 7, 5, 8, 4, 3, 9, 2, 1, 0, 13] _ _ (by simp) (by simp) (by omega) (h1.below ((Below.refl _ _).alloc h1.lt _)) (rd_new w1 _ _) (by intro b o e; injection e with e; injection e with e; have := h1.lt; omega)).mono ?_
  rintro e w2 ⟨k, hk, rfl, h2, hg2, -⟩
  have hx : ∀ x ∈ ([6, 7, 5, 8, 4, 3, 9, 2, 1, 0, 13] : List Int), 0 ≤ x ∧ x ≤ 16 := by intro x hx; simp only [List.mem_cons, List.not_mem_nil, or_false] at hx; omega
  have hx2 := hx _ (List.getElem_mem hk)
  obtain ⟨x2, hxx⟩ : ∃ x, x = ([6, 7, 5, 8, 4, 3, 9, 2, 1, 0, 13] : List Int)[k] := ⟨_, rfl⟩
  rw [← hxx] at hx2 ⊢
  clear hx hxx hk
  have hz2 : w.heap.size < w2.heap.size := h2.lt
  have hb2 : Below w.heap.size w w2 := (hb1.alloc hb1.size _).grown hg2 (hb1.alloc hb1.size _).size fun k hk => by injection hk with hk; omega
  clear hg2
  go_wp2_with fail
  refine (partsOfV_any w.heap.size 1 x2 _ _ hx2.1 hx2.2 (by omega) h2).mono ?_
  rintro e w3 ⟨a3, c3, M3, rfl, ho3, hv3, ⟨q3, hq3, h3⟩, hg3⟩
  have hz3 := hg3.size
  have hb3 : Below w.heap.size w w3 := hb2.grown hg3 hb2.size fun k hk => by injection hk with hk; omega
  clear hg3
  go_wp2_with fail
  refine (partsOfV_any w.heap.size q3 x2 _ _ hx2.1 hx2.2 (by omega) h3).mono ?_
  rintro e w4 ⟨a4, c4, M4, rfl, ho4, hv4, ⟨q4, hq4, h4⟩, hg4⟩
  have hz4 := hg4.size
  have hb4 : Below w.heap.size w w4 := hb3.grown hg4 hb3.size fun k hk => by injection hk with hk; omega
  replace ho3 := own_kept ho3 hg4 (by omega)
  clear hg4
  go_wp2_with fail
  refine (pick_any w.heap.size q4 4 _ _ (by omega) (by omega) h4).mono ?_
  rintro e w5 ⟨x, rfl, hx0, -, h5, hg5, hz5⟩
  have hb5 : Below w.heap.size w w5 := hb4.grown hg5 hb4.size fun k hk => by injection hk with hk; omega
  replace ho3 := own_kept ho3 hg5 (by omega)
  replace ho4 := own_kept ho4 hg5 (by omega)
  clear hg5
  have hl3 := (valid_bd hv3).2.2.2
  have hl4 := (valid_bd hv4).2.2.2
  have HV3 := Lib.hid hv3
  have HV4 := Lib.hid hv4
  have HO3 := Lib.hid ho3
  have HO4 := Lib.hid ho4
  clear ho3 ho4 hv3 hv4
  by_cases hxp : 0 < x
  · have hd : decide (0 < x) = true := decide_eq_true hxp
    go_wp2_with fail
    refine (sconjugate_any _ _ _ M3 _ HO3.out.rd HO3.out.le HV3.out).mono ?_
    rintro e w6 ⟨a6, c6, rfl, ho6, hb6⟩
    have hz6 := hb6.size
    replace HO3 := Lib.hid (HO3.out.below (hb6.mono HO3.out.le))
    replace HO4 := Lib.hid (HO4.out.below (hb6.mono HO4.out.le))
    have HO6 := Lib.hid ho6
    have hbw6 := hb5.trans (hb6.mono hb5.size)
    clear ho6 hb6
    go_wp2_with fail
    refine (sconjugate_any _ _ _ M4 _ HO4.out.rd HO4.out.le HV4.out).mono ?_
    rintro e w7 ⟨a7, c7, rfl, ho7, hb7⟩
    have hz7 := hb7.size
    replace HO3 := Lib.hid (HO3.out.below (hb7.mono HO3.out.le))
    replace HO4 := Lib.hid (HO4.out.below (hb7.mono HO4.out.le))
    replace HO6 := Lib.hid (HO6.out.below (hb7.mono HO6.out.le))
    have HO7 := Lib.hid ho7
    have hbw7 := hbw6.trans (hb7.mono hbw6.size)
    clear ho7 hb7
    go_wp2_with fail
    refine (smeet_any _ _ _ _ _ _ (conj M3) (conj M4) _ HO6.out.rd HO7.out.rd HO6.out.le HO7.out.le (valid_conj HV3.out) (valid_conj HV4.out)).mono ?_
    rintro e w8 ⟨a8, c8, rfl, ho8, hb8⟩
    replace HO3 := Lib.hid (HO3.out.below (hb8.mono HO3.out.le))
    replace HO4 := Lib.hid (HO4.out.below (hb8.mono HO4.out.le))
    have HO8 := Lib.hid ho8
    have hbw8 := hbw7.trans (hb8.mono hbw7.size)
    have hvm := valid_mt (valid_conj HV3.out) (valid_conj HV4.out)
    have HVM := Lib.hid hvm
    clear ho8 hb8 hvm
    go_wp2_with fail
    refine (sconjugate_any _ _ _ (NP.mt (conj M3) (conj M4)) _ HO8.out.rd HO8.out.le HVM.out).mono ?_
    rintro e w9 ⟨a9, c9, rfl, ho9, hb9⟩
    replace HO3 := Lib.hid (HO3.out.below (hb9.mono HO3.out.le))
    replace HO4 := Lib.hid (HO4.out.below (hb9.mono HO4.out.le))
    have HO9 := Lib.hid ho9
    have hbw9 := hbw8.trans (hb9.mono hbw8.size)
    clear ho9 hb9
    go_wp2_with fail
    refine (smeet_any _ _ _ _ _ _ M3 M4 _ HO3.out.rd HO4.out.rd HO3.out.le HO4.out.le HV3.out HV4.out).mono ?_
    rintro e wx ⟨ax, cx, rfl, hox, hbx⟩
    replace HO9 := Lib.hid (HO9.out.below (hbx.mono HO9.out.le))
    have HOX := Lib.hid hox
    have hbwx := hbw9.trans (hbx.mono hbw9.size)
    clear hox
    go_wp2_with fail
    go_ret2
    exact ⟨a9, c9, _, ax, cx, _, rfl, HO9.out.more.lower hbw8.size, HOX.out.lower hbw9.size, sm_valid (valid_conj HVM.out), sm_valid (valid_mt HV3.out HV4.out), hbwx⟩
  · have hd : decide (0 < x) = false := decide_eq_false hxp
    go_wp2_with fail
    refine (bent_at w.heap.size (q4 + 1) w2.heap.size w3.heap.size _ _ M3 _ _ (by omega) h5 (sp_valid HV3.out) (by omega) HO3.out hz2 (by omega)).mono ?_
    rintro e w6 ⟨a6, c6, M6, rfl, ho6, hs6, -, hc6⟩
    have HO6 := Lib.hid ho6
    have HO4' : Hid (Own w6 w3.heap.size w4.heap.size 3 (.slice a4 M4.length c4) (ints M4)) := Lib.hid (HO4.out.keep hc6.size fun k hk => hc6.block k (by have := HO4.out.lt k hk; omega) (by have := HO4.out.base k hk; omega) (.inr (HO4.out.base k hk)))
    have hbw6 : Below w.heap.size w w6 := hb5.trans ⟨hc6.os, hc6.tape, hc6.output, hc6.size, fun k hk => hc6.block k (by omega) (by omega) (.inl (by omega))⟩
    clear ho6
    go_wp2_with fail
    go_ret2
    exact ⟨a6, c6, _, a4, c4, _, rfl, HO6.out.lower (by omega), HO4'.out.more.lower (by omega), hs6, sm_valid HV4.out, hbw6⟩
end Go.Proofs.Ytmojonpjgaidgaa
namespace Go.Proofs.Ytmojonpjgaidgaa
open Go.RowKit NP
set_option maxRecDepth 100000
set_option linter.unusedVariables false
set_option linter.unusedSimpArgs false
theorem holdsList_any (a b : Option Addr) (ca cb Ba Bb : Nat) (A : List (List Int)) (L : List Int) (w : World) (h : RdLL w Ba a A) (hm : Rd w Bb b (ints L)) (hl : A.length ≤ 1099511627776) (hil : ∀ X ∈ A, X.length ≤ 4611686018427387904) (hl2 : L.length ≤ 4611686018427387904) :
    Calls Try.prog 19 #[.slice a A.length ca, .slice b L.length cb] w fun e w' => e = .returned (.bool (decide (L ∈ A))) ∧ Dr w w' := by
  go_enter Try.func19, Try.ntmps19
  go_wp2
  go_loopw [5] (fun i wr => ∃ k : Nat, k ≤ A.length ∧ i = .int .i64 k ∧ Dr w wr ∧ Hid (∀ j (hj : j < A.length), j < k → A[j] ≠ L)) (fun i _ => A.length - (intOf i).toNat)
  case atStart => exact ⟨0, Nat.zero_le _, rfl, Dr.refl _, Lib.hid fun j hj h => absurd h (by omega)⟩
  case round =>
    obtain ⟨k, hk, rfl, hdr, HT⟩ := hrel
    by_cases hlt : k < A.length
    · have hlti : (k : Int) < (A.length : Int) := by omega
      have hkw : IntKind.i64.wrap ((k : Int) + 1) = (k : Int) + 1 := IntWalk.i64_in _ (by omega)
      obtain ⟨b1, o1, a1, c1, rfl, -, hc1, hr1, -⟩ := (h.dr hdr).at_ hlt
      have hil1 := hil A[k] (List.getElem_mem hlt)
      have HMEM : Hid (A[k] = L → L ∈ A) := Lib.hid (fun e => e ▸ List.getElem_mem hlt)
      have HNX : Hid (A[k] ≠ L → ∀ j (hj : j < A.length), j < k + 1 → A[j] ≠ L) := Lib.hid (fun h9 j hj hjk => by
        rcases Nat.lt_or_ge j k with h8 | h8
        · exact HT.out j hj h8
        · have : j = k := by omega
          subst this; exact h9)
      generalize A[k] = M at hc1 hr1 hil1 HMEM HNX
      by_cases hx : M = L
      · have HD : Hid (decide (M = L) = true) := Lib.hid (decide_eq_true hx)
        have HF := Lib.hid (HMEM.out hx)
        clear hx
        go_wp2_with fail
        refine (equalInts_any a1 b c1 cb Ba Bb M L _ hr1 (hm.dr hdr) hil1 hl2).mono ?_
        rintro e w' ⟨rfl, n, rfl⟩
        rw [HD.out]
        go_wp2_with fail
        go_ret
        exact ⟨ret_bool (by rw [decide_eq_true HF.out]), hdr.drewN n⟩
      · have HD : Hid (decide (M = L) = false) := Lib.hid (decide_eq_false hx)
        have HF := Lib.hid (HNX.out hx)
        clear hx
        go_wp2_with fail
        refine (equalInts_any a1 b c1 cb Ba Bb M L _ hr1 (hm.dr hdr) hil1 hl2).mono ?_
        rintro e w' ⟨rfl, n, rfl⟩
        rw [HD.out]
        go_wp2_with fail
        go_roundw
        case rel => exact ⟨k + 1, by omega, by go_num, hdr.drewN n, HF⟩
        case measure => simp [intOf]; omega
    · obtain rfl : k = A.length := by omega
      have hge : ¬ (A.length : Int) < (A.length : Int) := by omega
      have HF : Hid (L ∉ A) := Lib.hid (fun hmem => by
        obtain ⟨j, hj, e⟩ := List.getElem_of_mem hmem
        exact HT.out j hj hj e)
      go_wp2_with fail
      go_ret
      exact ⟨ret_bool (by rw [decide_eq_false HF.out]), hdr⟩
end Go.Proofs.Ytmojonpjgaidgaa
