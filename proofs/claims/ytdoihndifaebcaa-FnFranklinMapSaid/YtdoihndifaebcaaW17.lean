/-
  Walks: parts out of arms and legs, of the model.
-/
import Derived.Test.YtdoihndifaebcaaW16
namespace Go.Proofs.Ytdoihndifaebcaa
open Go.RowKit NP
set_option linter.unusedVariables false

def fallsB (A : List Int) : Bool := dnB 17 A && decide (A.length ≤ 16)
theorem dn_weak {A : List Int} (h : dnB 16 A = true) : dnB 17 A = true := (dnB_iff 17 A).2 fun i hi => by
  have := (dnB_iff 16 A).1 h i hi
  exact ⟨this.1, by omega, this.2.2⟩
theorem dn_nn {m : Int} {A : List Int} (h : dnB m A = true) : ∀ x ∈ A, 0 ≤ x := fun x hx => by
  obtain ⟨k, hk, rfl⟩ := List.getElem_of_mem hx
  rw [← getD_lt hk]
  exact ((dnB_iff m A).1 h k hk).1
theorem dn_strong {A : List Int} (h : dnB 17 A = true) (hs : sumL A + (A.length : Int) ≤ 16) : dnB 16 A = true := (dnB_iff 16 A).2 fun i hi => by
  have h1 := (dnB_iff 17 A).1 h i hi
  have h2 := (elem_le_sum (dn_nn h) hi).1
  rw [← getD_lt hi] at h2
  exact ⟨h1.1, by omega, h1.2.2⟩
theorem sum_nn {A : List Int} (h : ∀ x ∈ A, 0 ≤ x) : 0 ≤ sumL A := by
  rcases Nat.eq_zero_or_pos A.length with h0 | h0
  · have : A = [] := List.eq_nil_of_length_eq_zero h0
    subst this; exact Int.le_refl _
  · exact (elem_le_sum h h0).2
theorem pofOk_falls (A B : List Int) : pofOk A B = (fallsB A && fallsB B && decide (A.length = B.length) && decide (sumL A + sumL B + (A.length : Int) ≤ 16)) := by
  cases hr : (fallsB A && fallsB B && decide (A.length = B.length) && decide (sumL A + sumL B + (A.length : Int) ≤ 16)) with
  | true =>
    unfold fallsB at hr
    simp only [Bool.and_eq_true, decide_eq_true_eq] at hr
    obtain ⟨⟨⟨⟨h1, h2⟩, h3, h4⟩, h5⟩, h6⟩ := hr
    have nA := sum_nn (dn_nn h1)
    have nB := sum_nn (dn_nn h3)
    unfold pofOk
    rw [dn_strong h1 (by omega), dn_strong h3 (by omega), decide_eq_true h5, decide_eq_true h6]
    rfl
  | false =>
    cases hk : pofOk A B with
    | false => rfl
    | true =>
      obtain ⟨h1, h2, h3, h4⟩ := pofOk_out hk
      unfold fallsB at hr
      rw [dn_weak h1, dn_weak h2, decide_eq_true (dn_len h1), decide_eq_true (dn_len h2), decide_eq_true h3, decide_eq_true h4] at hr
      cases hr
theorem falls_fits {A : List Int} (h : fallsB A = true) : sumFits A ∧ 0 ≤ sumL A ∧ sumL A ≤ 256 ∧ A.length ≤ 16 := by
  unfold fallsB at h
  simp only [Bool.and_eq_true, decide_eq_true_eq] at h
  have key : ∀ n, n ≤ A.length → 0 ≤ sumL (A.take n) ∧ sumL (A.take n) ≤ 16 * n := by
    intro n
    induction n with
    | zero => intro _; simp [sumL]
    | succ n ih =>
      intro hn
      have := ih (by omega)
      have h1 := (dnB_iff 17 A).1 h.1 n (by omega)
      rw [getD_lt (by omega)] at h1
      rw [sumL_take_succ A n (by omega)]
      omega
  have hall := key A.length (Nat.le_refl _)
  rw [List.take_of_length_le (Nat.le_refl _)] at hall
  exact ⟨fun n hn => by have := key n hn; omega, hall.1, by omega, h.2⟩


theorem pof_take_succ {A B : List Int} (j : Nat) (h : j < pofN A B) : (pof A B).take (j + 1) = (pof A B).take j ++ [pofG A B j] := by
  have h2 : j < (pof A B).length := by rw [pof_len]; exact h
  rw [List.take_succ_eq_append_getElem h2, ← getD_lt h2, pof_getD, if_pos h]

set_option maxHeartbeats 1000000 in
theorem ofFrobenius_any (a b : Option Addr) (ca cb Ba Bb : Nat) (P Q : List Int) (w : World) (h : Rd w Ba a (ints P)) (hq : Rd w Bb b (ints Q)) (hBa : Ba ≤ w.heap.size) (hBb : Bb ≤ w.heap.size) (hok : pofOk P Q = true) :
    Calls Try.prog 74 #[.slice a P.length ca, .slice b Q.length cb] w fun e w' => ∃ a' c', e = .returned (.slice a' (pof P Q).length c') ∧ Own w' w.heap.size w'.heap.size 3 (.slice a' (pof P Q).length c') (ints (pof P Q)) ∧ Below w.heap.size w w' := by
  obtain ⟨i0, hi, hz0, hz1, hz2⟩ := T_int'
  have hpre := pofOk_pre hok
  have hN := pofN_ge hpre
  have hl16 : P.length ≤ 16 := by omega
  have HEQ := Lib.hid hpre.2.2
  have HBP := Lib.hid (dn_bd hpre.1)
  have HBQ := Lib.hid (dn_bd hpre.2.1)
  have HN : Hid (pofN P Q = if P.length = 0 then 0 else (Q.getD 0 0 + 1).toNat) := Lib.hid rfl
  clear hok hpre
  obtain ⟨N, hNe⟩ : ∃ N, N = pofN P Q := ⟨_, rfl⟩
  rw [← hNe] at hN HN
  have HNE := Lib.hid hNe
  clear hNe
  go_enter Try.func74, Try.ntmps74
  go_wp2_with fail
  go_loopw [5, 7] (fun v vi wr => ∃ k : Nat, k ≤ P.length ∧ vi = .int .i64 (k : Int) ∧ Below w.heap.size w wr ∧ Own wr w.heap.size wr.heap.size 3 v (ints ((pof P Q).take k))) (fun _ vi _ => 20 - (intOf vi).toNat)
  case atStart => exact ⟨0, Nat.zero_le _, rfl, (Below.refl _ _).alloc (Nat.le_refl _) _, (Own.empty w 3).more⟩
  case round =>
    obtain ⟨k, hk, rfl, hbel, hown⟩ := hrel
    by_cases hlt : k < P.length
    · have hlt' : (k : Int) < (P.length : Int) := by omega
      obtain ⟨b1, o1, rfl, _, hc1⟩ := ((h.more hBa).below hbel).at_ hlt
      have hx := HBP.out k
      have HS : Hid ((pof P Q).take (k + 1) = (pof P Q).take k ++ [P[k] + (k : Int) + 1]) := Lib.hid (by rw [pof_take_succ k (by rw [← HNE.out]; omega), pofG, if_pos hlt, getD_lt hlt])
      rw [getD_lt hlt] at hx
      obtain ⟨vs, hvs⟩ : ∃ vs, vs = ints ((pof P Q).take k) := ⟨_, rfl⟩
      have hlv : vs.length ≤ 16 := by rw [hvs]; simp; omega
      rw [← hvs] at hown
      have HVS := Lib.hid hvs
      have HO := Lib.hid hown
      clear hvs hown
      generalize P[k] = x at *
      go_wp2_with (at_builtin; refine wpList_append_o _ rfl (.tmp 19) (.tmp 27) 22 rfl w.heap.size wr.heap.size 3 i0 (.int .i64 0) 8 Try.underlying22 hi hz0 hz1 hz2 rfl _ vs rfl (HO.out.alloc _) (wr.heap.size + 1) (some ⟨wr.heap.size, 0, none⟩) 1 1 [.int .i64 (x + (k : Int) + 1)] rfl (Rd.one _ _ _) rfl (by simp; rfl) (by unfold maxLen; omega) (by omega) (by have := hbel.size; simp; omega) ?_; intro v' w1 ho1 hg1 hat1)
      go_roundw
      case rel =>
        refine ⟨k + 1, by omega, by go_num, below_push hbel (Nat.le_refl _) hg1 HO.out.base, ?_⟩
        rw [HVS.out] at ho1
        rw [HS.out]
        simpa [ints] using ho1
      case measure => simp [intOf]; omega
    · obtain rfl : k = P.length := by omega
      have HO := Lib.hid hown
      obtain ⟨w5, rfl⟩ : ∃ w5 : World, w5 = wr := ⟨_, rfl⟩
      clear hown hlt hk
      go_wp2_with fail
      go_loopw [5, 8] (fun v vi wr => ∃ k : Nat, P.length ≤ k ∧ k ≤ N ∧ vi = .int .i64 (k : Int) ∧ Below w.heap.size w wr ∧ Own wr w.heap.size wr.heap.size 3 v (ints ((pof P Q).take k))) (fun _ vi _ => 20 - (intOf vi).toNat)
      case atStart => exact ⟨P.length, Nat.le_refl _, hN.1, rfl, hbel, HO.out⟩
      case round =>
        obtain ⟨k, hkl, hk, rfl, hbr, hown⟩ := hrel
        clear hbel
        have hR := (hq.more hBb).below hbr
        by_cases hlt : k < N
        · have hP0 : 0 < P.length := by
            rcases Nat.eq_zero_or_pos P.length with h0 | h0
            · have e := HN.out
              rw [if_pos h0] at e
              omega
            · exact h0
          have hQ0 : 0 < Q.length := by have := HEQ.out; omega
          have hQ0' : (0 : Int) < (Q.length : Int) := by omega
          obtain ⟨b2, o2, rfl, hb2, hc2⟩ := hR.at_ hQ0
          have hq0 : (k : Int) ≤ Q[0] := by
            have e := HN.out
            rw [if_neg (by omega), getD_lt hQ0] at e
            have := HBQ.out 0
            rw [getD_lt hQ0] at this
            omega
          have d0 : decide (0 < Q.length) = true := decide_eq_true hQ0
          have d1 : decide ((k : Int) ≤ Q[0]) = true := decide_eq_true hq0
          have hc2' : wr.cell? ⟨b2, o2, none⟩ = some (.int .i64 Q[0]) := hc2
          have HS : Hid ((pof P Q).take (k + 1) = (pof P Q).take k ++ [((nb (fun i => decide ((k : Int) ≤ Q.getD i 0 + i)) P.length : Nat) : Int)]) := Lib.hid (by rw [pof_take_succ k (by rw [← HNE.out]; omega), pofG, if_neg (by omega), leg, HEQ.out])
          obtain ⟨vs, hvs⟩ : ∃ vs, vs = ints ((pof P Q).take k) := ⟨_, rfl⟩
          have hlv : vs.length ≤ 16 := by rw [hvs]; simp; omega
          rw [← hvs] at hown
          have HVS := Lib.hid hvs
          have HO := Lib.hid hown
          obtain ⟨wx, rfl⟩ : ∃ wx : World, wx = wr := ⟨_, rfl⟩
          clear hvs hown
          go_wp2_with fail
          go_loopw [9, 10] (fun vn vi wr => ∃ i : Nat, i ≤ P.length ∧ vi = .int .i64 (i : Int) ∧ vn = .int .i64 ((nb (fun i => decide ((k : Int) ≤ Q.getD i 0 + i)) i : Nat) : Int) ∧ wr = wx) (fun _ vi _ => 20 - (intOf vi).toNat)
          case atStart => exact ⟨0, Nat.zero_le _, rfl, rfl, rfl⟩
          case round =>
            obtain ⟨i, hi2, rfl, rfl, rfl⟩ := hrel
            have hnb := nb_le (fun i => decide ((k : Int) ≤ Q.getD i 0 + i)) i
            by_cases hlti : i < P.length
            · have hltq : i < Q.length := by have := HEQ.out; omega
              have hlti' : (i : Int) < (P.length : Int) := by omega
              have hltq' : (i : Int) < (Q.length : Int) := by omega
              obtain ⟨b3, o3, e', -, hc3⟩ := hR.at_ hltq
              injection e' with e'; injection e' with e1 e2; subst e1 e2
              have hy := HBQ.out i
              have HNB : Hid (nb (fun i => decide ((k : Int) ≤ Q.getD i 0 + i)) (i + 1) = nb (fun i => decide ((k : Int) ≤ Q.getD i 0 + i)) i + if decide ((k : Int) ≤ Q.getD i 0 + i) = true then 1 else 0) := Lib.hid rfl
              rw [getD_lt hltq] at hy
              have HGQ : Hid (Q.getD i 0 = Q[i]) := Lib.hid (getD_lt hltq)
              generalize nb (fun i => decide ((k : Int) ≤ Q.getD i 0 + i)) i = n at *
              generalize Q[i] = y at *
              by_cases hle : (k : Int) ≤ y + (i : Int)
              · have d2 : decide ((k : Int) ≤ y + (i : Int)) = true := decide_eq_true hle
                have HNB2 := Lib.hid (show nb (fun i => decide ((k : Int) ≤ Q.getD i 0 + i)) (i + 1) = n + 1 by rw [HNB.out, HGQ.out, if_pos d2])
                clear hle
                go_wp2_with fail
                go_roundw
                case rel => exact ⟨i + 1, by omega, by go_num, by rw [HNB2.out]; go_num, trivial⟩
                case measure => simp [intOf]; omega
              · have d2 : decide ((k : Int) ≤ y + (i : Int)) = false := decide_eq_false hle
                have HNB2 := Lib.hid (show nb (fun i => decide ((k : Int) ≤ Q.getD i 0 + i)) (i + 1) = n by rw [HNB.out, HGQ.out, if_neg (by rw [d2]; decide)]; rfl)
                clear hle
                go_wp2_with fail
                go_roundw
                case rel => exact ⟨i + 1, by omega, by go_num, by rw [HNB2.out], trivial⟩
                case measure => simp [intOf]; omega
            · obtain rfl : i = P.length := by omega
              generalize nb (fun i => decide ((k : Int) ≤ Q.getD i 0 + i)) P.length = n at *
              clear hc2 hc2' d0 d1 hR
              go_wp2_with (at_builtin; refine wpList_append_o _ rfl (.tmp 57) (.tmp 59) 22 rfl w.heap.size _ 3 i0 (.int .i64 0) 8 Try.underlying22 hi hz0 hz1 hz2 rfl _ vs rfl (HO.out.alloc _) (_ + 1) (some ⟨_, 0, none⟩) 1 1 [.int .i64 (n : Int)] rfl (Rd.one _ _ _) rfl (by simp; rfl) (by unfold maxLen; omega) (by omega) (by have := hbr.size; simp; omega) ?_; intro v' w1 ho1 hg1 hat1)
              go_roundw
              case rel =>
                refine ⟨k + 1, by omega, by omega, by go_num, below_push hbr (Nat.le_refl _) hg1 HO.out.base, ?_⟩
                rw [HVS.out] at ho1
                rw [HS.out]
                simpa [ints] using ho1
              case measure => simp [intOf]; omega
        · obtain rfl : k = N := by omega
          rw [List.take_of_length_le (by rw [pof_len, ← HNE.out]; exact Nat.le_refl _)] at hown
          obtain ⟨a', c', rfl⟩ := hown.form
          have hq1 : (ints (pof P Q)).length = (pof P Q).length := by simp
          rw [hq1] at hown ⊢
          have HO2 := Lib.hid hown
          clear hown hq1 hlt
          rcases Nat.eq_zero_or_pos Q.length with h0 | h0
          · have d0 : decide (0 < Q.length) = false := decide_eq_false (by omega)
            have d0' : (Q.length : Int) ≤ 0 := by omega
            clear h0
            go_wp2_with fail
            go_ret
            exact ⟨a', c', rfl, HO2.out, hbr⟩
          · obtain ⟨b2, o2, rfl, hb2, hc2⟩ := hR.at_ h0
            have hc2' : wr.cell? ⟨b2, o2, none⟩ = some (.int .i64 Q[0]) := hc2
            have hq0 : Q[0] < (k : Int) := by
              have e := HN.out
              have := HEQ.out
              rw [if_neg (by omega), getD_lt h0] at e
              omega
            have d0 : decide (0 < Q.length) = true := decide_eq_true h0
            have h0' : (0 : Int) < (Q.length : Int) := by omega
            have d1 : decide ((k : Int) ≤ Q[0]) = false := decide_eq_false (by omega)
            go_wp2_with fail
            go_ret
            exact ⟨a', c', rfl, HO2.out, hbr⟩

end Go.Proofs.Ytdoihndifaebcaa
