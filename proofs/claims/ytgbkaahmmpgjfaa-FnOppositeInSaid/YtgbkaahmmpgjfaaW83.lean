/-
  Walks: opposites in a box, by the model.
-/
import Derived.Test.YtgbkaahmmpgjfaaW82
import Derived.Test.YtgbkaahmmpgjfaaW81
namespace Go.Proofs.Ytgbkaahmmpgjfaa
open Go.RowKit NP
set_option linter.unusedVariables false
set_option linter.unusedSimpArgs false
set_option maxHeartbeats 1000000 in
theorem sopposite_any (p : Option Addr) (c B : Nat) (L : List Int) (a : Nat) (b : Int) (w : World) (h : Rd w B p (ints L)) (hB : B ≤ w.heap.size) (hv : valid L = true) (ha : a ≤ 4) (hb0 : 0 ≤ b) (hb4 : b ≤ 4) :
    Calls Try.prog 52 #[.slice p L.length c, .int .i64 a, .int .i64 b] w fun e w' => ∃ a' c', e = .returned (.slice a' (oppL L a b).length c') ∧ Own w' w.heap.size w'.heap.size 3 (.slice a' (oppL L a b).length c') (ints (oppL L a b)) ∧ Below w.heap.size w w' := by
  obtain ⟨i0, hi, hz0, hz1, hz2⟩ := T_int'
  have hl16 := (valid_bd hv).2.2.2
  have HGB := Lib.hid (fun m => getD_bdB hv m)
  have HNX := Lib.hid (fun k => opk_next L a b k)
  have HLN := Lib.hid (fun k => opk_len L a b k)
  have e0 : IntKind.i64.wrap ((a : Int) - 1) = (a : Int) - 1 := IntWalk.i64_in _ (by omega)
  clear hv
  go_enter Try.func52, Try.ntmps52
  go_wp2
  go_loopw [7, 8] (fun v vi wr => ∃ k : Nat, k ≤ a ∧ vi = .int .i64 ((a : Int) - 1 - k) ∧ Below w.heap.size w wr ∧ ∃ out, Hid (out = opk L a b k) ∧ Own wr w.heap.size wr.heap.size 3 v (ints out)) (fun _ vi _ => (intOf vi + 1).toNat)
  case atStart => exact ⟨0, Nat.zero_le _, by rw [show ((a : Int) - 1 - (0 : Nat)) = (a : Int) - 1 by omega], (Below.refl _ _).alloc (Nat.le_refl _) _, [], Lib.hid rfl, (Own.empty w 3).more⟩
  case round =>
    obtain ⟨k, hk, rfl, hbel, out, HO, ho⟩ := hrel
    have hbs := hbel.size
    obtain ⟨vs, hvs⟩ : ∃ vs, vs = ints out := ⟨_, rfl⟩
    have hvl : vs.length ≤ k := by rw [hvs, List.length_map, HO.out]; exact HLN.out k
    have HVS := Lib.hid hvs
    rw [← hvs] at ho
    have HOW := Lib.hid ho
    clear ho hvs
    by_cases hlt : k < a
    · obtain ⟨i, hi'⟩ : ∃ i : Nat, i = a - 1 - k := ⟨_, rfl⟩
      have ei : ((a : Int) - 1 - (k : Int)) = (i : Int) := by omega
      obtain ⟨x, hx⟩ : ∃ x, x = opx L a b k := ⟨_, rfl⟩
      have HN := Lib.hid (HNX.out k)
      rw [← hx] at HN
      have hg := HGB.out i
      have hxe : x = b - L.getD i 0 := by rw [hx, hi']; rfl
      have hxb : -16 ≤ x ∧ x ≤ 4 := by omega
      have HI' := Lib.hid hi'
      have ew : IntKind.i64.wrap ((i : Int) - 1) = (i : Int) - 1 := IntWalk.i64_in _ (by omega)
      have er : (i : Int) - 1 = (a : Int) - 1 - ((k + 1 : Nat) : Int) := by omega
      have HRR := Lib.hid er
      have hk' : k + 1 ≤ a := by omega
      clear er hi'
      rw [ei]
      have hR := (h.more hB).below hbel
      by_cases hil : i < L.length
      · obtain ⟨g, o, rfl, hgB, hc⟩ := hR.at_ hil
        have hdl : decide ((i : Int) < (L.length : Int)) = true := decide_eq_true (by omega)
        have hdl' : decide (i < L.length) = true := decide_eq_true hil
        have hxe' : IntKind.i64.wrap (b - L[i]) = x := by rw [IntWalk.i64_in _ (by rw [← getD_lt hil]; omega), hxe, getD_lt hil]
        obtain ⟨y, hy⟩ : ∃ y, y = L[i] := ⟨_, rfl⟩
        rw [← hy] at hc hxe'
        clear hy hR
        by_cases hx0 : 0 < x
        · have hd0 : decide (0 < x) = true := decide_eq_true hx0
          rw [if_pos hx0] at HN
          clear hx hxe hg hx0
          go_wp2_with (at_builtin; (refine wpList_append_o _ rfl (.tmp 30) (.tmp 32) 22 rfl w.heap.size wr.heap.size 3 i0 (.int .i64 0) 8 Try.underlying22 hi hz0 hz1 hz2 rfl _ vs rfl (HOW.out.alloc _) (wr.heap.size + 1) (some ⟨wr.heap.size, 0, none⟩) 1 1 [.int .i64 x] rfl (Rd.one _ _ _) rfl (by simp; rfl) (by unfold maxLen; omega) (by omega) (by simp; omega) ?_); intro v' w2 ho1 hg1 hat1)
          go_roundw
          case rel =>
            refine ⟨k + 1, by omega, by rw [← HRR.out], below_push hbel (Nat.le_refl _) hg1 HOW.out.base, out ++ [x], Lib.hid (by rw [HO.out, HN.out]), ?_⟩
            rw [HVS.out] at ho1
            simpa [ints] using ho1
          case measure => simp [intOf] <;> omega
        · have hd0 : decide (0 < x) = false := decide_eq_false hx0
          rw [if_neg hx0, List.append_nil] at HN
          clear hx hxe hg hx0
          go_wp2_with fail
          go_roundw
          case rel => exact ⟨k + 1, by omega, by rw [← HRR.out], hbel, out, Lib.hid (by rw [HO.out, HN.out]), by rw [← HVS.out]; exact HOW.out⟩
          case measure => simp [intOf] <;> omega
      · have hdl : decide ((i : Int) < (L.length : Int)) = false := decide_eq_false (by omega)
        have hdl' : decide (i < L.length) = false := decide_eq_false hil
        have hxe' : b = x := by rw [hxe, List.getD_eq_getElem?_getD, List.getElem?_eq_none (by omega), Option.getD_none]; omega
        subst hxe'
        by_cases hx0 : 0 < b
        · have hd0 : decide (0 < b) = true := decide_eq_true hx0
          rw [if_pos hx0] at HN
          clear hx hxe hg hx0
          go_wp2_with (at_builtin; (refine wpList_append_o _ rfl (.tmp 30) (.tmp 32) 22 rfl w.heap.size wr.heap.size 3 i0 (.int .i64 0) 8 Try.underlying22 hi hz0 hz1 hz2 rfl _ vs rfl (HOW.out.alloc _) (wr.heap.size + 1) (some ⟨wr.heap.size, 0, none⟩) 1 1 [.int .i64 b] rfl (Rd.one _ _ _) rfl (by simp; rfl) (by unfold maxLen; omega) (by omega) (by simp; omega) ?_); intro v' w2 ho1 hg1 hat1)
          go_roundw
          case rel =>
            refine ⟨k + 1, by omega, by rw [← HRR.out], below_push hbel (Nat.le_refl _) hg1 HOW.out.base, out ++ [b], Lib.hid (by rw [HO.out, HN.out]), ?_⟩
            rw [HVS.out] at ho1
            simpa [ints] using ho1
          case measure => simp [intOf] <;> omega
        · have hd0 : decide (0 < b) = false := decide_eq_false hx0
          rw [if_neg hx0, List.append_nil] at HN
          clear hx hxe hg hx0
          go_wp2_with fail
          go_roundw
          case rel => exact ⟨k + 1, by omega, by rw [← HRR.out], hbel, out, Lib.hid (by rw [HO.out, HN.out]), by rw [← HVS.out]; exact HOW.out⟩
          case measure => simp [intOf] <;> omega
    · obtain rfl : k = a := by omega
      have en : decide ((0 : Int) ≤ (k : Int) - 1 - (k : Int)) = false := decide_eq_false (by omega)
      obtain ⟨a', c', rfl⟩ := HOW.out.form
      go_wp2_with fail
      go_ret
      have e : vs = ints (oppL L k b) := by rw [HVS.out, HO.out]; rfl
      have el : vs.length = (oppL L k b).length := by rw [e]; simp
      refine ⟨a', c', by rw [← el]; rfl, ?_, hbel⟩
      have := HOW.out
      rw [e] at this
      simpa using this
set_option maxHeartbeats 1000000 in
theorem sOppositeIn_any (p : Option Addr) (c B : Nat) (L : List Int) (a b : Int) (w : World) (h : Rd w B p (ints L)) (hB : B ≤ w.heap.size) (hl : L.length ≤ 4611686018427387904) :
    Calls Try.prog 21 #[.slice p L.length c, .int .i64 a, .int .i64 b] w fun e w' => ∃ a' c', e = .returned (.tuple #[.slice a' (opbF L a b).length c', .bool (inbF L a b)]) ∧ Own w' w.heap.size w'.heap.size 3 (.slice a' (opbF L a b).length c') (ints (opbF L a b)) ∧ Below w.heap.size w w' := by
  obtain ⟨v, hv⟩ : ∃ v, v = valid L := ⟨_, rfl⟩
  have HV := Lib.hid hv
  obtain ⟨q, hq⟩ : ∃ q, q = limB a b := ⟨_, rfl⟩
  have HQ := Lib.hid hq
  obtain ⟨r, hr⟩ : ∃ r, r = decide ((L.length : Int) ≤ a ∧ (L.length = 0 ∨ L.headD 0 ≤ b)) := ⟨_, rfl⟩
  have HB := Lib.hid hr
  have HR : Hid (inbF L a b = (v && (q && r))) := Lib.hid (by
    unfold inbF
    rw [← hv, ← hq, hr]
    cases v with
    | false => rfl
    | true =>
      cases q with
      | false => rfl
      | true =>
        simp only [Bool.true_and]
        congr 1
        cases L with
        | nil =>
          have := of_decide_eq_true hq.symm
          simp
          omega
        | cons x L => simp)
  by_cases hall : v = true ∧ q = true ∧ r = true
  · obtain ⟨rfl, rfl, rfl⟩ := hall
    have hI : inbF L a b = true := by rw [HR.out]; rfl
    obtain ⟨hvl, ha0, ha4, hb0, hb4⟩ := inb_lim hI
    obtain ⟨na, rfl⟩ := Int.eq_ofNat_of_zero_le ha0
    have HO := Lib.hid (opbF_yes hI)
    have HVL := Lib.hid hvl
    have hna : na ≤ 4 := by omega
    rw [HO.out, hI]
    clear hI hv hq hr hvl
    go_enter Try.func21, Try.ntmps21
    go_wp2_with (first
      | (go_at_call 40; refine (validParts_any _ _ B L _ h hl).mono ?_; rintro e w1 ⟨rfl, n, rfl⟩; rw [← HV.out])
      | (go_at_call 41; refine (validBox_any _ b _).mono ?_; rintro e w2 ⟨rfl, rfl⟩; rw [← HQ.out])
      | (go_at_call 42; refine (inBox_any _ _ B L _ b _ _ HB (h.dr (Dr.n _ _)) hl).mono ?_; rintro e w3 ⟨rfl, rfl⟩)
      | (go_at_call 52; refine (sopposite_any _ _ B L na b _ (h.dr (Dr.n _ _)) (by exact hB) HVL.out hna hb0 hb4).mono ?_; rintro e w4 ⟨a', c', rfl, ho, hb4'⟩))
    go_ret2
    exact ⟨a', c', rfl, ho, ((Dr.n w n).below _).trans hb4'⟩
  · have hI : inbF L a b = false := by
      rw [HR.out]
      cases v <;> cases q <;> cases r <;> first | rfl | exact absurd ⟨rfl, rfl, rfl⟩ hall
    have HO := Lib.hid (opbF_no hI)
    rw [HO.out, hI]
    clear hI hv hq hr
    cases v <;> cases q <;> cases r
    all_goals first
      | exact absurd ⟨rfl, rfl, rfl⟩ hall
      | (clear hall
         go_enter Try.func21, Try.ntmps21
         go_wp2_with (first
          | (go_at_call 40; refine (validParts_any _ _ B L _ h hl).mono ?_; rintro e w1 ⟨rfl, n, rfl⟩; rw [← HV.out])
          | (go_at_call 41; refine (validBox_any _ b _).mono ?_; rintro e w2 ⟨rfl, rfl⟩; rw [← HQ.out])
          | (go_at_call 42; refine (inBox_any _ _ B L _ b _ _ HB (h.dr (Dr.n _ _)) hl).mono ?_; rintro e w3 ⟨rfl, rfl⟩))
         go_ret2
         exact ⟨none, 0, rfl, Own.nil _ _ _, (Dr.n _ _).below _⟩)
end Go.Proofs.Ytgbkaahmmpgjfaa
