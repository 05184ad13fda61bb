/-
  Walks of the model: in how many ways parts grow.
-/
import Derived.Test.YthafbdpeignccaaW139
import Derived.Test.YthafbdpeignccaaW8
import Derived.Test.YthafbdpeignccaaW6
namespace Go.Proofs.Ythafbdpeignccaa
open Go.RowKit NP
set_option maxRecDepth 8000
set_option linter.unusedVariables false
set_option linter.unusedSimpArgs false
theorem sumBy_snoc (f : Int → Int) (a : List Int) (x : Int) : sumBy f (a ++ [x]) = sumBy f a + f x := by
  induction a with
  | nil => simp [sumBy]
  | cons y r ih => simp only [List.cons_append, sumBy, ih]; omega
set_option maxHeartbeats 2000000 in
theorem sgrowths_aux : ∀ (n : Nat) (P : List Int), valid P = true → sumL P = (n : Int) → n ≤ 12 → ∀ (a : Option Addr) (c B : Nat) (w : World), Rd w B a (ints P) → B ≤ w.heap.size →
    Calls Try.prog 69 #[.slice a P.length c] w fun e w' => e = .returned (.int .i64 (gF P)) ∧ Below w.heap.size w w' := by
  intro n
  induction n with
  | zero =>
    intro P hv hs hn a c B w h hB
    have hP : P = [] := by
      have := (valid_bd hv).2.2.1
      exact List.eq_nil_of_length_eq_zero (by omega)
    subst hP
    have hg : gF [] = 1 := by decide
    rw [hg]
    clear hs h hg
    go_enter Try.func69, Try.ntmps69
    go_wp2_with fail
    go_ret
    exact ⟨rfl, Below.refl _ _⟩
  | succ n ih =>
    intro P hv hs hn a c B w h hB
    have hbd := valid_bd hv
    have hlp : 1 ≤ P.length := by
      rcases Nat.eq_zero_or_pos P.length with e | e
      · have := List.eq_nil_of_length_eq_zero e
        subst this
        simp [sumL] at hs
        omega
      · exact e
    have hfa := gF_facts hv (by omega)
    have HG : Hid (gF P = sumBy (fun k => gF (lessL P k.toNat)) (crn P)) := Lib.hid (by
      rw [hfa.1, if_neg (by intro e; subst e; simp at hlp)])
    have HV := Lib.hid hv
    have HSM := Lib.hid hs
    have hl16 := hbd.2.2.2
    have hne : ((P.length : Int) == 0) = false := beq_eq_false_iff_ne.2 (by omega)
    have hc16 : (crn P).length ≤ 16 := Nat.le_trans (fl_len (isC P) P.length) hl16
    have HN12 := Lib.hid hn
    have HIH := Lib.hid ih
    clear hbd hfa hv hs hn ih
    go_enter Try.func69, Try.ntmps69
    go_wp2_with (go_at_call 106; refine (scorners_any _ _ _ P _ h hB (by omega)).mono ?_; rintro e w1 ⟨a1, c1, rfl, ho, hb⟩)
    have HO := Lib.hid ho
    have hA1 := hb
    have hz1 := hb.size
    clear ho hb
    go_loopw [3, 5] (fun oo ii wr => ∃ (j : Nat), oo = .int .i64 (sumBy (fun k => gF (lessL P k.toNat)) ((crn P).take j)) ∧ ii = .int .i64 (j : Int) ∧ j ≤ (crn P).length ∧ Hid (0 ≤ sumBy (fun k => gF (lessL P k.toNat)) ((crn P).take j) ∧ sumBy (fun k => gF (lessL P k.toNat)) ((crn P).take j) ≤ 10000 * (j : Int)) ∧ Below w1.heap.size w1 wr) (fun _ ii _ => (crn P).length - (intOf ii).toNat)
    case atStart => exact ⟨0, rfl, rfl, Nat.zero_le _, Lib.hid ⟨by simp [sumBy], by simp [sumBy]⟩, Below.refl _ _⟩
    case round =>
      obtain ⟨j, rfl, rfl, hj, HB, hbel⟩ := hrel
      have hA := hA1.trans (hbel.mono hz1)
      have hzr := hA.size
      by_cases hjl : j < (crn P).length
      · have hjl' : (j : Int) < ((crn P).length : Int) := by omega
        obtain ⟨k, hke, hkP, hkC⟩ := crn_at hjl
        have hoj := (HO.out.below hbel).more
        obtain ⟨g, c', hvv, -, -, hcell, -⟩ := hoj.at_ (k := j) (by simpa using hjl)
        injection hvv with hvv hvn hvc
        subst hvv
        have hcx : wr.cell? ⟨g, j, none⟩ = some (.int .i64 (k : Int)) := by rw [hcell]; simp [ints, hke]
        have htk := List.take_succ_eq_append_getElem hjl
        have hvL := valid_less HV.out hkP hkC
        have hsL := less_sum HV.out hkP hkC
        have hfL := gF_facts hvL (by rw [hsL, HSM.out]; have := HN12.out; omega)
        have HSL : Hid (sumL (lessL P k) = (n : Int)) := Lib.hid (by rw [hsL, HSM.out]; omega)
        have HVL := Lib.hid hvL
        have HLE := Lib.hid (Nat.le_trans (Nat.le_succ n) HN12.out)
        have hrd := h.below (hA.mono hB)
        have hB2 : B ≤ wr.heap.size := by omega
        have HNX : Hid (sumBy (fun k => gF (lessL P k.toNat)) ((crn P).take (j + 1)) = sumBy (fun k => gF (lessL P k.toNat)) ((crn P).take j) + gF (lessL P k)) := Lib.hid (by
          rw [htk, sumBy_snoc, hke, Int.toNat_natCast])
        obtain ⟨s, hs⟩ : ∃ s, sumBy (fun k => gF (lessL P k.toNat)) ((crn P).take j) = s := ⟨_, rfl⟩
        obtain ⟨q, hq⟩ : ∃ q, gF (lessL P k) = q := ⟨_, rfl⟩
        rw [hs] at HB HNX ⊢
        rw [hq] at HNX hfL
        have HQ := Lib.hid hq
        have hb1 := HB.out
        have hq1 := hfL.2
        have HX : Hid (0 ≤ s + q ∧ s + q ≤ 10000 * ((j + 1 : Nat) : Int)) := Lib.hid ⟨by omega, by omega⟩
        have hws : IntKind.i64.wrap (s + q) = s + q := IntWalk.i64_in _ (by omega)
        clear hvn hvc hcell htk hvL hsL hfL hs hq hb1 hq1 HB
        go_wp2_with (first
          | (go_at_call 107; refine (less_any _ _ _ P k _ hrd hB2 HV.out hkP).mono ?_; rintro e w2 ⟨a2, c2, rfl, ho2, hb2⟩)
          | (go_at_call 69; refine (HIH.out (lessL P k) HVL.out HSL.out HLE.out _ _ _ _ ho2.rd (by exact Nat.le_refl _)).mono ?_; rintro e w3 ⟨rfl, hb3⟩; rw [HQ.out]))
        have hz2 := hb2.size
        have hzw := hbel.size
        go_roundw
        case rel => exact ⟨j + 1, by rw [HNX.out], by go_num, by omega, by rw [HNX.out]; exact HX, (hbel.trans (hb2.mono hzw)).trans (hb3.mono (by omega))⟩
        case measure => simp [intOf] <;> omega
      · obtain rfl : j = (crn P).length := by omega
        have HT : Hid (sumBy (fun k => gF (lessL P k.toNat)) ((crn P).take (crn P).length) = gF P) := Lib.hid (by rw [List.take_length, HG.out])
        rw [HT.out]
        clear hjl
        go_wp2_with fail
        go_ret
        exact ⟨rfl, hA⟩
set_option maxHeartbeats 1000000 in
theorem sGrowthsOf_any (a : Option Addr) (c B : Nat) (L : List Int) (w : World) (h : Rd w B a (ints L)) (hB : B ≤ w.heap.size) (hl : L.length ≤ 4611686018427387904) :
    Calls Try.prog 26 #[.slice a L.length c] w fun e w' => e = .returned (.int .i64 (gOF L)) ∧ Below w.heap.size w w' := by
  cases hv : valid L with
  | false =>
    have HE : Hid (gOF L = -1) := Lib.hid (by unfold gOF gOk; rw [hv]; rfl)
    have HV := Lib.hid hv
    clear hv
    go_enter Try.func26, Try.ntmps26
    go_wp2_with (go_at_call 48; refine (validParts_any _ _ B L _ h hl).mono ?_; rintro e w1 ⟨rfl, hd1⟩; rw [HV.out])
    go_ret
    exact ⟨ret_i64 HE.out.symm, Dr.below hd1 _⟩
  | true =>
    have HV := Lib.hid hv
    have HF := Lib.hid (valid_fits hv)
    have hl16 := (valid_bd hv).2.2.2
    have hs0 := (valid_bd hv).1
    by_cases hs : sumL L ≤ 12
    · have HE : Hid (gOF L = gF L) := Lib.hid (by unfold gOF gOk; rw [hv, decide_eq_true hs]; rfl)
      obtain ⟨n, hn⟩ := Int.eq_ofNat_of_zero_le hs0
      have hn12 : n ≤ 12 := by omega
      have HN := Lib.hid hn
      have hgt : decide (12 < sumL L) = false := decide_eq_false (by omega)
      clear hv hs hn
      go_enter Try.func26, Try.ntmps26
      go_wp2_with (first
        | (go_at_call 48; refine (validParts_any _ _ B L _ h hl).mono ?_; rintro e w1 ⟨rfl, hd1⟩; rw [HV.out])
        | (go_at_call 68; refine (sum_any _ _ B L _ (h.dr hd1) HF.out hl).mono ?_; rintro e w2 ⟨rfl, rfl⟩)
        | (go_at_call 69; refine (sgrowths_aux n L HV.out HN.out hn12 _ _ B _ (h.dr hd1) (by have := Dr.size hd1; omega)).mono ?_; rintro e w3 ⟨rfl, hb3⟩))
      go_ret
      exact ⟨ret_i64 HE.out.symm, (Dr.below hd1 _).trans (hb3.mono (by have := Dr.size hd1; omega))⟩
    · have HE : Hid (gOF L = -1) := Lib.hid (by unfold gOF gOk; rw [hv, decide_eq_false hs]; rfl)
      have hgt : decide (12 < sumL L) = true := decide_eq_true (by omega)
      clear hv hs
      go_enter Try.func26, Try.ntmps26
      go_wp2_with (first
        | (go_at_call 48; refine (validParts_any _ _ B L _ h hl).mono ?_; rintro e w1 ⟨rfl, hd1⟩; rw [HV.out])
        | (go_at_call 68; refine (sum_any _ _ B L _ (h.dr hd1) HF.out hl).mono ?_; rintro e w2 ⟨rfl, rfl⟩))
      go_ret
      exact ⟨ret_i64 HE.out.symm, Dr.below hd1 _⟩
end Go.Proofs.Ythafbdpeignccaa
