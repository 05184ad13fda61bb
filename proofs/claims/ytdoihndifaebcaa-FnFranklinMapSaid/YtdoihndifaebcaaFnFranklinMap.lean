/-
  'laws.FnFranklinMap' returns true for every code, and the code reads as it did. No condition.
-/
import Derived.Test.YtdoihndifaebcaaRows
import Derived.Test.YtdoihndifaebcaaW38
import Derived.Test.YtdoihndifaebcaaW41
import Derived.Test.YtdoihndifaebcaaW42
import Derived.Test.YtdoihndifaebcaaL1
import Derived.Test.YtdoihndifaebcaaC6
import Derived.Test.YtdoihndifaebcaaD11
import Derived.WalkKit
import Derived.ProofKit
import Derived.OpenShut
import Derived.ShutString
import Derived.ChangeOld
import Derived.Below
namespace Go.Proofs.Ytdoihndifaebcaa.fnFranklinMap
open Go.ChangeShapes Go.WideShapes Go.ChangeAt Go.RowKit NP
open Go.ChangeMaps (open_string shut_string)
set_option linter.unusedVariables false

theorem fr_no {L : List Int} (h : dis L = true) (h0 : L.length ≠ 0) (hk : frOk L = false) : pnF (L.length : Int) = sumL L ∨ pnF (-(L.length : Int)) = sumL L := by
  obtain ⟨hv, hd⟩ := (dis_iff L).1 h
  have hT : all16.all (fun N => let L := N.map Int.ofNat; decide (L.length = 0) || !kFall 1 1 L || mayS L || decide (pnF (L.length : Int) = sumL L) || decide (pnF (-(L.length : Int)) = sumL L)) = true := by decide +kernel
  have hm : mayS L = false := by unfold frOk at hk; rw [hv, hd] at hk; simpa using hk
  obtain ⟨N, hN, rfl⟩ := of_all hT hv
  simp only [Bool.or_eq_true, decide_eq_true_eq, hd, hm, h0, Bool.not_true, Bool.false_eq_true, false_or] at hN
  exact hN

set_option maxHeartbeats 1600000 in
theorem walk (a : Option Addr) (c : Nat) (bs : List Int) (w0 : World) (h : Rd w0 w0.heap.size a (bs.map (Value.int .u8))) (hb : ∀ n ∈ bs, (Lit.int .u8 n).wf = true) (m : bs.length ≤ maxLen) (hc : bs.length ≤ c) :
    Calls Try.prog 8 #[.slice a bs.length c] w0 fun e w' => e = .returned (.bool true) ∧ Below w0.heap.size w0 w' := by
  unfold maxLen at m
  by_cases hl : bs.length ≤ 1048576
  · go_enter Try.func8, Try.ntmps8
    go_wp2_with fail
    refine (DrawFranklinMap_any a c _ bs _ h (Nat.le_refl _) hb hl hc).mono ?_
    rintro e w1 ⟨a1, c1, P, rfl, p, hs1, hA⟩
    have hP := hs1.1
    clear h hb hl hc m hs1
    cases ht : frOk P with
    | true =>
      obtain ⟨hokX, hbX, hsX, hlX, -, -, hl5, -⟩ := fr_facts ht
      have hvX := ((frOk_iff _).1 hokX).1
      have hvP := ((frOk_iff _).1 ht).1
      have HT := Lib.hid ht
      have HX : Hid (frF P = fr P) := Lib.hid (frF_yes ht)
      have h0 : P.length ≠ 0 := by
        intro e
        have := ((frOk_iff _).1 ht).2.2
        unfold mayS at this
        rw [decide_eq_false (show ¬ 0 < P.length by omega)] at this
        simp at this
      obtain ⟨X, hXX⟩ : ∃ X, X = fr P := ⟨_, rfl⟩
      rw [← hXX] at hokX hbX hsX hlX hvX HX
      have HB : Hid (frF X = P) := Lib.hid (by rw [frF_yes hokX, hbX])
      have HOX := Lib.hid hokX
      have HKP : Hid (kindF [100, 105, 115, 116, 105, 110, 99, 116] P = true) := Lib.hid (by rw [kindF_some kindOf_distinct, hvP, ((frOk_iff _).1 ht).2.1]; rfl)
      have HKX : Hid (kindF [100, 105, 115, 116, 105, 110, 99, 116] X = true) := Lib.hid (by rw [kindF_some kindOf_distinct, hvX, ((frOk_iff _).1 hokX).2.1]; rfl)
      have hX16 := (valid_bd hvX).2.2.2
      have hb1 := (valid_bd hvP).1
      have hb2 := (valid_bd hvP).2.1
      have HFX := Lib.hid (valid_fits hvX)
      have HFP := Lib.hid (valid_fits hvP)
      have HSU : Hid (sumL X = sumL P) := Lib.hid hsX
      have hq0 : ((P.length : Int) == 0) = false := beq_eq_false_iff_ne.2 (by omega)
      clear ht hvX hvP hokX hbX hXX hsX h0
      rcases hlX with hl | hl
      · have hd1 : ((X.length : Int) - (P.length : Int) == 1) = true := beq_iff_eq.2 (by omega)
        have hd2 : ((X.length : Int) - (P.length : Int) == -1) = false := beq_eq_false_iff_ne.2 (by omega)
        clear hl
        go_wp2_with fail
        refine (iFranklinMap_any _ _ _ P _ p.rd (by omega) (by omega)).mono ?_
        rintro e w2 ⟨a_ot, c_ot, rfl, ot, hb⟩
        replace p := p.below (hb.mono p.le)
        replace hA := hA.trans (hb.mono hA.size)
        have hz2 := hb.size
        clear hb
        rw [HX.out] at ot ⊢
        rw [HT.out]
        go_wp2_with fail
        refine (sFranklinMap_any _ _ _ P _ p.rd (by omega) (by omega) p.capB).mono ?_
        rintro e w3 ⟨a_sp, c_sp, rfl, sp, hb⟩
        replace p := p.below (hb.mono p.le)
        replace ot := ot.below (hb.mono ot.le)
        replace hA := hA.trans (hb.mono hA.size)
        have hz3 := hb.size
        clear hb
        rw [HX.out] at sp ⊢
        rw [HT.out]
        go_wp2_with fail
        refine (equalInts_same _ _ _ _ _ _ _ _ ot.rd sp.rd (by omega)).mono ?_
        rintro e w4 ⟨rfl, hd⟩
        have hb : Below w3.heap.size w3 w4 := Dr.below hd _
        clear hd
        replace p := p.below (hb.mono p.le)
        replace ot := ot.below (hb.mono ot.le)
        replace sp := sp.below (hb.mono sp.le)
        replace hA := hA.trans (hb.mono hA.size)
        have hz4 := hb.size
        clear hb
        go_wp2_with fail
        refine (iIsKind_any (⟨#[100, 105, 115, 116, 105, 110, 99, 116]⟩ : ByteArray) (by decide) _ _ _ P _ p.rd (by omega) (by omega)).mono ?_
        rintro e w5 ⟨rfl, hb⟩
        replace p := p.below (hb.mono p.le)
        replace ot := ot.below (hb.mono ot.le)
        replace sp := sp.below (hb.mono sp.le)
        replace hA := hA.trans (hb.mono hA.size)
        have hz5 := hb.size
        clear hb
        rw [show kindF (⟨#[100, 105, 115, 116, 105, 110, 99, 116]⟩ : ByteArray).data.toList P = true from HKP.out]
        go_wp2_with fail
        refine (iFranklinMap_any _ _ _ X _ ot.rd (by omega) (by omega)).mono ?_
        rintro e w6 ⟨a_bk, c_bk, rfl, bk, hb⟩
        replace p := p.below (hb.mono p.le)
        replace ot := ot.below (hb.mono ot.le)
        replace sp := sp.below (hb.mono sp.le)
        replace hA := hA.trans (hb.mono hA.size)
        have hz6 := hb.size
        clear hb
        rw [HB.out] at bk ⊢
        rw [HOX.out]
        go_wp2_with fail
        refine (equalInts_same _ _ _ _ _ _ _ _ bk.rd p.rd (by omega)).mono ?_
        rintro e w7 ⟨rfl, hd⟩
        have hb : Below w6.heap.size w6 w7 := Dr.below hd _
        clear hd
        replace p := p.below (hb.mono p.le)
        replace ot := ot.below (hb.mono ot.le)
        replace sp := sp.below (hb.mono sp.le)
        replace bk := bk.below (hb.mono bk.le)
        replace hA := hA.trans (hb.mono hA.size)
        have hz7 := hb.size
        clear hb
        go_wp2_with fail
        refine (total_any _ _ _ X _ ot.rd HFX.out (by omega)).mono ?_
        rintro e w' ⟨rfl, rfl⟩
        rw [HSU.out]
        go_wp2_with fail
        refine (total_any _ _ _ P _ p.rd HFP.out (by omega)).mono ?_
        rintro e w' ⟨rfl, rfl⟩
        go_wp2_with fail
        refine (iIsKind_any (⟨#[100, 105, 115, 116, 105, 110, 99, 116]⟩ : ByteArray) (by decide) _ _ _ X _ ot.rd (by omega) (by omega)).mono ?_
        rintro e w8 ⟨rfl, hb⟩
        replace p := p.below (hb.mono p.le)
        replace ot := ot.below (hb.mono ot.le)
        replace sp := sp.below (hb.mono sp.le)
        replace bk := bk.below (hb.mono bk.le)
        replace hA := hA.trans (hb.mono hA.size)
        have hz8 := hb.size
        clear hb
        rw [show kindF (⟨#[100, 105, 115, 116, 105, 110, 99, 116]⟩ : ByteArray).data.toList X = true from HKX.out]
        go_wp2_with fail
        go_ret
        exact ⟨rfl, hA⟩
      · have hd1 : ((X.length : Int) - (P.length : Int) == 1) = false := beq_eq_false_iff_ne.2 (by omega)
        have hd2 : ((X.length : Int) - (P.length : Int) == -1) = true := beq_iff_eq.2 (by omega)
        clear hl
        go_wp2_with fail
        refine (iFranklinMap_any _ _ _ P _ p.rd (by omega) (by omega)).mono ?_
        rintro e w2 ⟨a_ot, c_ot, rfl, ot, hb⟩
        replace p := p.below (hb.mono p.le)
        replace hA := hA.trans (hb.mono hA.size)
        have hz2 := hb.size
        clear hb
        rw [HX.out] at ot ⊢
        rw [HT.out]
        go_wp2_with fail
        refine (sFranklinMap_any _ _ _ P _ p.rd (by omega) (by omega) p.capB).mono ?_
        rintro e w3 ⟨a_sp, c_sp, rfl, sp, hb⟩
        replace p := p.below (hb.mono p.le)
        replace ot := ot.below (hb.mono ot.le)
        replace hA := hA.trans (hb.mono hA.size)
        have hz3 := hb.size
        clear hb
        rw [HX.out] at sp ⊢
        rw [HT.out]
        go_wp2_with fail
        refine (equalInts_same _ _ _ _ _ _ _ _ ot.rd sp.rd (by omega)).mono ?_
        rintro e w4 ⟨rfl, hd⟩
        have hb : Below w3.heap.size w3 w4 := Dr.below hd _
        clear hd
        replace p := p.below (hb.mono p.le)
        replace ot := ot.below (hb.mono ot.le)
        replace sp := sp.below (hb.mono sp.le)
        replace hA := hA.trans (hb.mono hA.size)
        have hz4 := hb.size
        clear hb
        go_wp2_with fail
        refine (iIsKind_any (⟨#[100, 105, 115, 116, 105, 110, 99, 116]⟩ : ByteArray) (by decide) _ _ _ P _ p.rd (by omega) (by omega)).mono ?_
        rintro e w5 ⟨rfl, hb⟩
        replace p := p.below (hb.mono p.le)
        replace ot := ot.below (hb.mono ot.le)
        replace sp := sp.below (hb.mono sp.le)
        replace hA := hA.trans (hb.mono hA.size)
        have hz5 := hb.size
        clear hb
        rw [show kindF (⟨#[100, 105, 115, 116, 105, 110, 99, 116]⟩ : ByteArray).data.toList P = true from HKP.out]
        go_wp2_with fail
        refine (iFranklinMap_any _ _ _ X _ ot.rd (by omega) (by omega)).mono ?_
        rintro e w6 ⟨a_bk, c_bk, rfl, bk, hb⟩
        replace p := p.below (hb.mono p.le)
        replace ot := ot.below (hb.mono ot.le)
        replace sp := sp.below (hb.mono sp.le)
        replace hA := hA.trans (hb.mono hA.size)
        have hz6 := hb.size
        clear hb
        rw [HB.out] at bk ⊢
        rw [HOX.out]
        go_wp2_with fail
        refine (equalInts_same _ _ _ _ _ _ _ _ bk.rd p.rd (by omega)).mono ?_
        rintro e w7 ⟨rfl, hd⟩
        have hb : Below w6.heap.size w6 w7 := Dr.below hd _
        clear hd
        replace p := p.below (hb.mono p.le)
        replace ot := ot.below (hb.mono ot.le)
        replace sp := sp.below (hb.mono sp.le)
        replace bk := bk.below (hb.mono bk.le)
        replace hA := hA.trans (hb.mono hA.size)
        have hz7 := hb.size
        clear hb
        go_wp2_with fail
        refine (total_any _ _ _ X _ ot.rd HFX.out (by omega)).mono ?_
        rintro e w' ⟨rfl, rfl⟩
        rw [HSU.out]
        go_wp2_with fail
        refine (total_any _ _ _ P _ p.rd HFP.out (by omega)).mono ?_
        rintro e w' ⟨rfl, rfl⟩
        go_wp2_with fail
        refine (iIsKind_any (⟨#[100, 105, 115, 116, 105, 110, 99, 116]⟩ : ByteArray) (by decide) _ _ _ X _ ot.rd (by omega) (by omega)).mono ?_
        rintro e w8 ⟨rfl, hb⟩
        replace p := p.below (hb.mono p.le)
        replace ot := ot.below (hb.mono ot.le)
        replace sp := sp.below (hb.mono sp.le)
        replace bk := bk.below (hb.mono bk.le)
        replace hA := hA.trans (hb.mono hA.size)
        have hz8 := hb.size
        clear hb
        rw [show kindF (⟨#[100, 105, 115, 116, 105, 110, 99, 116]⟩ : ByteArray).data.toList X = true from HKX.out]
        go_wp2_with fail
        go_ret
        exact ⟨rfl, hA⟩
    | false =>
      have HT := Lib.hid ht
      have HX : Hid (frF P = []) := Lib.hid (frF_no ht)
      have hnl : ([] : List Int).length ≤ 4611686018427387904 := by simp
      cases hd : dis P with
      | false =>
        have HK : Hid (kindF [100, 105, 115, 116, 105, 110, 99, 116] P = false) := Lib.hid (by rw [kindF_some kindOf_distinct]; exact hd)
        clear ht hd
        go_wp2_with fail
        refine (iFranklinMap_any _ _ _ P _ p.rd (by omega) (by omega)).mono ?_
        rintro e w2 ⟨a_ot, c_ot, rfl, ot, hb⟩
        replace p := p.below (hb.mono p.le)
        replace hA := hA.trans (hb.mono hA.size)
        have hz2 := hb.size
        clear hb
        rw [HX.out] at ot ⊢
        rw [HT.out]
        go_wp2_with fail
        refine (sFranklinMap_any _ _ _ P _ p.rd (by omega) (by omega) p.capB).mono ?_
        rintro e w3 ⟨a_sp, c_sp, rfl, sp, hb⟩
        replace p := p.below (hb.mono p.le)
        replace ot := ot.below (hb.mono ot.le)
        replace hA := hA.trans (hb.mono hA.size)
        have hz3 := hb.size
        clear hb
        rw [HX.out] at sp ⊢
        rw [HT.out]
        go_wp2_with fail
        refine (equalInts_same _ _ _ _ _ _ _ _ ot.rd sp.rd hnl).mono ?_
        rintro e w4 ⟨rfl, hd⟩
        have hb : Below w3.heap.size w3 w4 := Dr.below hd _
        clear hd
        replace p := p.below (hb.mono p.le)
        replace ot := ot.below (hb.mono ot.le)
        replace sp := sp.below (hb.mono sp.le)
        replace hA := hA.trans (hb.mono hA.size)
        have hz4 := hb.size
        clear hb
        go_wp2_with fail
        refine (iIsKind_any (⟨#[100, 105, 115, 116, 105, 110, 99, 116]⟩ : ByteArray) (by decide) _ _ _ P _ p.rd (by omega) (by omega)).mono ?_
        rintro e w5 ⟨rfl, hb⟩
        replace p := p.below (hb.mono p.le)
        replace ot := ot.below (hb.mono ot.le)
        replace sp := sp.below (hb.mono sp.le)
        replace hA := hA.trans (hb.mono hA.size)
        have hz5 := hb.size
        clear hb
        rw [show kindF (⟨#[100, 105, 115, 116, 105, 110, 99, 116]⟩ : ByteArray).data.toList P = false from HK.out]
        go_wp2_with fail
        refine (equalInts_same _ _ _ _ _ _ _ _ ot.rd sp.rd hnl).mono ?_
        rintro e w6 ⟨rfl, hd⟩
        have hb : Below w5.heap.size w5 w6 := Dr.below hd _
        clear hd
        replace p := p.below (hb.mono p.le)
        replace ot := ot.below (hb.mono ot.le)
        replace sp := sp.below (hb.mono sp.le)
        replace hA := hA.trans (hb.mono hA.size)
        have hz6 := hb.size
        clear hb
        go_wp2_with fail
        go_ret
        exact ⟨rfl, hA⟩
      | true =>
        have HK : Hid (kindF [100, 105, 115, 116, 105, 110, 99, 116] P = true) := Lib.hid (by rw [kindF_some kindOf_distinct]; exact hd)
        have hvP := ((dis_iff _).1 hd).1
        have hb1 := (valid_bd hvP).1
        have hb2 := (valid_bd hvP).2.1
        have HFP := Lib.hid (valid_fits hvP)
        by_cases h0 : P.length = 0
        · have hq0 : ((P.length : Int) == 0) = true := beq_iff_eq.2 (by omega)
          clear ht hd h0 hvP
          go_wp2_with fail
          refine (iFranklinMap_any _ _ _ P _ p.rd (by omega) (by omega)).mono ?_
          rintro e w2 ⟨a_ot, c_ot, rfl, ot, hb⟩
          replace p := p.below (hb.mono p.le)
          replace hA := hA.trans (hb.mono hA.size)
          have hz2 := hb.size
          clear hb
          rw [HX.out] at ot ⊢
          rw [HT.out]
          go_wp2_with fail
          refine (sFranklinMap_any _ _ _ P _ p.rd (by omega) (by omega) p.capB).mono ?_
          rintro e w3 ⟨a_sp, c_sp, rfl, sp, hb⟩
          replace p := p.below (hb.mono p.le)
          replace ot := ot.below (hb.mono ot.le)
          replace hA := hA.trans (hb.mono hA.size)
          have hz3 := hb.size
          clear hb
          rw [HX.out] at sp ⊢
          rw [HT.out]
          go_wp2_with fail
          refine (equalInts_same _ _ _ _ _ _ _ _ ot.rd sp.rd hnl).mono ?_
          rintro e w4 ⟨rfl, hd⟩
          have hb : Below w3.heap.size w3 w4 := Dr.below hd _
          clear hd
          replace p := p.below (hb.mono p.le)
          replace ot := ot.below (hb.mono ot.le)
          replace sp := sp.below (hb.mono sp.le)
          replace hA := hA.trans (hb.mono hA.size)
          have hz4 := hb.size
          clear hb
          go_wp2_with fail
          refine (iIsKind_any (⟨#[100, 105, 115, 116, 105, 110, 99, 116]⟩ : ByteArray) (by decide) _ _ _ P _ p.rd (by omega) (by omega)).mono ?_
          rintro e w5 ⟨rfl, hb⟩
          replace p := p.below (hb.mono p.le)
          replace ot := ot.below (hb.mono ot.le)
          replace sp := sp.below (hb.mono sp.le)
          replace hA := hA.trans (hb.mono hA.size)
          have hz5 := hb.size
          clear hb
          rw [show kindF (⟨#[100, 105, 115, 116, 105, 110, 99, 116]⟩ : ByteArray).data.toList P = true from HK.out]
          go_wp2_with fail
          refine (equalInts_same _ _ _ _ _ _ _ _ ot.rd sp.rd hnl).mono ?_
          rintro e w6 ⟨rfl, hd⟩
          have hb : Below w5.heap.size w5 w6 := Dr.below hd _
          clear hd
          replace p := p.below (hb.mono p.le)
          replace ot := ot.below (hb.mono ot.le)
          replace sp := sp.below (hb.mono sp.le)
          replace hA := hA.trans (hb.mono hA.size)
          have hz6 := hb.size
          clear hb
          go_wp2_with fail
          go_ret
          exact ⟨rfl, hA⟩
        · have hq0 : ((P.length : Int) == 0) = false := beq_eq_false_iff_ne.2 (by omega)
          have hor := fr_no hd h0 ht
          obtain ⟨s, hs⟩ : ∃ s, s = sumL P := ⟨_, rfl⟩
          rw [← hs] at hor hb1 hb2
          have HS := Lib.hid hs
          obtain ⟨x, hx⟩ : ∃ x, x = pnF (P.length : Int) := ⟨_, rfl⟩
          obtain ⟨y, hy⟩ : ∃ y, y = pnF (-(P.length : Int)) := ⟨_, rfl⟩
          rw [← hx, ← hy] at hor
          have HXX := Lib.hid hx
          have HYY := Lib.hid hy
          clear ht hd hvP hs hx hy h0
          by_cases hxs : x = s
          · have hx1 : (x == s) = true := beq_iff_eq.2 hxs
            clear hor hxs
            go_wp2_with fail
            refine (iFranklinMap_any _ _ _ P _ p.rd (by omega) (by omega)).mono ?_
            rintro e w2 ⟨a_ot, c_ot, rfl, ot, hb⟩
            replace p := p.below (hb.mono p.le)
            replace hA := hA.trans (hb.mono hA.size)
            have hz2 := hb.size
            clear hb
            rw [HX.out] at ot ⊢
            rw [HT.out]
            go_wp2_with fail
            refine (sFranklinMap_any _ _ _ P _ p.rd (by omega) (by omega) p.capB).mono ?_
            rintro e w3 ⟨a_sp, c_sp, rfl, sp, hb⟩
            replace p := p.below (hb.mono p.le)
            replace ot := ot.below (hb.mono ot.le)
            replace hA := hA.trans (hb.mono hA.size)
            have hz3 := hb.size
            clear hb
            rw [HX.out] at sp ⊢
            rw [HT.out]
            go_wp2_with fail
            refine (equalInts_same _ _ _ _ _ _ _ _ ot.rd sp.rd hnl).mono ?_
            rintro e w4 ⟨rfl, hd⟩
            have hb : Below w3.heap.size w3 w4 := Dr.below hd _
            clear hd
            replace p := p.below (hb.mono p.le)
            replace ot := ot.below (hb.mono ot.le)
            replace sp := sp.below (hb.mono sp.le)
            replace hA := hA.trans (hb.mono hA.size)
            have hz4 := hb.size
            clear hb
            go_wp2_with fail
            refine (iIsKind_any (⟨#[100, 105, 115, 116, 105, 110, 99, 116]⟩ : ByteArray) (by decide) _ _ _ P _ p.rd (by omega) (by omega)).mono ?_
            rintro e w5 ⟨rfl, hb⟩
            replace p := p.below (hb.mono p.le)
            replace ot := ot.below (hb.mono ot.le)
            replace sp := sp.below (hb.mono sp.le)
            replace hA := hA.trans (hb.mono hA.size)
            have hz5 := hb.size
            clear hb
            rw [show kindF (⟨#[100, 105, 115, 116, 105, 110, 99, 116]⟩ : ByteArray).data.toList P = true from HK.out]
            go_wp2_with fail
            refine (iPentagonal_any (P.length : Int) _).mono ?_
            rintro e w6 ⟨rfl, hb⟩
            replace p := p.below (hb.mono p.le)
            replace ot := ot.below (hb.mono ot.le)
            replace sp := sp.below (hb.mono sp.le)
            replace hA := hA.trans (hb.mono hA.size)
            have hz6 := hb.size
            clear hb
            rw [show pnF (P.length : Int) = _ from HXX.out.symm]
            go_wp2_with fail
            refine (total_any _ _ _ P _ p.rd HFP.out (by omega)).mono ?_
            rintro e w' ⟨rfl, rfl⟩
            rw [show sumL P = s from HS.out.symm]
            go_wp2_with fail
            go_ret
            exact ⟨rfl, hA⟩
          · have hx1 : (x == s) = false := beq_eq_false_iff_ne.2 hxs
            have hy1 : (y == s) = true := beq_iff_eq.2 (hor.resolve_left hxs)
            clear hor hxs
            go_wp2_with fail
            refine (iFranklinMap_any _ _ _ P _ p.rd (by omega) (by omega)).mono ?_
            rintro e w2 ⟨a_ot, c_ot, rfl, ot, hb⟩
            replace p := p.below (hb.mono p.le)
            replace hA := hA.trans (hb.mono hA.size)
            have hz2 := hb.size
            clear hb
            rw [HX.out] at ot ⊢
            rw [HT.out]
            go_wp2_with fail
            refine (sFranklinMap_any _ _ _ P _ p.rd (by omega) (by omega) p.capB).mono ?_
            rintro e w3 ⟨a_sp, c_sp, rfl, sp, hb⟩
            replace p := p.below (hb.mono p.le)
            replace ot := ot.below (hb.mono ot.le)
            replace hA := hA.trans (hb.mono hA.size)
            have hz3 := hb.size
            clear hb
            rw [HX.out] at sp ⊢
            rw [HT.out]
            go_wp2_with fail
            refine (equalInts_same _ _ _ _ _ _ _ _ ot.rd sp.rd hnl).mono ?_
            rintro e w4 ⟨rfl, hd⟩
            have hb : Below w3.heap.size w3 w4 := Dr.below hd _
            clear hd
            replace p := p.below (hb.mono p.le)
            replace ot := ot.below (hb.mono ot.le)
            replace sp := sp.below (hb.mono sp.le)
            replace hA := hA.trans (hb.mono hA.size)
            have hz4 := hb.size
            clear hb
            go_wp2_with fail
            refine (iIsKind_any (⟨#[100, 105, 115, 116, 105, 110, 99, 116]⟩ : ByteArray) (by decide) _ _ _ P _ p.rd (by omega) (by omega)).mono ?_
            rintro e w5 ⟨rfl, hb⟩
            replace p := p.below (hb.mono p.le)
            replace ot := ot.below (hb.mono ot.le)
            replace sp := sp.below (hb.mono sp.le)
            replace hA := hA.trans (hb.mono hA.size)
            have hz5 := hb.size
            clear hb
            rw [show kindF (⟨#[100, 105, 115, 116, 105, 110, 99, 116]⟩ : ByteArray).data.toList P = true from HK.out]
            go_wp2_with fail
            refine (iPentagonal_any (P.length : Int) _).mono ?_
            rintro e w6 ⟨rfl, hb⟩
            replace p := p.below (hb.mono p.le)
            replace ot := ot.below (hb.mono ot.le)
            replace sp := sp.below (hb.mono sp.le)
            replace hA := hA.trans (hb.mono hA.size)
            have hz6 := hb.size
            clear hb
            rw [show pnF (P.length : Int) = _ from HXX.out.symm]
            go_wp2_with fail
            refine (total_any _ _ _ P _ p.rd HFP.out (by omega)).mono ?_
            rintro e w' ⟨rfl, rfl⟩
            rw [show sumL P = s from HS.out.symm]
            go_wp2_with fail
            refine (iPentagonal_any (-(P.length : Int)) _).mono ?_
            rintro e w7 ⟨rfl, hb⟩
            replace p := p.below (hb.mono p.le)
            replace ot := ot.below (hb.mono ot.le)
            replace sp := sp.below (hb.mono sp.le)
            replace hA := hA.trans (hb.mono hA.size)
            have hz7 := hb.size
            clear hb
            rw [show pnF (-(P.length : Int)) = _ from HYY.out.symm]
            go_wp2_with fail
            refine (total_any _ _ _ P _ p.rd HFP.out (by omega)).mono ?_
            rintro e w' ⟨rfl, rfl⟩
            rw [show sumL P = s from HS.out.symm]
            go_wp2_with fail
            go_ret
            exact ⟨rfl, hA⟩
  · have hl' : 1048576 < bs.length := by omega
    go_enter Try.func8, Try.ntmps8
    go_wp2_with fail
    go_ret
    exact ⟨rfl, Below.refl _ _⟩

theorem own : ownKnob Try.prog.godebug = none := by kernel_rfl
theorem laidOut : laidOutB Try.prog = true := by kernel_rfl

set_option maxRecDepth 100000 in
theorem lifted (os : Os) (started : os.Started) (H : Type) (enc : TypeId × Value → H) :
    ReturnsInHanded {} Try.checked os 8 .any (Rows.fnFranklinMapSpec.pre6 enc Try.prog Try.f8 Rows.fnFranklinMapRow.domain false) (Rows.fnFranklinMapSpec.post enc Try.prog Try.f8 false true false false) := by
  refine returnsInHanded_of_change (C := Try.checked) own started (by kernel_rfl) Try.func8
    (ChangeSpec.witness6 (enc := enc) (C := Try.checked) false ⟨#[], #[.slice none 0 0], []⟩ 8 (by kernel_rfl) (by kernel_rfl) (by kernel_rfl) (by kernel_rfl)) ?_
  intro W base args ds gs before hval0 hW hcnd _
  have hval : ∀ (j : Nat) t v, Try.f8.params[j]? = some t → args[j]? = some v → Value.okWide Try.prog W .any base t v := hval0
  have hW' := hW
  obtain ⟨p, q, hA0, hV, rfl, hfz, hnd⟩ := hW
  have hA : DataW.TrodAll enc Try.prog W 0 (fun _ => true) true Try.f8.params.toList args.toList ds p := hA0
  rw [Try.params8] at hA hval
  obtain ⟨v0, vs0, d0, ds0, p0, q0, hargs, rfl, rfl, h0, r0⟩ := trodAll_cons hA
  obtain ⟨rfl, rfl, rfl⟩ := trodAll_nil r0
  obtain rfl : args = #[v0] := by cases args; simp_all
  obtain ⟨rfl, rfl⟩ := trodVars_none hV
  obtain ⟨a0, len0, cap0, rfl⟩ := okWide_slice Try.underlying29 (hval 0 29 v0 rfl rfl)
  have k0 := h0
  have lt0 : ∀ x ∈ p0, x.block < W.heap.size := by obtain ⟨m, hm⟩ := k0; exact DataW.trod_lt m _ _ _ hm
  obtain ⟨z0, w0⟩ : ∃ zs, IsRow .u8 W a0 len0 cap0 zs := by
    obtain ⟨fuel, hf⟩ := h0
    rcases open_ints Try.underlying29 Try.underlying5 (by kernel_rfl) hf with ⟨hcs, _⟩ | ⟨x, l, c, zs, hcs, _, hl, hm, hz, _, hcell, hwz⟩
    · simp [Value.cells] at hcs
      obtain ⟨rfl, rfl, rfl⟩ := hcs
      exact ⟨[], .inl ⟨rfl, rfl, rfl, rfl⟩⟩
    · simp [Value.cells] at hcs
      obtain ⟨rfl, rfl, rfl⟩ := hcs
      exact ⟨zs, .inr ⟨_, rfl, hl, hm, by simpa using hz, hcell, hwz⟩⟩
  have lc0 := w0.lc
  obtain ⟨L0, rfl, R0, wf0, m0⟩ := w0.rd
  clear hA0 hval0
  refine (walk a0 cap0 L0 W R0 wf0 m0 (by simpa using lc0)).mono fun e W' ⟨he, bel⟩ => ?_
  subst he
  exact ⟨_, rfl, _, _, _, [], _, [], hW', trodAll_mk1 (shut_bool Try.underlying4 _), (trodAll_cons_mk (Below.trod laidOut (by kernel_rfl) (of_decide_eq_true (by kernel_rfl)) k0 bel lt0) trodAll_mk0), rfl, bel.frame _, fun h => by cases h⟩

theorem over : Rows.fnFranklinMapRow.holds Try.pinned (OpenSpec.ofChange Rows.fnFranklinMapSpec) :=
  OpenClaim.holds_of_wide 8 Try.f8 rfl rfl rfl rfl rfl rfl rfl ⟨rfl, rfl, rfl, rfl, rfl⟩ rfl rfl rfl rfl rfl (by kernel_rfl) Try.func8 (by kernel_rfl)
    (of_decide_eq_true (by kernel_rfl)) (by unfold Func.isWrapper; first | (rw [if_pos (by decide +kernel)]; kernel_rfl) | (rw [if_neg (by decide +kernel)]; exact ⟨rfl, rfl⟩))
    (fun os started H enc _ => lifted os started H enc)

/-- the given statement -/
theorem proved : Rows.FnFranklinMapSaid := over
end Go.Proofs.Ytdoihndifaebcaa.fnFranklinMap
