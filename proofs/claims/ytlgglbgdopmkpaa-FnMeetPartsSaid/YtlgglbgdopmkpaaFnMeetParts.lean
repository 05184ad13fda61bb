/-
  'laws.FnMeetParts' returns true for every code, and the code reads as it did. No condition.
-/
import Derived.Test.YtlgglbgdopmkpaaRows
import Derived.Test.YtlgglbgdopmkpaaD12
import Derived.Test.YtlgglbgdopmkpaaM31
import Derived.Test.YtlgglbgdopmkpaaL1
import Derived.Test.YtlgglbgdopmkpaaW53
import Derived.Test.YtlgglbgdopmkpaaW54
import Derived.Test.YtlgglbgdopmkpaaW50
import Derived.WalkKit
import Derived.ProofKit
import Derived.OpenShut
import Derived.ShutString
import Derived.ChangeOld
import Derived.Below
namespace Go.Proofs.Ytlgglbgdopmkpaa.fnMeetParts
open Go.ChangeShapes Go.WideShapes Go.ChangeAt Go.RowKit NP
open Go.ChangeMaps (open_string shut_string)
set_option linter.unusedVariables false

set_option maxHeartbeats 1600000 in
theorem walk (a : Option Addr) (c : Nat) (bs : List Int) (w0 : World) (h : Rd w0 w0.heap.size a (bs.map (Value.int .u8))) (hb : ∀ n ∈ bs, (Lit.int .u8 n).wf = true) (m : bs.length ≤ maxLen) (hc : bs.length ≤ c) :
    Calls Try.prog 14 #[.slice a bs.length c] w0 fun e w' => e = .returned (.bool true) ∧ Below w0.heap.size w0 w' := by
  unfold maxLen at m
  by_cases hl : bs.length ≤ 1048576
  · go_enter Try.func14, Try.ntmps14
    go_wp2_with fail
    refine (DrawMeetParts_any a c _ bs _ h (Nat.le_refl _) hb hl hc).mono ?_
    rintro e w1 ⟨a1, c1, P, a2, c2, Q, rfl, p, q, hs1, hs2, hA⟩
    have hP := hs1.1
    have hQ := hs2.1
    clear h hb hl hc m hs1 hs2
    cases ht : oneS' P Q with
    | true =>
      obtain ⟨hp, hq, hs⟩ := oneS_out ht
      obtain ⟨d1, d2, ho, hm⟩ := mt_facts ht
      have HT := Lib.hid ht
      have HF : Hid (mtF P Q = NP.mt P Q) := Lib.hid (mtF_yes ht)
      have hml := (valid_bd (valid_mt hp hq)).2.2.2
      have HFP := Lib.hid (valid_fits hp)
      have HTQ := Lib.hid ho
      have HMQ := Lib.hid hm
      have HD1 := Lib.hid d1
      have HD2 := Lib.hid d2
      obtain ⟨s, hss⟩ : ∃ s, s = sumL P := ⟨_, rfl⟩
      have HS := Lib.hid hss
      clear ht hp hq hs d1 d2 ho hm hss
      by_cases h9 : s ≤ 9
      · have g9 : decide (s ≤ 9) = true := decide_eq_true h9
        clear h9
        go_wp2_with fail
        refine (iMeetParts_any _ _ _ _ _ _ P Q _ p.rd q.rd (by omega) (by omega) (by omega) (by omega)).mono ?_
        rintro e w2 ⟨a_ot, c_ot, rfl, ot, hb⟩
        replace p := p.below (hb.mono p.le)
        replace q := q.below (hb.mono q.le)
        replace hA := hA.trans (hb.mono hA.size)
        have hz2 := hb.size
        clear hb
        rw [HF.out] at ot ⊢
        rw [HT.out]
        go_wp2_with fail
        refine (sMeetParts_any _ _ _ _ _ _ P Q _ p.rd q.rd (by omega) (by omega) (by omega) (by omega)).mono ?_
        rintro e w3 ⟨a_sp, c_sp, rfl, sp, hb⟩
        replace p := p.below (hb.mono p.le)
        replace q := q.below (hb.mono q.le)
        replace ot := ot.below (hb.mono ot.le)
        replace hA := hA.trans (hb.mono hA.size)
        have hz3 := hb.size
        clear hb
        rw [HF.out] at sp ⊢
        rw [HT.out]
        go_wp2_with fail
        refine (equalInts_same _ _ _ _ _ _ _ _ ot.rd sp.rd (by omega)).mono ?_
        rintro e w4 ⟨rfl, hd⟩
        have hb : Below w3.heap.size w3 w4 := Dr.below hd _
        clear hd
        replace p := p.below (hb.mono p.le)
        replace q := q.below (hb.mono q.le)
        replace ot := ot.below (hb.mono ot.le)
        replace sp := sp.below (hb.mono sp.le)
        replace hA := hA.trans (hb.mono hA.size)
        have hz4 := hb.size
        clear hb
        go_wp2_with fail
        refine (total_any _ _ _ P _ p.rd HFP.out (by omega)).mono ?_
        rintro e w' ⟨rfl, rfl⟩
        rw [← HS.out]
        go_wp2_with fail
        refine (total_any _ _ _ P _ p.rd HFP.out (by omega)).mono ?_
        rintro e w' ⟨rfl, rfl⟩
        rw [← HS.out]
        go_wp2_with fail
        refine (iAllParts_any s _).mono ?_
        rintro e w5 ⟨a_l, c_l, vl, rfl, ll, hb⟩
        replace p := p.below (hb.mono p.le)
        replace q := q.below (hb.mono q.le)
        replace ot := ot.below (hb.mono ot.le)
        replace sp := sp.below (hb.mono sp.le)
        replace hA := hA.trans (hb.mono hA.size)
        have hz5 := hb.size
        clear hb
        have hlen := apF_few s
        go_wp2_with fail
        go_loopw [10] (fun vi wr => ∃ k : Nat, k ≤ (apF s).length ∧ vi = .int .i64 k ∧ Below w5.heap.size w5 wr) (fun vi _ => 2000 - (intOf vi).toNat)
        case atStart => exact ⟨0, Nat.zero_le _, rfl, Below.refl _ _⟩
        case round =>
          obtain ⟨k, hk, rfl, hbr⟩ := hrel
          by_cases hlt : k < (apF s).length
          · have pr := p.below (hbr.mono p.le)
            have qr := q.below (hbr.mono q.le)
            have mr := ot.below (hbr.mono ot.le)
            have llr := ll.below (hbr.mono ll.le)
            have hzr := hbr.size
            have hle := ll.le
            obtain ⟨b2, o2, a2, c2, e2, hb2, hc, hx, _⟩ := (llr.rd).at_ hlt
            subst e2
            have hlt' : (k : Int) < ((apF s).length : Int) := by omega
            have hX16 : ((apF s)[k]).length ≤ 16 := apF_short s _ (List.getElem_mem hlt)
            obtain ⟨X, hXX⟩ : ∃ X, X = (apF s)[k] := ⟨_, rfl⟩
            rw [← hXX] at hc hx hX16
            clear hXX llr
            have hb2' : b2 < wr.heap.size := by omega
            cases d1 : dom P X with
            | false =>
              have D1 := Lib.hid d1
              go_wp2_with fail
              refine (iDominates_any _ _ _ _ _ _ P X _ pr.rd hx (by first | exact pr.le | omega) (by omega) (by omega) (by omega)).mono ?_
              rintro e wr1 ⟨rfl, hbb1⟩
              rw [D1.out]
              go_wp2_with fail
              go_roundw
              case rel => exact ⟨k + 1, by omega, by go_num, hbr.trans (hbb1.mono hbr.size)⟩
              case measure => simp [intOf]; omega
            | true =>
              have D1 := Lib.hid d1
              go_wp2_with fail
              refine (iDominates_any _ _ _ _ _ _ P X _ pr.rd hx (by first | exact pr.le | omega) (by omega) (by omega) (by omega)).mono ?_
              rintro e wr1 ⟨rfl, hbb1⟩
              rw [D1.out]
              have hx1 := hx.below (hbb1.mono (by omega))
              have hc1 := (hbb1.cell (p := ⟨b2, o2 + k, none⟩) (by show b2 < _; omega)).trans hc
              have hzz1 := hbb1.size
              have qr1 := qr.below (hbb1.mono qr.le)
              have mr1 := mr.below (hbb1.mono mr.le)
              cases d2 : dom Q X with
              | false =>
                have D2 := Lib.hid d2
                go_wp2_with fail
                refine (iDominates_any _ _ _ _ _ _ Q X _ qr1.rd hx1 (by first | exact qr1.le | omega) (by omega) (by omega) (by omega)).mono ?_
                rintro e wr2 ⟨rfl, hbb2⟩
                rw [D2.out]
                go_wp2_with fail
                go_roundw
                case rel => exact ⟨k + 1, by omega, by go_num, hbr.trans ((hbb1.trans (hbb2.mono hbb1.size)).mono hbr.size)⟩
                case measure => simp [intOf]; omega
              | true =>
                have D2 := Lib.hid d2
                go_wp2_with fail
                refine (iDominates_any _ _ _ _ _ _ Q X _ qr1.rd hx1 (by first | exact qr1.le | omega) (by omega) (by omega) (by omega)).mono ?_
                rintro e wr2 ⟨rfl, hbb2⟩
                rw [D2.out]
                have hx2 := hx1.below (hbb2.mono (by omega))
                have hc2 := (hbb2.cell (p := ⟨b2, o2 + k, none⟩) (by show b2 < _; omega)).trans hc1
                have hzz2 := hbb2.size
                have mr2 := mr1.below (hbb2.mono mr1.le)
                have D3 := Lib.hid (mt_greatest d1 d2)
                go_wp2_with fail
                refine (iDominates_any _ _ _ _ _ _ (NP.mt P Q) X _ mr2.rd hx2 (by first | exact mr2.le | omega) (by omega) (by omega) (by omega)).mono ?_
                rintro e wr3 ⟨rfl, hbb3⟩
                rw [D3.out]
                go_wp2_with fail
                go_roundw
                case rel => exact ⟨k + 1, by omega, by go_num, hbr.trans (((hbb1.trans (hbb2.mono hbb1.size)).trans (hbb3.mono (Nat.le_trans hbb1.size hbb2.size))).mono hbr.size)⟩
                case measure => simp [intOf]; omega
          · obtain rfl : k = (apF s).length := by omega
            replace p := p.below (hbr.mono p.le)
            replace q := q.below (hbr.mono q.le)
            replace ot := ot.below (hbr.mono ot.le)
            replace sp := sp.below (hbr.mono sp.le)
            replace hA := hA.trans (hbr.mono hA.size)
            have hzr := hbr.size
            clear hbr ll
            obtain ⟨w6, rfl⟩ : ∃ wx : World, wx = wr := ⟨_, rfl⟩
            go_wp2_with fail
            refine (iMeetParts_any _ _ _ _ _ _ Q P _ q.rd p.rd (by omega) (by omega) (by omega) (by omega)).mono ?_
            rintro e w7 ⟨a_me, c_me, rfl, me, hb⟩
            replace p := p.below (hb.mono p.le)
            replace q := q.below (hb.mono q.le)
            replace ot := ot.below (hb.mono ot.le)
            replace sp := sp.below (hb.mono sp.le)
            replace hA := hA.trans (hb.mono hA.size)
            have hz7 := hb.size
            clear hb
            rw [HMQ.out] at me ⊢
            rw [HTQ.out]
            go_wp2_with fail
            refine (iDominates_any _ _ _ _ _ _ P (NP.mt P Q) _ p.rd ot.rd (by omega) (by omega) (by omega) (by omega)).mono ?_
            rintro e w8 ⟨rfl, hb⟩
            replace p := p.below (hb.mono p.le)
            replace q := q.below (hb.mono q.le)
            replace ot := ot.below (hb.mono ot.le)
            replace sp := sp.below (hb.mono sp.le)
            replace me := me.below (hb.mono me.le)
            replace hA := hA.trans (hb.mono hA.size)
            have hz8 := hb.size
            clear hb
            rw [HD1.out]
            go_wp2_with fail
            refine (iDominates_any _ _ _ _ _ _ Q (NP.mt P Q) _ q.rd ot.rd (by omega) (by omega) (by omega) (by omega)).mono ?_
            rintro e w9 ⟨rfl, hb⟩
            replace p := p.below (hb.mono p.le)
            replace q := q.below (hb.mono q.le)
            replace ot := ot.below (hb.mono ot.le)
            replace sp := sp.below (hb.mono sp.le)
            replace me := me.below (hb.mono me.le)
            replace hA := hA.trans (hb.mono hA.size)
            have hz9 := hb.size
            clear hb
            rw [HD2.out]
            go_wp2_with fail
            refine (equalInts_same _ _ _ _ _ _ _ _ me.rd ot.rd (by omega)).mono ?_
            rintro e w10 ⟨rfl, hd⟩
            have hb : Below w9.heap.size w9 w10 := Dr.below hd _
            clear hd
            replace p := p.below (hb.mono p.le)
            replace q := q.below (hb.mono q.le)
            replace ot := ot.below (hb.mono ot.le)
            replace sp := sp.below (hb.mono sp.le)
            replace me := me.below (hb.mono me.le)
            replace hA := hA.trans (hb.mono hA.size)
            have hz10 := hb.size
            clear hb
            go_wp2_with fail
            go_ret
            exact ⟨rfl, hA⟩
      · have g9 : decide (s ≤ 9) = false := decide_eq_false h9
        clear h9
        go_wp2_with fail
        refine (iMeetParts_any _ _ _ _ _ _ P Q _ p.rd q.rd (by omega) (by omega) (by omega) (by omega)).mono ?_
        rintro e w2 ⟨a_ot, c_ot, rfl, ot, hb⟩
        replace p := p.below (hb.mono p.le)
        replace q := q.below (hb.mono q.le)
        replace hA := hA.trans (hb.mono hA.size)
        have hz2 := hb.size
        clear hb
        rw [HF.out] at ot ⊢
        rw [HT.out]
        go_wp2_with fail
        refine (sMeetParts_any _ _ _ _ _ _ P Q _ p.rd q.rd (by omega) (by omega) (by omega) (by omega)).mono ?_
        rintro e w3 ⟨a_sp, c_sp, rfl, sp, hb⟩
        replace p := p.below (hb.mono p.le)
        replace q := q.below (hb.mono q.le)
        replace ot := ot.below (hb.mono ot.le)
        replace hA := hA.trans (hb.mono hA.size)
        have hz3 := hb.size
        clear hb
        rw [HF.out] at sp ⊢
        rw [HT.out]
        go_wp2_with fail
        refine (equalInts_same _ _ _ _ _ _ _ _ ot.rd sp.rd (by omega)).mono ?_
        rintro e w4 ⟨rfl, hd⟩
        have hb : Below w3.heap.size w3 w4 := Dr.below hd _
        clear hd
        replace p := p.below (hb.mono p.le)
        replace q := q.below (hb.mono q.le)
        replace ot := ot.below (hb.mono ot.le)
        replace sp := sp.below (hb.mono sp.le)
        replace hA := hA.trans (hb.mono hA.size)
        have hz4 := hb.size
        clear hb
        go_wp2_with fail
        refine (total_any _ _ _ P _ p.rd HFP.out (by omega)).mono ?_
        rintro e w' ⟨rfl, rfl⟩
        rw [← HS.out]
        go_wp2_with fail
        refine (iMeetParts_any _ _ _ _ _ _ Q P _ q.rd p.rd (by omega) (by omega) (by omega) (by omega)).mono ?_
        rintro e w5 ⟨a_me, c_me, rfl, me, hb⟩
        replace p := p.below (hb.mono p.le)
        replace q := q.below (hb.mono q.le)
        replace ot := ot.below (hb.mono ot.le)
        replace sp := sp.below (hb.mono sp.le)
        replace hA := hA.trans (hb.mono hA.size)
        have hz5 := hb.size
        clear hb
        rw [HMQ.out] at me ⊢
        rw [HTQ.out]
        go_wp2_with fail
        refine (iDominates_any _ _ _ _ _ _ P (NP.mt P Q) _ p.rd ot.rd (by omega) (by omega) (by omega) (by omega)).mono ?_
        rintro e w6 ⟨rfl, hb⟩
        replace p := p.below (hb.mono p.le)
        replace q := q.below (hb.mono q.le)
        replace ot := ot.below (hb.mono ot.le)
        replace sp := sp.below (hb.mono sp.le)
        replace me := me.below (hb.mono me.le)
        replace hA := hA.trans (hb.mono hA.size)
        have hz6 := hb.size
        clear hb
        rw [HD1.out]
        go_wp2_with fail
        refine (iDominates_any _ _ _ _ _ _ Q (NP.mt P Q) _ q.rd ot.rd (by omega) (by omega) (by omega) (by omega)).mono ?_
        rintro e w7 ⟨rfl, hb⟩
        replace p := p.below (hb.mono p.le)
        replace q := q.below (hb.mono q.le)
        replace ot := ot.below (hb.mono ot.le)
        replace sp := sp.below (hb.mono sp.le)
        replace me := me.below (hb.mono me.le)
        replace hA := hA.trans (hb.mono hA.size)
        have hz7 := hb.size
        clear hb
        rw [HD2.out]
        go_wp2_with fail
        refine (equalInts_same _ _ _ _ _ _ _ _ me.rd ot.rd (by omega)).mono ?_
        rintro e w8 ⟨rfl, hd⟩
        have hb : Below w7.heap.size w7 w8 := Dr.below hd _
        clear hd
        replace p := p.below (hb.mono p.le)
        replace q := q.below (hb.mono q.le)
        replace ot := ot.below (hb.mono ot.le)
        replace sp := sp.below (hb.mono sp.le)
        replace me := me.below (hb.mono me.le)
        replace hA := hA.trans (hb.mono hA.size)
        have hz8 := hb.size
        clear hb
        go_wp2_with fail
        go_ret
        exact ⟨rfl, hA⟩
    | false =>
      have HT := Lib.hid ht
      have HX : Hid (mtF P Q = []) := Lib.hid (mtF_no ht)
      have hnl : ([] : List Int).length ≤ 4611686018427387904 := by simp
      clear ht
      go_wp2_with fail
      refine (iMeetParts_any _ _ _ _ _ _ P Q _ p.rd q.rd (by omega) (by omega) (by omega) (by omega)).mono ?_
      rintro e w2 ⟨a_ot, c_ot, rfl, ot, hb⟩
      replace p := p.below (hb.mono p.le)
      replace q := q.below (hb.mono q.le)
      replace hA := hA.trans (hb.mono hA.size)
      have hz2 := hb.size
      clear hb
      rw [HX.out] at ot ⊢
      rw [HT.out]
      go_wp2_with fail
      refine (sMeetParts_any _ _ _ _ _ _ P Q _ p.rd q.rd (by omega) (by omega) (by omega) (by omega)).mono ?_
      rintro e w3 ⟨a_sp, c_sp, rfl, sp, hb⟩
      replace p := p.below (hb.mono p.le)
      replace q := q.below (hb.mono q.le)
      replace ot := ot.below (hb.mono ot.le)
      replace hA := hA.trans (hb.mono hA.size)
      have hz3 := hb.size
      clear hb
      rw [HX.out] at sp ⊢
      rw [HT.out]
      go_wp2_with fail
      refine (equalInts_same _ _ _ _ _ _ _ _ ot.rd sp.rd hnl).mono ?_
      rintro e w4 ⟨rfl, hd⟩
      have hb : Below w3.heap.size w3 w4 := Dr.below hd _
      clear hd
      replace p := p.below (hb.mono p.le)
      replace q := q.below (hb.mono q.le)
      replace ot := ot.below (hb.mono ot.le)
      replace sp := sp.below (hb.mono sp.le)
      replace hA := hA.trans (hb.mono hA.size)
      have hz4 := hb.size
      clear hb
      go_wp2_with fail
      refine (equalInts_same _ _ _ _ _ _ _ _ ot.rd sp.rd hnl).mono ?_
      rintro e w5 ⟨rfl, hd⟩
      have hb : Below w4.heap.size w4 w5 := Dr.below hd _
      clear hd
      replace p := p.below (hb.mono p.le)
      replace q := q.below (hb.mono q.le)
      replace ot := ot.below (hb.mono ot.le)
      replace sp := sp.below (hb.mono sp.le)
      replace hA := hA.trans (hb.mono hA.size)
      have hz5 := hb.size
      clear hb
      go_wp2_with fail
      go_ret
      exact ⟨rfl, hA⟩
  · have hl' : 1048576 < bs.length := by omega
    go_enter Try.func14, Try.ntmps14
    go_wp2_with fail
    go_ret
    exact ⟨rfl, Below.refl _ _⟩

theorem own : ownKnob Try.prog.godebug = none := by kernel_rfl
theorem laidOut : laidOutB Try.prog = true := by kernel_rfl

set_option maxRecDepth 100000 in
theorem lifted (os : Os) (started : os.Started) (H : Type) (enc : TypeId × Value → H) :
    ReturnsInHanded {} Try.checked os 14 .any (Rows.fnMeetPartsSpec.pre6 enc Try.prog Try.f14 Rows.fnMeetPartsRow.domain false) (Rows.fnMeetPartsSpec.post enc Try.prog Try.f14 false true false false) := by
  refine returnsInHanded_of_change (C := Try.checked) own started (by kernel_rfl) Try.func14
    (ChangeSpec.witness6 (enc := enc) (C := Try.checked) false ⟨#[], #[.slice none 0 0], []⟩ 8 (by kernel_rfl) (by kernel_rfl) (by kernel_rfl) (by kernel_rfl)) ?_
  intro W base args ds gs before hval0 hW hcnd _
  have hval : ∀ (j : Nat) t v, Try.f14.params[j]? = some t → args[j]? = some v → Value.okWide Try.prog W .any base t v := hval0
  have hW' := hW
  obtain ⟨p, q, hA0, hV, rfl, hfz, hnd⟩ := hW
  have hA : DataW.TrodAll enc Try.prog W 0 (fun _ => true) true Try.f14.params.toList args.toList ds p := hA0
  rw [Try.params14] at hA hval
  obtain ⟨v0, vs0, d0, ds0, p0, q0, hargs, rfl, rfl, h0, r0⟩ := trodAll_cons hA
  obtain ⟨rfl, rfl, rfl⟩ := trodAll_nil r0
  obtain rfl : args = #[v0] := by cases args; simp_all
  obtain ⟨rfl, rfl⟩ := trodVars_none hV
  obtain ⟨a0, len0, cap0, rfl⟩ := okWide_slice Try.underlying27 (hval 0 27 v0 rfl rfl)
  have k0 := h0
  have lt0 : ∀ x ∈ p0, x.block < W.heap.size := by obtain ⟨m, hm⟩ := k0; exact DataW.trod_lt m _ _ _ hm
  obtain ⟨z0, w0⟩ : ∃ zs, IsRow .u8 W a0 len0 cap0 zs := by
    obtain ⟨fuel, hf⟩ := h0
    rcases open_ints Try.underlying27 Try.underlying5 (by kernel_rfl) hf with ⟨hcs, _⟩ | ⟨x, l, c, zs, hcs, _, hl, hm, hz, _, hcell, hwz⟩
    · simp [Value.cells] at hcs
      obtain ⟨rfl, rfl, rfl⟩ := hcs
      exact ⟨[], .inl ⟨rfl, rfl, rfl, rfl⟩⟩
    · simp [Value.cells] at hcs
      obtain ⟨rfl, rfl, rfl⟩ := hcs
      exact ⟨zs, .inr ⟨_, rfl, hl, hm, by simpa using hz, hcell, hwz⟩⟩
  have lc0 := w0.lc
  obtain ⟨L0, rfl, R0, wf0, m0⟩ := w0.rd
  clear hA0 hval0
  refine (walk a0 cap0 L0 W R0 wf0 m0 (by simpa using lc0)).mono fun e W' ⟨he, bel⟩ => ?_
  subst he
  exact ⟨_, rfl, _, _, _, [], _, [], hW', trodAll_mk1 (shut_bool Try.underlying4 _), (trodAll_cons_mk (Below.trod laidOut (by kernel_rfl) (of_decide_eq_true (by kernel_rfl)) k0 bel lt0) trodAll_mk0), rfl, bel.frame _, fun h => by cases h⟩

theorem over : Rows.fnMeetPartsRow.holds Try.pinned (OpenSpec.ofChange Rows.fnMeetPartsSpec) :=
  OpenClaim.holds_of_wide 14 Try.f14 rfl rfl rfl rfl rfl rfl rfl ⟨rfl, rfl, rfl, rfl, rfl⟩ rfl rfl rfl rfl rfl (by kernel_rfl) Try.func14 (by kernel_rfl)
    (of_decide_eq_true (by kernel_rfl)) (by unfold Func.isWrapper; first | (rw [if_pos (by decide +kernel)]; kernel_rfl) | (rw [if_neg (by decide +kernel)]; exact ⟨rfl, rfl⟩))
    (fun os started H enc _ => lifted os started H enc)

/-- the given statement -/
theorem proved : Rows.FnMeetPartsSaid := over
end Go.Proofs.Ytlgglbgdopmkpaa.fnMeetParts
