/-
  'laws.FnPartsOfSums' returns true for every code, and the code reads as it did. No condition.
-/
import Derived.Test.YtgbkaahmmpgjfaaRows
import Derived.Test.YtgbkaahmmpgjfaaW77
import Derived.Test.YtgbkaahmmpgjfaaD15
import Derived.Test.YtgbkaahmmpgjfaaL1
import Derived.WalkKit
import Derived.ProofKit
import Derived.OpenShut
import Derived.ShutString
import Derived.ChangeOld
import Derived.Below
namespace Go.Proofs.Ytgbkaahmmpgjfaa.fnPartsOfSums
open Go.ChangeShapes Go.WideShapes Go.ChangeAt Go.RowKit NP
open Go.ChangeMaps (open_string shut_string)
set_option linter.unusedVariables false

set_option maxHeartbeats 1600000 in
theorem walk (a : Option Addr) (c : Nat) (bs : List Int) (w0 : World) (h : Rd w0 w0.heap.size a (bs.map (Value.int .u8))) (hb : ∀ n ∈ bs, (Lit.int .u8 n).wf = true) (m : bs.length ≤ maxLen) (hc : bs.length ≤ c) :
    Calls Try.prog 9 #[.slice a bs.length c] w0 fun e w' => e = .returned (.bool true) ∧ Below w0.heap.size w0 w' := by
  unfold maxLen at m
  by_cases hl : bs.length ≤ 1048576
  · go_enter Try.func9, Try.ntmps9
    go_wp2_with fail
    refine (DrawPartsOfSums_any a c _ bs _ h (Nat.le_refl _) hb hl hc).mono ?_
    rintro e w1 ⟨a1, c1, P, rfl, p, hs1, hA⟩
    have hP := hs1.1
    clear h hb hl hc m hs1
    cases hv : vsm P with
    | true =>
      have HV := Lib.hid hv
      have hb0 := vsm_bd hv
      have hpos := (vsm_iff.1 hv).1
      have HFIT := Lib.hid (vsm_sumFits hv)
      have HF : Hid (posF P = mrg P) := Lib.hid (posF_yes hv)
      have HVP := Lib.hid (mrg_ok hv)
      have HTR : Hid (trnF P = P.reverse) := Lib.hid (trnF_yes hv)
      obtain ⟨RV, hRV⟩ : ∃ RV, RV = P.reverse := ⟨_, rfl⟩
      rw [← hRV] at HTR
      have hrl : RV.length ≤ 16 := by rw [hRV, List.length_reverse]; exact hb0.2.2.2
      have HRP : Hid (posF RV = mrg P) := Lib.hid (by rw [hRV, posF_yes (vsm_rev hv), mrg_rev])
      have HPP : Hid (posF (mrg P) = mrg P) := Lib.hid (by rw [posF_yes (vsm_of_valid (mrg_ok hv)), mrg_of_mono (mrg_mono P)])
      have hml : (mrg P).length ≤ 16 := by rw [mrg_len]; exact hb0.2.2.2
      clear hv hb0 hpos hRV
      go_wp2_with fail
      refine (iPartsOfSums_any _ _ _ P _ p.rd (by omega) (by omega)).mono ?_
      rintro e w2 ⟨a_ot, c_ot, rfl, ot, hb⟩
      replace p := p.below (hb.mono p.le)
      replace hA := hA.trans (hb.mono hA.size)
      have hz2 := hb.size
      clear hb
      rw [HF.out] at ot ⊢
      go_wp2_with fail
      refine (sPartsOfSums_any _ _ _ P _ p.rd (by omega) (by omega)).mono ?_
      rintro e w3 ⟨a_sp, c_sp, rfl, sp, hb⟩
      replace p := p.below (hb.mono p.le)
      replace ot := ot.below (hb.mono ot.le)
      replace hA := hA.trans (hb.mono hA.size)
      have hz3 := hb.size
      clear hb
      rw [HF.out] at sp ⊢
      go_wp2_with fail
      refine (equalInts_same _ _ _ _ _ _ _ _ ot.rd sp.rd (by omega)).mono ?_
      rintro e w4 ⟨rfl, hd⟩
      have hb : Below w3.heap.size w3 w4 := Dr.below hd _
      clear hd
      replace p := p.below (hb.mono p.le)
      replace ot := ot.below (hb.mono ot.le)
      replace sp := sp.below (hb.mono sp.le)
      replace hA := hA.trans (hb.mono hA.size)
      have hz4 := hb.size
      clear hb
      go_wp2_with fail
      refine (iValidSums_any _ _ _ P _ p.rd (by omega) (by omega)).mono ?_
      rintro e w5 ⟨rfl, hb⟩
      replace p := p.below (hb.mono p.le)
      replace ot := ot.below (hb.mono ot.le)
      replace sp := sp.below (hb.mono sp.le)
      replace hA := hA.trans (hb.mono hA.size)
      have hz5 := hb.size
      clear hb
      rw [HV.out]
      go_wp2_with fail
      refine (iValidParts_any _ _ _ (mrg P) _ ot.rd (by omega) (by omega)).mono ?_
      rintro e w6 ⟨rfl, hb⟩
      replace p := p.below (hb.mono p.le)
      replace ot := ot.below (hb.mono ot.le)
      replace sp := sp.below (hb.mono sp.le)
      replace hA := hA.trans (hb.mono hA.size)
      have hz6 := hb.size
      clear hb
      rw [HVP.out]
      go_wp2_with fail
      refine (iTurnSums_any _ _ _ P _ p.rd (by omega) (by omega)).mono ?_
      rintro e w7 ⟨a_tr, c_tr, rfl, tr, hb⟩
      replace p := p.below (hb.mono p.le)
      replace ot := ot.below (hb.mono ot.le)
      replace sp := sp.below (hb.mono sp.le)
      replace hA := hA.trans (hb.mono hA.size)
      have hz7 := hb.size
      clear hb
      rw [HTR.out] at tr ⊢
      go_wp2_with fail
      refine (iPartsOfSums_any _ _ _ RV _ tr.rd (by omega) (by omega)).mono ?_
      rintro e w8 ⟨a_pr, c_pr, rfl, pr, hb⟩
      replace p := p.below (hb.mono p.le)
      replace ot := ot.below (hb.mono ot.le)
      replace sp := sp.below (hb.mono sp.le)
      replace tr := tr.below (hb.mono tr.le)
      replace hA := hA.trans (hb.mono hA.size)
      have hz8 := hb.size
      clear hb
      rw [HRP.out] at pr ⊢
      go_wp2_with fail
      refine (equalInts_same _ _ _ _ _ _ _ _ pr.rd ot.rd (by omega)).mono ?_
      rintro e w9 ⟨rfl, hd⟩
      have hb : Below w8.heap.size w8 w9 := Dr.below hd _
      clear hd
      replace p := p.below (hb.mono p.le)
      replace ot := ot.below (hb.mono ot.le)
      replace sp := sp.below (hb.mono sp.le)
      replace tr := tr.below (hb.mono tr.le)
      replace pr := pr.below (hb.mono pr.le)
      replace hA := hA.trans (hb.mono hA.size)
      have hz9 := hb.size
      clear hb
      go_wp2_with fail
      refine (iPartsOfSums_any _ _ _ (mrg P) _ ot.rd (by omega) (by omega)).mono ?_
      rintro e w10 ⟨a_pp, c_pp, rfl, pp, hb⟩
      replace p := p.below (hb.mono p.le)
      replace ot := ot.below (hb.mono ot.le)
      replace sp := sp.below (hb.mono sp.le)
      replace tr := tr.below (hb.mono tr.le)
      replace pr := pr.below (hb.mono pr.le)
      replace hA := hA.trans (hb.mono hA.size)
      have hz10 := hb.size
      clear hb
      rw [HPP.out] at pp ⊢
      go_wp2_with fail
      refine (equalInts_same _ _ _ _ _ _ _ _ pp.rd ot.rd (by omega)).mono ?_
      rintro e w11 ⟨rfl, hd⟩
      have hb : Below w10.heap.size w10 w11 := Dr.below hd _
      clear hd
      replace p := p.below (hb.mono p.le)
      replace ot := ot.below (hb.mono ot.le)
      replace sp := sp.below (hb.mono sp.le)
      replace tr := tr.below (hb.mono tr.le)
      replace pr := pr.below (hb.mono pr.le)
      replace pp := pp.below (hb.mono pp.le)
      replace hA := hA.trans (hb.mono hA.size)
      have hz11 := hb.size
      clear hb
      go_wp2_with fail
      go_ret
      exact ⟨rfl, hA⟩
    | false =>
      have HV := Lib.hid hv
      have HF : Hid (posF P = []) := Lib.hid (posF_no hv)
      have hnl : ([] : List Int).length ≤ 4611686018427387904 := by simp
      clear hv
      go_wp2_with fail
      refine (iPartsOfSums_any _ _ _ P _ p.rd (by omega) (by omega)).mono ?_
      rintro e w2 ⟨a_ot, c_ot, rfl, ot, hb⟩
      replace p := p.below (hb.mono p.le)
      replace hA := hA.trans (hb.mono hA.size)
      have hz2 := hb.size
      clear hb
      rw [HF.out] at ot ⊢
      go_wp2_with fail
      refine (sPartsOfSums_any _ _ _ P _ p.rd (by omega) (by omega)).mono ?_
      rintro e w3 ⟨a_sp, c_sp, rfl, sp, hb⟩
      replace p := p.below (hb.mono p.le)
      replace ot := ot.below (hb.mono ot.le)
      replace hA := hA.trans (hb.mono hA.size)
      have hz3 := hb.size
      clear hb
      rw [HF.out] at sp ⊢
      go_wp2_with fail
      refine (equalInts_same _ _ _ _ _ _ _ _ ot.rd sp.rd hnl).mono ?_
      rintro e w4 ⟨rfl, hd⟩
      have hb : Below w3.heap.size w3 w4 := Dr.below hd _
      clear hd
      replace p := p.below (hb.mono p.le)
      replace ot := ot.below (hb.mono ot.le)
      replace sp := sp.below (hb.mono sp.le)
      replace hA := hA.trans (hb.mono hA.size)
      have hz4 := hb.size
      clear hb
      go_wp2_with fail
      refine (iValidSums_any _ _ _ P _ p.rd (by omega) (by omega)).mono ?_
      rintro e w5 ⟨rfl, hb⟩
      replace p := p.below (hb.mono p.le)
      replace ot := ot.below (hb.mono ot.le)
      replace sp := sp.below (hb.mono sp.le)
      replace hA := hA.trans (hb.mono hA.size)
      have hz5 := hb.size
      clear hb
      rw [HV.out]
      go_wp2_with fail
      refine (sPartsOfSums_any _ _ _ P _ p.rd (by omega) (by omega)).mono ?_
      rintro e w6 ⟨a_sp2, c_sp2, rfl, sp2, hb⟩
      replace p := p.below (hb.mono p.le)
      replace ot := ot.below (hb.mono ot.le)
      replace sp := sp.below (hb.mono sp.le)
      replace hA := hA.trans (hb.mono hA.size)
      have hz6 := hb.size
      clear hb
      rw [HF.out] at sp2 ⊢
      go_wp2_with fail
      refine (equalInts_same _ _ _ _ _ _ _ _ ot.rd sp2.rd hnl).mono ?_
      rintro e w7 ⟨rfl, hd⟩
      have hb : Below w6.heap.size w6 w7 := Dr.below hd _
      clear hd
      replace p := p.below (hb.mono p.le)
      replace ot := ot.below (hb.mono ot.le)
      replace sp := sp.below (hb.mono sp.le)
      replace sp2 := sp2.below (hb.mono sp2.le)
      replace hA := hA.trans (hb.mono hA.size)
      have hz7 := hb.size
      clear hb
      go_wp2_with fail
      go_ret
      exact ⟨rfl, hA⟩
  · have hl' : 1048576 < bs.length := by omega
    go_enter Try.func9, Try.ntmps9
    go_wp2_with fail
    go_ret
    exact ⟨rfl, Below.refl _ _⟩

theorem own : ownKnob Try.prog.godebug = none := by kernel_rfl
theorem laidOut : laidOutB Try.prog = true := by kernel_rfl

set_option maxRecDepth 100000 in
theorem lifted (os : Os) (started : os.Started) (H : Type) (enc : TypeId × Value → H) :
    ReturnsInHanded {} Try.checked os 9 .any (Rows.fnPartsOfSumsSpec.pre6 enc Try.prog Try.f9 Rows.fnPartsOfSumsRow.domain false) (Rows.fnPartsOfSumsSpec.post enc Try.prog Try.f9 false true false false) := by
  refine returnsInHanded_of_change (C := Try.checked) own started (by kernel_rfl) Try.func9
    (ChangeSpec.witness6 (enc := enc) (C := Try.checked) false ⟨#[], #[.slice none 0 0], []⟩ 8 (by kernel_rfl) (by kernel_rfl) (by kernel_rfl) (by kernel_rfl)) ?_
  intro W base args ds gs before hval0 hW hcnd _
  have hval : ∀ (j : Nat) t v, Try.f9.params[j]? = some t → args[j]? = some v → Value.okWide Try.prog W .any base t v := hval0
  have hW' := hW
  obtain ⟨p, q, hA0, hV, rfl, hfz, hnd⟩ := hW
  have hA : DataW.TrodAll enc Try.prog W 0 (fun _ => true) true Try.f9.params.toList args.toList ds p := hA0
  rw [Try.params9] at hA hval
  obtain ⟨v0, vs0, d0, ds0, p0, q0, hargs, rfl, rfl, h0, r0⟩ := trodAll_cons hA
  obtain ⟨rfl, rfl, rfl⟩ := trodAll_nil r0
  obtain rfl : args = #[v0] := by cases args; simp_all
  obtain ⟨rfl, rfl⟩ := trodVars_none hV
  obtain ⟨a0, len0, cap0, rfl⟩ := okWide_slice Try.underlying26 (hval 0 26 v0 rfl rfl)
  have k0 := h0
  have lt0 : ∀ x ∈ p0, x.block < W.heap.size := by obtain ⟨m, hm⟩ := k0; exact DataW.trod_lt m _ _ _ hm
  obtain ⟨z0, w0⟩ : ∃ zs, IsRow .u8 W a0 len0 cap0 zs := by
    obtain ⟨fuel, hf⟩ := h0
    rcases open_ints Try.underlying26 Try.underlying5 (by kernel_rfl) hf with ⟨hcs, _⟩ | ⟨x, l, c, zs, hcs, _, hl, hm, hz, _, hcell, hwz⟩
    · simp [Value.cells] at hcs
      obtain ⟨rfl, rfl, rfl⟩ := hcs
      exact ⟨[], .inl ⟨rfl, rfl, rfl, rfl⟩⟩
    · simp [Value.cells] at hcs
      obtain ⟨rfl, rfl, rfl⟩ := hcs
      exact ⟨zs, .inr ⟨_, rfl, hl, hm, by simpa using hz, hcell, hwz⟩⟩
  have lc0 := w0.lc
  obtain ⟨L0, rfl, R0, wf0, m0⟩ := w0.rd
  clear hA0 hval0
  refine (walk a0 cap0 L0 W R0 wf0 m0 (by simpa using lc0)).mono fun e W' ⟨he, bel⟩ => ?_
  subst he
  exact ⟨_, rfl, _, _, _, [], _, [], hW', trodAll_mk1 (shut_bool Try.underlying4 _), (trodAll_cons_mk (Below.trod laidOut (by kernel_rfl) (of_decide_eq_true (by kernel_rfl)) k0 bel lt0) trodAll_mk0), rfl, bel.frame _, fun h => by cases h⟩

theorem over : Rows.fnPartsOfSumsRow.holds Try.pinned (OpenSpec.ofChange Rows.fnPartsOfSumsSpec) :=
  OpenClaim.holds_of_wide 9 Try.f9 rfl rfl rfl rfl rfl rfl rfl ⟨rfl, rfl, rfl, rfl, rfl⟩ rfl rfl rfl rfl rfl (by kernel_rfl) Try.func9 (by kernel_rfl)
    (of_decide_eq_true (by kernel_rfl)) (by unfold Func.isWrapper; first | (rw [if_pos (by decide +kernel)]; kernel_rfl) | (rw [if_neg (by decide +kernel)]; exact ⟨rfl, rfl⟩))
    (fun os started H enc _ => lifted os started H enc)

/-- the given statement -/
theorem proved : Rows.FnPartsOfSumsSaid := over
end Go.Proofs.Ytgbkaahmmpgjfaa.fnPartsOfSums
