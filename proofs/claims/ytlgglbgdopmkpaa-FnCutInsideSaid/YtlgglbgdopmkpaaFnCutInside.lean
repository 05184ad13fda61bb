/-
  'laws.FnCutInside' returns true for every code, and the code reads as it did. No condition.
-/
import Derived.Test.YtlgglbgdopmkpaaRows
import Derived.Test.YtlgglbgdopmkpaaD12
import Derived.Test.YtlgglbgdopmkpaaM30
import Derived.Test.YtlgglbgdopmkpaaL1
import Derived.Test.YtlgglbgdopmkpaaW4
import Derived.Test.YtlgglbgdopmkpaaW56
import Derived.Test.YtlgglbgdopmkpaaW48
import Derived.WalkKit
import Derived.ProofKit
import Derived.OpenShut
import Derived.ShutString
import Derived.ChangeOld
import Derived.Below
namespace Go.Proofs.Ytlgglbgdopmkpaa.fnCutInside
open Go.ChangeShapes Go.WideShapes Go.ChangeAt Go.RowKit NP
open Go.ChangeMaps (open_string shut_string)
set_option linter.unusedVariables false

set_option maxHeartbeats 1600000 in
theorem walk (a : Option Addr) (c : Nat) (bs : List Int) (w0 : World) (h : Rd w0 w0.heap.size a (bs.map (Value.int .u8))) (hb : ∀ n ∈ bs, (Lit.int .u8 n).wf = true) (m : bs.length ≤ maxLen) (hc : bs.length ≤ c) :
    Calls Try.prog 10 #[.slice a bs.length c] w0 fun e w' => e = .returned (.bool true) ∧ Below w0.heap.size w0 w' := by
  unfold maxLen at m
  by_cases hl : bs.length ≤ 1048576
  · go_enter Try.func10, Try.ntmps10
    go_wp2_with fail
    refine (DrawCutInside_any a c _ bs _ h (Nat.le_refl _) hb hl hc).mono ?_
    rintro e w1 ⟨a1, c1, P, a2, c2, Q, rfl, p, q, hs1, hs2, hA⟩
    have hP := hs1.1
    have hQ := hs2.1
    clear h hb hl hc m hs1 hs2
    cases ht : cutOk P Q with
    | true =>
      obtain ⟨hp, hq, _⟩ := cutOk_out ht
      obtain ⟨f1, f2, f3, f4, f5, f6⟩ := cut_facts ht
      have HT := Lib.hid ht
      have HE1 : Hid (cutLF P Q = cutL P Q) := Lib.hid (cutLF_yes ht)
      have HE2 : Hid (cutHF P Q = cutH P Q) := Lib.hid (cutHF_yes ht)
      have hvl := valid_cutL hp hq
      have hvh := valid_cutH ht
      have HFA := Lib.hid (valid_fits hvl)
      have HFB := Lib.hid (valid_fits hvh)
      have HFP := Lib.hid (valid_fits hp)
      have HFQ := Lib.hid (valid_fits hq)
      have hlA := (valid_bd hvl)
      have hlB := (valid_bd hvh)
      have hbp := valid_bd hp
      have hbq := valid_bd hq
      have hlenA := hlA.2.2.2
      have hlenB := hlB.2.2.2
      obtain ⟨sa, hsa⟩ : ∃ s, s = sumL (cutL P Q) := ⟨_, rfl⟩
      obtain ⟨sb, hsb⟩ : ∃ s, s = sumL (cutH P Q) := ⟨_, rfl⟩
      obtain ⟨sp, hsp⟩ : ∃ s, s = sumL P := ⟨_, rfl⟩
      obtain ⟨sq, hsq⟩ : ∃ s, s = sumL Q := ⟨_, rfl⟩
      rw [← hsa] at hlA f1
      rw [← hsb] at hlB f1
      rw [← hsp] at hbp f1
      rw [← hsq] at hbq f1
      obtain ⟨t, ht1⟩ : ∃ t, IntKind.i64.wrap (sa + sb) = t := ⟨_, rfl⟩
      have ht2 : IntKind.i64.wrap (sp + sq) = t := by rw [← f1]; exact ht1
      have htt : (t == t) = true := beq_iff_eq.2 rfl
      have HSA := Lib.hid hsa
      have HSB := Lib.hid hsb
      have HSP := Lib.hid hsp
      have HSQ := Lib.hid hsq
      have HI1 := Lib.hid f2
      have HI2 := Lib.hid f3
      have HI3 := Lib.hid f4
      have HI4 := Lib.hid f5
      obtain ⟨z, hz⟩ : ∃ z, z = decide (cutL P Q = Q) := ⟨_, rfl⟩
      rw [← hz] at f6
      have HI5 := Lib.hid f6
      have HZ := Lib.hid hz
      have hzz : (z == z) = true := by simp
      clear ht hp hq f1 f2 f3 f4 f5 f6 hvl hvh hlA hlB hbp hbq hsa hsb hsp hsq hz
      go_wp2_with fail
      refine (iCutInside_any _ _ _ _ _ _ P Q _ p.rd q.rd (by omega) (by omega) (by omega) (by omega)).mono ?_
      rintro e w2 ⟨a_ot, c_ot, a_ou, c_ou, md_ot, rfl, ot, ou, -, -, hb⟩
      replace ot := ot.more
      replace p := p.below (hb.mono p.le)
      replace q := q.below (hb.mono q.le)
      replace hA := hA.trans (hb.mono hA.size)
      have hz2 := hb.size
      clear hb
      rw [HE1.out] at ot ⊢
      rw [HE2.out] at ou ⊢
      rw [HT.out]
      go_wp2_with fail
      refine (sCutInside_any _ _ _ _ _ _ P Q _ p.rd q.rd (by omega) (by omega) (by omega) (by omega)).mono ?_
      rintro e w3 ⟨a_sp_, c_sp_, a_sq_, c_sq_, rfl, sp_, sq_, hb⟩
      replace p := p.below (hb.mono p.le)
      replace q := q.below (hb.mono q.le)
      replace ot := ot.below (hb.mono ot.le)
      replace ou := ou.below (hb.mono ou.le)
      replace hA := hA.trans (hb.mono hA.size)
      have hz3 := hb.size
      clear hb
      rw [HE1.out] at sp_ ⊢
      rw [HE2.out] at sq_ ⊢
      rw [HT.out]
      go_wp2_with fail
      refine (equalInts_same _ _ _ _ _ _ _ _ ot.rd sp_.rd (by omega)).mono ?_
      rintro e w4 ⟨rfl, hd⟩
      have hb : Below w3.heap.size w3 w4 := Dr.below hd _
      clear hd
      replace p := p.below (hb.mono p.le)
      replace q := q.below (hb.mono q.le)
      replace ot := ot.below (hb.mono ot.le)
      replace ou := ou.below (hb.mono ou.le)
      replace sp_ := sp_.below (hb.mono sp_.le)
      replace sq_ := sq_.below (hb.mono sq_.le)
      replace hA := hA.trans (hb.mono hA.size)
      have hz4 := hb.size
      clear hb
      go_wp2_with fail
      refine (equalInts_same _ _ _ _ _ _ _ _ ou.rd sq_.rd (by omega)).mono ?_
      rintro e w5 ⟨rfl, hd⟩
      have hb : Below w4.heap.size w4 w5 := Dr.below hd _
      clear hd
      replace p := p.below (hb.mono p.le)
      replace q := q.below (hb.mono q.le)
      replace ot := ot.below (hb.mono ot.le)
      replace ou := ou.below (hb.mono ou.le)
      replace sp_ := sp_.below (hb.mono sp_.le)
      replace sq_ := sq_.below (hb.mono sq_.le)
      replace hA := hA.trans (hb.mono hA.size)
      have hz5 := hb.size
      clear hb
      go_wp2_with fail
      refine (total_any _ _ _ (cutL P Q) _ ot.rd HFA.out (by omega)).mono ?_
      rintro e w' ⟨rfl, rfl⟩
      rw [← HSA.out]
      go_wp2_with fail
      refine (total_any _ _ _ (cutH P Q) _ ou.rd HFB.out (by omega)).mono ?_
      rintro e w' ⟨rfl, rfl⟩
      rw [← HSB.out]
      go_wp2_with fail
      refine (total_any _ _ _ P _ p.rd HFP.out (by omega)).mono ?_
      rintro e w' ⟨rfl, rfl⟩
      rw [← HSP.out]
      go_wp2_with fail
      refine (total_any _ _ _ Q _ q.rd HFQ.out (by omega)).mono ?_
      rintro e w' ⟨rfl, rfl⟩
      rw [← HSQ.out]
      go_wp2_with fail
      refine (iHasInside_any _ _ _ _ _ _ P (cutL P Q) _ p.rd ot.rd (by omega) (by omega) (by omega) (by omega)).mono ?_
      rintro e w6 ⟨rfl, hb⟩
      replace p := p.below (hb.mono p.le)
      replace q := q.below (hb.mono q.le)
      replace ot := ot.below (hb.mono ot.le)
      replace ou := ou.below (hb.mono ou.le)
      replace sp_ := sp_.below (hb.mono sp_.le)
      replace sq_ := sq_.below (hb.mono sq_.le)
      replace hA := hA.trans (hb.mono hA.size)
      have hz6 := hb.size
      clear hb
      rw [HI1.out]
      go_wp2_with fail
      refine (iHasInside_any _ _ _ _ _ _ Q (cutL P Q) _ q.rd ot.rd (by omega) (by omega) (by omega) (by omega)).mono ?_
      rintro e w7 ⟨rfl, hb⟩
      replace p := p.below (hb.mono p.le)
      replace q := q.below (hb.mono q.le)
      replace ot := ot.below (hb.mono ot.le)
      replace ou := ou.below (hb.mono ou.le)
      replace sp_ := sp_.below (hb.mono sp_.le)
      replace sq_ := sq_.below (hb.mono sq_.le)
      replace hA := hA.trans (hb.mono hA.size)
      have hz7 := hb.size
      clear hb
      rw [HI2.out]
      go_wp2_with fail
      refine (iHasInside_any _ _ _ _ _ _ (cutH P Q) P _ ou.rd p.rd (by omega) (by omega) (by omega) (by omega)).mono ?_
      rintro e w8 ⟨rfl, hb⟩
      replace p := p.below (hb.mono p.le)
      replace q := q.below (hb.mono q.le)
      replace ot := ot.below (hb.mono ot.le)
      replace ou := ou.below (hb.mono ou.le)
      replace sp_ := sp_.below (hb.mono sp_.le)
      replace sq_ := sq_.below (hb.mono sq_.le)
      replace hA := hA.trans (hb.mono hA.size)
      have hz8 := hb.size
      clear hb
      rw [HI3.out]
      go_wp2_with fail
      refine (iHasInside_any _ _ _ _ _ _ (cutH P Q) Q _ ou.rd q.rd (by omega) (by omega) (by omega) (by omega)).mono ?_
      rintro e w9 ⟨rfl, hb⟩
      replace p := p.below (hb.mono p.le)
      replace q := q.below (hb.mono q.le)
      replace ot := ot.below (hb.mono ot.le)
      replace ou := ou.below (hb.mono ou.le)
      replace sp_ := sp_.below (hb.mono sp_.le)
      replace sq_ := sq_.below (hb.mono sq_.le)
      replace hA := hA.trans (hb.mono hA.size)
      have hz9 := hb.size
      clear hb
      rw [HI4.out]
      go_wp2_with fail
      refine (iHasInside_any _ _ _ _ _ _ P Q _ p.rd q.rd (by omega) (by omega) (by omega) (by omega)).mono ?_
      rintro e w10 ⟨rfl, hb⟩
      replace p := p.below (hb.mono p.le)
      replace q := q.below (hb.mono q.le)
      replace ot := ot.below (hb.mono ot.le)
      replace ou := ou.below (hb.mono ou.le)
      replace sp_ := sp_.below (hb.mono sp_.le)
      replace sq_ := sq_.below (hb.mono sq_.le)
      replace hA := hA.trans (hb.mono hA.size)
      have hz10 := hb.size
      clear hb
      rw [HI5.out]
      go_wp2_with fail
      refine (equalInts_any _ _ _ _ _ _ (cutL P Q) Q _ ot.rd q.rd (by omega) (by omega)).mono ?_
      rintro e w11 ⟨rfl, hd⟩
      have hb : Below w10.heap.size w10 w11 := Dr.below hd _
      clear hd
      replace p := p.below (hb.mono p.le)
      replace q := q.below (hb.mono q.le)
      replace ot := ot.below (hb.mono ot.le)
      replace ou := ou.below (hb.mono ou.le)
      replace sp_ := sp_.below (hb.mono sp_.le)
      replace sq_ := sq_.below (hb.mono sq_.le)
      replace hA := hA.trans (hb.mono hA.size)
      have hz11 := hb.size
      clear hb
      rw [← HZ.out]
      go_wp2_with fail
      go_ret
      exact ⟨rfl, hA⟩
    | false =>
      have HT := Lib.hid ht
      have HE1 : Hid (cutLF P Q = []) := Lib.hid (cutLF_no ht)
      have HE2 : Hid (cutHF P Q = []) := Lib.hid (cutHF_no ht)
      have hnl : ([] : List Int).length ≤ 4611686018427387904 := by simp
      clear ht
      go_wp2_with fail
      refine (iCutInside_any _ _ _ _ _ _ P Q _ p.rd q.rd (by omega) (by omega) (by omega) (by omega)).mono ?_
      rintro e w2 ⟨a_ot, c_ot, a_ou, c_ou, md_ot, rfl, ot, ou, -, -, hb⟩
      replace ot := ot.more
      replace p := p.below (hb.mono p.le)
      replace q := q.below (hb.mono q.le)
      replace hA := hA.trans (hb.mono hA.size)
      have hz2 := hb.size
      clear hb
      rw [HE1.out] at ot ⊢
      rw [HE2.out] at ou ⊢
      rw [HT.out]
      go_wp2_with fail
      refine (sCutInside_any _ _ _ _ _ _ P Q _ p.rd q.rd (by omega) (by omega) (by omega) (by omega)).mono ?_
      rintro e w3 ⟨a_sp_, c_sp_, a_sq_, c_sq_, rfl, sp_, sq_, hb⟩
      replace p := p.below (hb.mono p.le)
      replace q := q.below (hb.mono q.le)
      replace ot := ot.below (hb.mono ot.le)
      replace ou := ou.below (hb.mono ou.le)
      replace hA := hA.trans (hb.mono hA.size)
      have hz3 := hb.size
      clear hb
      rw [HE1.out] at sp_ ⊢
      rw [HE2.out] at sq_ ⊢
      rw [HT.out]
      go_wp2_with fail
      refine (equalInts_same _ _ _ _ _ _ _ _ ot.rd sp_.rd hnl).mono ?_
      rintro e w4 ⟨rfl, hd⟩
      have hb : Below w3.heap.size w3 w4 := Dr.below hd _
      clear hd
      replace p := p.below (hb.mono p.le)
      replace q := q.below (hb.mono q.le)
      replace ot := ot.below (hb.mono ot.le)
      replace ou := ou.below (hb.mono ou.le)
      replace sp_ := sp_.below (hb.mono sp_.le)
      replace sq_ := sq_.below (hb.mono sq_.le)
      replace hA := hA.trans (hb.mono hA.size)
      have hz4 := hb.size
      clear hb
      go_wp2_with fail
      refine (equalInts_same _ _ _ _ _ _ _ _ ou.rd sq_.rd hnl).mono ?_
      rintro e w5 ⟨rfl, hd⟩
      have hb : Below w4.heap.size w4 w5 := Dr.below hd _
      clear hd
      replace p := p.below (hb.mono p.le)
      replace q := q.below (hb.mono q.le)
      replace ot := ot.below (hb.mono ot.le)
      replace ou := ou.below (hb.mono ou.le)
      replace sp_ := sp_.below (hb.mono sp_.le)
      replace sq_ := sq_.below (hb.mono sq_.le)
      replace hA := hA.trans (hb.mono hA.size)
      have hz5 := hb.size
      clear hb
      go_wp2_with fail
      refine (equalInts_same _ _ _ _ _ _ _ _ ot.rd sp_.rd hnl).mono ?_
      rintro e w6 ⟨rfl, hd⟩
      have hb : Below w5.heap.size w5 w6 := Dr.below hd _
      clear hd
      replace p := p.below (hb.mono p.le)
      replace q := q.below (hb.mono q.le)
      replace ot := ot.below (hb.mono ot.le)
      replace ou := ou.below (hb.mono ou.le)
      replace sp_ := sp_.below (hb.mono sp_.le)
      replace sq_ := sq_.below (hb.mono sq_.le)
      replace hA := hA.trans (hb.mono hA.size)
      have hz6 := hb.size
      clear hb
      go_wp2_with fail
      refine (equalInts_same _ _ _ _ _ _ _ _ ou.rd sq_.rd hnl).mono ?_
      rintro e w7 ⟨rfl, hd⟩
      have hb : Below w6.heap.size w6 w7 := Dr.below hd _
      clear hd
      replace p := p.below (hb.mono p.le)
      replace q := q.below (hb.mono q.le)
      replace ot := ot.below (hb.mono ot.le)
      replace ou := ou.below (hb.mono ou.le)
      replace sp_ := sp_.below (hb.mono sp_.le)
      replace sq_ := sq_.below (hb.mono sq_.le)
      replace hA := hA.trans (hb.mono hA.size)
      have hz7 := hb.size
      clear hb
      go_wp2_with fail
      go_ret
      exact ⟨rfl, hA⟩
  · have hl' : 1048576 < bs.length := by omega
    go_enter Try.func10, Try.ntmps10
    go_wp2_with fail
    go_ret
    exact ⟨rfl, Below.refl _ _⟩

theorem own : ownKnob Try.prog.godebug = none := by kernel_rfl
theorem laidOut : laidOutB Try.prog = true := by kernel_rfl

set_option maxRecDepth 100000 in
theorem lifted (os : Os) (started : os.Started) (H : Type) (enc : TypeId × Value → H) :
    ReturnsInHanded {} Try.checked os 10 .any (Rows.fnCutInsideSpec.pre6 enc Try.prog Try.f10 Rows.fnCutInsideRow.domain false) (Rows.fnCutInsideSpec.post enc Try.prog Try.f10 false true false false) := by
  refine returnsInHanded_of_change (C := Try.checked) own started (by kernel_rfl) Try.func10
    (ChangeSpec.witness6 (enc := enc) (C := Try.checked) false ⟨#[], #[.slice none 0 0], []⟩ 8 (by kernel_rfl) (by kernel_rfl) (by kernel_rfl) (by kernel_rfl)) ?_
  intro W base args ds gs before hval0 hW hcnd _
  have hval : ∀ (j : Nat) t v, Try.f10.params[j]? = some t → args[j]? = some v → Value.okWide Try.prog W .any base t v := hval0
  have hW' := hW
  obtain ⟨p, q, hA0, hV, rfl, hfz, hnd⟩ := hW
  have hA : DataW.TrodAll enc Try.prog W 0 (fun _ => true) true Try.f10.params.toList args.toList ds p := hA0
  rw [Try.params10] at hA hval
  obtain ⟨v0, vs0, d0, ds0, p0, q0, hargs, rfl, rfl, h0, r0⟩ := trodAll_cons hA
  obtain ⟨rfl, rfl, rfl⟩ := trodAll_nil r0
  obtain rfl : args = #[v0] := by cases args; simp_all
  obtain ⟨rfl, rfl⟩ := trodVars_none hV
  obtain ⟨a0, len0, cap0, rfl⟩ := okWide_slice Try.underlying27 (hval 0 27 v0 rfl rfl)
  have k0 := h0
  have lt0 : ∀ x ∈ p0, x.block < W.heap.size := by obtain ⟨m, hm⟩ := k0; exact DataW.trod_lt m _ _ _ hm
  obtain ⟨z0, w0⟩ : ∃ zs, IsRow .u8 W a0 len0 cap0 zs := by
    obtain ⟨fuel, hf⟩ := h0
    rcases open_ints Try.underlying27 Try.underlying5 (by kernel_rfl) hf with ⟨hcs, _⟩ | ⟨x, l, c, zs, hcs, _, hl, hm, hz, _, hcell, hwz⟩
    · simp [Value.cells] at hcs
      obtain ⟨rfl, rfl, rfl⟩ := hcs
      exact ⟨[], .inl ⟨rfl, rfl, rfl, rfl⟩⟩
    · simp [Value.cells] at hcs
      obtain ⟨rfl, rfl, rfl⟩ := hcs
      exact ⟨zs, .inr ⟨_, rfl, hl, hm, by simpa using hz, hcell, hwz⟩⟩
  have lc0 := w0.lc
  obtain ⟨L0, rfl, R0, wf0, m0⟩ := w0.rd
  clear hA0 hval0
  refine (walk a0 cap0 L0 W R0 wf0 m0 (by simpa using lc0)).mono fun e W' ⟨he, bel⟩ => ?_
  subst he
  exact ⟨_, rfl, _, _, _, [], _, [], hW', trodAll_mk1 (shut_bool Try.underlying4 _), (trodAll_cons_mk (Below.trod laidOut (by kernel_rfl) (of_decide_eq_true (by kernel_rfl)) k0 bel lt0) trodAll_mk0), rfl, bel.frame _, fun h => by cases h⟩

theorem over : Rows.fnCutInsideRow.holds Try.pinned (OpenSpec.ofChange Rows.fnCutInsideSpec) :=
  OpenClaim.holds_of_wide 10 Try.f10 rfl rfl rfl rfl rfl rfl rfl ⟨rfl, rfl, rfl, rfl, rfl⟩ rfl rfl rfl rfl rfl (by kernel_rfl) Try.func10 (by kernel_rfl)
    (of_decide_eq_true (by kernel_rfl)) (by unfold Func.isWrapper; first | (rw [if_pos (by decide +kernel)]; kernel_rfl) | (rw [if_neg (by decide +kernel)]; exact ⟨rfl, rfl⟩))
    (fun os started H enc _ => lifted os started H enc)

/-- the given statement -/
theorem proved : Rows.FnCutInsideSaid := over
end Go.Proofs.Ytlgglbgdopmkpaa.fnCutInside
