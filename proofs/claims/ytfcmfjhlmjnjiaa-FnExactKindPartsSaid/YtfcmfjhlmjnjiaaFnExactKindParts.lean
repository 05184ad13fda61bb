/-
  'laws.FnExactKindParts' returns true for all arguments, and they read as they did. No condition.
-/
import Derived.Test.YtfcmfjhlmjnjiaaRows
import Derived.Test.YtfcmfjhlmjnjiaaW74
import Derived.Test.YtfcmfjhlmjnjiaaLL1
import Derived.WalkKit
import Derived.ProofKit
import Derived.OpenShut
import Derived.ShutString
import Derived.ChangeOld
import Derived.Below
namespace Go.Proofs.Ytfcmfjhlmjnjiaa.fnExactKindParts
open Go.ChangeShapes Go.WideShapes Go.ChangeAt Go.RowKit NP
open Go.ChangeMaps (open_string shut_string)
set_option linter.unusedVariables false

theorem walk (w0 : World) (s0 : ByteArray) (m0 : s0.size ≤ maxLen) (n1 : Int) (wf1 : (Lit.int .i64 n1).wf = true) :
    Calls Try.prog 3 #[.string s0, .int .i64 n1] w0 fun e w' => e = .returned (.bool true) ∧ Below w0.heap.size w0 w' := by
  have ms0 := m0
  unfold maxLen at ms0
  by_cases hs0 : s0.size ≤ 1048576
  · skip
    have hA : Below w0.heap.size w0 w0 := Below.refl _ _
    have hln := kpF_few s0.data.toList n1
    have hcn := kpF_cnt s0.data.toList n1
    have hil := kpF_short s0.data.toList n1
    obtain ⟨FF, hFF⟩ : ∃ FF, FF = kpF s0.data.toList n1 := ⟨_, rfl⟩
    have HS := Lib.hid (fun w => sKindParts_any s0 n1 w)
    have HI := Lib.hid (fun w => iKindParts_any s0 m0 n1 w)
    rw [← hFF] at hln hcn hil
    simp only [← hFF] at HS HI
    clear hFF
    go_enter Try.func3, Try.ntmps3
    go_wp2_with fail
    refine (HS.out _).mono ?_
    rintro e w1 ⟨a_r, c_r, vr, rfl, r0, hb⟩
    replace hA := hA.trans (hb.mono hA.size)
    have hz1 := hb.size
    clear hb
    go_wp2_with fail
    refine (HI.out _).mono ?_
    rintro e w2 ⟨a_g, c_g, vg, rfl, g0, hb⟩
    replace r0 := r0.below (hb.mono r0.le)
    replace hA := hA.trans (hb.mono hA.size)
    have hz2 := hb.size
    clear hb
    go_wp2_with fail
    refine (eqIntSS_same _ _ _ _ _ _ FF _ g0.rd r0.rd (by omega) hil).mono ?_
    rintro e w3 ⟨rfl, hd⟩
    have hb : Below w2.heap.size w2 w3 := Dr.below hd _
    clear hd
    replace r0 := r0.below (hb.mono r0.le)
    replace g0 := g0.below (hb.mono g0.le)
    replace hA := hA.trans (hb.mono hA.size)
    have hz3 := hb.size
    clear hb
    go_wp2_with fail
    refine (markIntSS_any _ _ _ _ 1 FF _ _ g0 (by omega) (by omega) (by omega) (by omega) (by omega)).mono ?_
    rintro e w4 ⟨rfl, gm, hb⟩
    replace r0 := r0.below (hb.mono (by omega))
    replace hA := hA.trans (hb.mono (by omega))
    have hz4 := hb.size
    clear hb g0
    have hge : decide ((1 : Int) + (cntLL FF : Int) < 0) = false := decide_eq_false (by omega)
    have hne : ((1 : Int) + (cntLL FF : Int) != (1 : Int) + (cntLL FF : Int)) = false := by simp
    generalize hC : (1 : Int) + (cntLL FF : Int) = C at *
    have HC := Lib.hid hC
    clear hC
    go_wp2_with fail
    refine (heldIntSS_any _ _ _ 1 FF _ gm.rd (by omega) (by omega) (by omega) (by omega)).mono ?_
    rintro e w' ⟨rfl, rfl⟩
    rw [HC.out]
    go_wp2_with fail
    refine (HI.out _).mono ?_
    rintro e w5 ⟨a_h, c_h, vh, rfl, h0, hb⟩
    replace r0 := r0.below (hb.mono r0.le)
    replace gm := gm.below (hb.mono gm.le)
    replace hA := hA.trans (hb.mono hA.size)
    have hz5 := hb.size
    clear hb
    go_wp2_with fail
    refine (eqIntSS_same _ _ _ _ _ _ FF _ h0.rd r0.rd (by omega) hil).mono ?_
    rintro e w6 ⟨rfl, hd⟩
    have hb : Below w5.heap.size w5 w6 := Dr.below hd _
    clear hd
    replace gm := gm.below (hb.mono gm.le)
    replace hA := hA.trans (hb.mono hA.size)
    have hz6 := hb.size
    clear hb
    go_wp2_with fail
    refine (heldIntSS_any _ _ _ 1 FF _ gm.rd (by omega) (by omega) (by omega) (by omega)).mono ?_
    rintro e w' ⟨rfl, rfl⟩
    rw [HC.out]
    go_wp2_with fail
    go_ret
    exact ⟨rfl, hA⟩
  · have hs0' : 1048576 < s0.size := by omega
    go_enter Try.func3, Try.ntmps3
    go_wp2_with fail
    go_ret
    exact ⟨rfl, Below.refl _ _⟩

theorem own : ownKnob Try.prog.godebug = none := by kernel_rfl
theorem laidOut : laidOutB Try.prog = true := by kernel_rfl

set_option maxRecDepth 100000 in
theorem lifted (os : Os) (started : os.Started) (H : Type) (enc : TypeId × Value → H) :
    ReturnsInHanded {} Try.checked os 3 .any (Rows.fnExactKindPartsSpec.pre6 enc Try.prog Try.f3 Rows.fnExactKindPartsRow.domain false) (Rows.fnExactKindPartsSpec.post enc Try.prog Try.f3 false true false false) := by
  refine returnsInHanded_of_change (C := Try.checked) own started (by kernel_rfl) Try.func3
    (ChangeSpec.witness6 (enc := enc) (C := Try.checked) false ⟨#[], #[.string ByteArray.empty, .int .i64 0], []⟩ 8 (by kernel_rfl) (by kernel_rfl) (by kernel_rfl) (by kernel_rfl)) ?_
  intro W base args ds gs before hval0 hW hcnd _
  have hval : ∀ (j : Nat) t v, Try.f3.params[j]? = some t → args[j]? = some v → Value.okWide Try.prog W .any base t v := hval0
  have hW' := hW
  obtain ⟨p, q, hA0, hV, rfl, hfz, hnd⟩ := hW
  have hA : DataW.TrodAll enc Try.prog W 0 (fun _ => true) true Try.f3.params.toList args.toList ds p := hA0
  rw [Try.params3] at hA hval
  obtain ⟨v0, vs0, d0, ds0, p0, q0, hargs, rfl, rfl, h0, r0⟩ := trodAll_cons hA
  obtain ⟨v1, vs1, d1, ds1, p1, q1, rfl, rfl, rfl, h1, r1⟩ := trodAll_cons r0
  obtain ⟨rfl, rfl, rfl⟩ := trodAll_nil r1
  obtain rfl : args = #[v0, v1] := by cases args; simp_all
  obtain ⟨rfl, rfl⟩ := trodVars_none hV
  obtain ⟨s0, rfl, rfl, rfl, m0⟩ := open_string Try.underlying9 (hval 0 9 v0 rfl rfl) h0
  obtain ⟨n1, rfl, rfl, rfl, wf1⟩ := open_int Try.underlying3 (hval 1 3 v1 rfl rfl) h1
  clear hA0 hval0
  refine (walk W s0 m0 n1 wf1).mono fun e W' ⟨he, bel⟩ => ?_
  subst he
  exact ⟨_, rfl, _, _, _, [], _, [], hW', trodAll_mk1 (shut_bool Try.underlying4 _), (trodAll_cons_mk (shut_string Try.underlying9 m0) (trodAll_cons_mk (shut_int Try.underlying3 wf1) trodAll_mk0)), rfl, bel.frame _, fun h => by cases h⟩

theorem over : Rows.fnExactKindPartsRow.holds Try.pinned (OpenSpec.ofChange Rows.fnExactKindPartsSpec) :=
  OpenClaim.holds_of_wide 3 Try.f3 rfl rfl rfl rfl rfl rfl rfl ⟨rfl, rfl, rfl, rfl, rfl⟩ rfl rfl rfl rfl rfl (by kernel_rfl) Try.func3 (by kernel_rfl)
    (of_decide_eq_true (by kernel_rfl)) (by unfold Func.isWrapper; first | (rw [if_pos (by decide +kernel)]; kernel_rfl) | (rw [if_neg (by decide +kernel)]; exact ⟨rfl, rfl⟩))
    (fun os started H enc _ => lifted os started H enc)

/-- the given statement -/
theorem proved : Rows.FnExactKindPartsSaid := over
end Go.Proofs.Ytfcmfjhlmjnjiaa.fnExactKindParts
