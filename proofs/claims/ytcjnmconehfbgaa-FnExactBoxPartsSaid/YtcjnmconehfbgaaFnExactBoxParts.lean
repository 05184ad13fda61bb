/-
  'laws.FnExactBoxParts' returns true for all arguments, and they read as they did. No condition.
-/
import Derived.Test.YtcjnmconehfbgaaRows
import Derived.Test.YtcjnmconehfbgaaZBXP1
import Derived.Test.YtcjnmconehfbgaaZBXP2
import Derived.Test.YtcjnmconehfbgaaZBXP3
import Derived.Test.YtcjnmconehfbgaaZBXP4
import Derived.Test.YtcjnmconehfbgaaZBXP5
import Derived.Test.YtcjnmconehfbgaaZBXP6
import Derived.Test.YtcjnmconehfbgaaZBXP7
import Derived.Test.YtcjnmconehfbgaaZBXP8
import Derived.WalkKit
import Derived.ProofKit
import Derived.OpenShut
import Derived.ShutString
import Derived.ChangeOld
import Derived.Below
namespace Go.Proofs.Ytcjnmconehfbgaa.fnExactBoxParts
open Go.ChangeShapes Go.WideShapes Go.ChangeAt Go.RowKit NP
open Go.ChangeMaps (open_string shut_string)
set_option linter.unusedVariables false

theorem walk (w0 : World) (n0 : Int) (wf0 : (Lit.int .i64 n0).wf = true) (n1 : Int) (wf1 : (Lit.int .i64 n1).wf = true) :
    Calls Try.prog 9 #[.int .i64 n0, .int .i64 n1] w0 fun e w' => e = .returned (.bool true) ∧ Below w0.heap.size w0 w' := by
  have hA : Below w0.heap.size w0 w0 := Below.refl _ _
  have hln := bpF_few n0 n1
  have hcn := bpF_cnt n0 n1
  have hil := bpF_short n0 n1
  obtain ⟨FF, hFF⟩ : ∃ FF, FF = bpF n0 n1 := ⟨_, rfl⟩
  have HS := Lib.hid (fun w => sBoxParts_any n0 n1 w)
  have HI := Lib.hid (fun w => iBoxParts_any n0 n1 w)
  rw [← hFF] at hln hcn hil
  simp only [← hFF] at HS HI
  clear hFF
  go_enter Try.func9, Try.ntmps9
  go_wp2_with fail
  refine (HS.out _).mono ?_
  rintro e w1 ⟨a_r, c_r, vr, rfl, r0, hb⟩
  replace hA := hA.trans (hb.mono hA.size)
  have hz1 := hb.size
  clear hb
  go_wp2_with fail
  refine (HI.out _).mono ?_
  rintro e w2 ⟨a_g, c_g, vg, rfl, g0, hb⟩
  replace r0 := r0.below (hb.mono r0.le)
  replace hA := hA.trans (hb.mono hA.size)
  have hz2 := hb.size
  clear hb
  go_wp2_with fail
  refine (eqIntSS_same _ _ _ _ _ _ FF _ g0.rd r0.rd (by omega) hil).mono ?_
  rintro e w3 ⟨rfl, hd⟩
  have hb : Below w2.heap.size w2 w3 := Dr.below hd _
  clear hd
  replace r0 := r0.below (hb.mono r0.le)
  replace g0 := g0.below (hb.mono g0.le)
  replace hA := hA.trans (hb.mono hA.size)
  have hz3 := hb.size
  clear hb
  go_wp2_with fail
  refine (markIntSS_any _ _ _ _ 1 FF _ _ g0 (by omega) (by omega) (by omega) (by omega) (by omega)).mono ?_
  rintro e w4 ⟨rfl, gm, hb⟩
  replace r0 := r0.below (hb.mono (by omega))
  replace hA := hA.trans (hb.mono (by omega))
  have hz4 := hb.size
  clear hb g0
  have hge : decide ((1 : Int) + (cntLL FF : Int) < 0) = false := decide_eq_false (by omega)
  have hne : ((1 : Int) + (cntLL FF : Int) != (1 : Int) + (cntLL FF : Int)) = false := by simp
  generalize hC : (1 : Int) + (cntLL FF : Int) = C at *
  have HC := Lib.hid hC
  clear hC
  go_wp2_with fail
  refine (heldIntSS_any _ _ _ 1 FF _ gm.rd (by omega) (by omega) (by omega) (by omega)).mono ?_
  rintro e w' ⟨rfl, rfl⟩
  rw [HC.out]
  go_wp2_with fail
  refine (HI.out _).mono ?_
  rintro e w5 ⟨a_h, c_h, vh, rfl, h0, hb⟩
  replace r0 := r0.below (hb.mono r0.le)
  replace gm := gm.below (hb.mono gm.le)
  replace hA := hA.trans (hb.mono hA.size)
  have hz5 := hb.size
  clear hb
  go_wp2_with fail
  refine (eqIntSS_same _ _ _ _ _ _ FF _ h0.rd r0.rd (by omega) hil).mono ?_
  rintro e w6 ⟨rfl, hd⟩
  have hb : Below w5.heap.size w5 w6 := Dr.below hd _
  clear hd
  replace gm := gm.below (hb.mono gm.le)
  replace hA := hA.trans (hb.mono hA.size)
  have hz6 := hb.size
  clear hb
  go_wp2_with fail
  refine (heldIntSS_any _ _ _ 1 FF _ gm.rd (by omega) (by omega) (by omega) (by omega)).mono ?_
  rintro e w' ⟨rfl, rfl⟩
  rw [HC.out]
  go_wp2_with fail
  go_ret
  exact ⟨rfl, hA⟩

theorem own : ownKnob Try.prog.godebug = none := by kernel_rfl
theorem laidOut : laidOutB Try.prog = true := by kernel_rfl

set_option maxRecDepth 100000 in
theorem lifted (os : Os) (started : os.Started) (H : Type) (enc : TypeId × Value → H) :
    ReturnsInHanded {} Try.checked os 9 .any (Rows.fnExactBoxPartsSpec.pre6 enc Try.prog Try.f9 Rows.fnExactBoxPartsRow.domain false) (Rows.fnExactBoxPartsSpec.post enc Try.prog Try.f9 false true false false) := by
  refine returnsInHanded_of_change (C := Try.checked) own started (by kernel_rfl) Try.func9
    (ChangeSpec.witness6 (enc := enc) (C := Try.checked) false ⟨#[], #[.int .i64 0, .int .i64 0], []⟩ 8 (by kernel_rfl) (by kernel_rfl) (by kernel_rfl) (by kernel_rfl)) ?_
  intro W base args ds gs before hval0 hW hcnd _
  have hval : ∀ (j : Nat) t v, Try.f9.params[j]? = some t → args[j]? = some v → Value.okWide Try.prog W .any base t v := hval0
  have hW' := hW
  obtain ⟨p, q, hA0, hV, rfl, hfz, hnd⟩ := hW
  have hA : DataW.TrodAll enc Try.prog W 0 (fun _ => true) true Try.f9.params.toList args.toList ds p := hA0
  rw [Try.params9] at hA hval
  obtain ⟨v0, vs0, d0, ds0, p0, q0, hargs, rfl, rfl, h0, r0⟩ := trodAll_cons hA
  obtain ⟨v1, vs1, d1, ds1, p1, q1, rfl, rfl, rfl, h1, r1⟩ := trodAll_cons r0
  obtain ⟨rfl, rfl, rfl⟩ := trodAll_nil r1
  obtain rfl : args = #[v0, v1] := by cases args; simp_all
  obtain ⟨rfl, rfl⟩ := trodVars_none hV
  obtain ⟨n0, rfl, rfl, rfl, wf0⟩ := open_int Try.underlying3 (hval 0 3 v0 rfl rfl) h0
  obtain ⟨n1, rfl, rfl, rfl, wf1⟩ := open_int Try.underlying3 (hval 1 3 v1 rfl rfl) h1
  clear hA0 hval0
  refine (walk W n0 wf0 n1 wf1).mono fun e W' ⟨he, bel⟩ => ?_
  subst he
  exact ⟨_, rfl, _, _, _, [], _, [], hW', trodAll_mk1 (shut_bool Try.underlying4 _), (trodAll_cons_mk (shut_int Try.underlying3 wf0) (trodAll_cons_mk (shut_int Try.underlying3 wf1) trodAll_mk0)), rfl, bel.frame _, fun h => by cases h⟩

theorem over : Rows.fnExactBoxPartsRow.holds Try.pinned (OpenSpec.ofChange Rows.fnExactBoxPartsSpec) :=
  OpenClaim.holds_of_wide 9 Try.f9 rfl rfl rfl rfl rfl rfl rfl ⟨rfl, rfl, rfl, rfl, rfl⟩ rfl rfl rfl rfl rfl (by kernel_rfl) Try.func9 (by kernel_rfl)
    (of_decide_eq_true (by kernel_rfl)) (by unfold Func.isWrapper; first | (rw [if_pos (by decide +kernel)]; kernel_rfl) | (rw [if_neg (by decide +kernel)]; exact ⟨rfl, rfl⟩))
    (fun os started H enc _ => lifted os started H enc)

/-- the given statement -/
theorem proved : Rows.FnExactBoxPartsSaid := over
end Go.Proofs.Ytcjnmconehfbgaa.fnExactBoxParts
