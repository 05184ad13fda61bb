/-
  'laws.FnExactBoxRow' returns true for all arguments, and they read as they did. No condition.
-/
import Derived.Test.YtcjnmconehfbgaaRows
import Derived.Test.YtcjnmconehfbgaaW111
import Derived.Test.YtcjnmconehfbgaaL1
import Derived.WalkKit
import Derived.ProofKit
import Derived.OpenShut
import Derived.ShutString
import Derived.ChangeOld
import Derived.Below
namespace Go.Proofs.Ytcjnmconehfbgaa.fnExactBoxRow
open Go.ChangeShapes Go.WideShapes Go.ChangeAt Go.RowKit NP
open Go.ChangeMaps (open_string shut_string)
set_option linter.unusedVariables false

theorem walk (w0 : World) (n0 : Int) (wf0 : (Lit.int .i64 n0).wf = true) (n1 : Int) (wf1 : (Lit.int .i64 n1).wf = true) :
    Calls Try.prog 7 #[.int .i64 n0, .int .i64 n1] w0 fun e w' => e = .returned (.bool true) ∧ Below w0.heap.size w0 w' := by
  have hA : Below w0.heap.size w0 w0 := Below.refl _ _
  have hF : (brF n0 n1).length ≤ 1048576 := by have := brF_len n0 n1; omega
  go_enter Try.func7, Try.ntmps7
  go_wp2_with fail
  refine (sBoxRow_any n0 n1 _).mono ?_
  rintro e w1 ⟨a_r0, c_r0, rfl, r0, hb⟩
  replace hA := hA.trans (hb.mono hA.size)
  have hz1 := hb.size
  clear hb
  go_wp2_with fail
  refine (iBoxRow_any n0 n1 _).mono ?_
  rintro e w2 ⟨a_g0, c_g0, rfl, g0, hb⟩
  replace r0 := r0.below (hb.mono r0.le)
  replace hA := hA.trans (hb.mono hA.size)
  have hz2 := hb.size
  clear hb
  go_wp2_with fail
  refine (eqIntS_same _ _ _ _ _ _ _ _ g0.rd r0.rd (by omega)).mono ?_
  rintro e w3 ⟨rfl, hd⟩
  have hb : Below w2.heap.size w2 w3 := Dr.below hd _
  clear hd
  replace r0 := r0.below (hb.mono r0.le)
  replace g0 := g0.below (hb.mono g0.le)
  replace hA := hA.trans (hb.mono hA.size)
  have hz3 := hb.size
  clear hb
  go_wp2_with fail
  refine (markIntS_any _ _ _ _ _ _ _ g0 (by omega) (by omega) (by omega)).mono ?_
  rintro e w4 ⟨rfl, g0', hg⟩
  have hbm := g0.belowMark (by omega) hg
  replace r0 := r0.below (hbm.mono (by omega))
  replace hA := hA.trans (hbm.mono (by omega))
  have hz4 := hbm.size
  clear hbm hg g0
  have g0 := g0'
  clear g0'
  go_wp2_with fail
  refine (heldIntS_any _ _ _ _ _ _ g0.rd (by omega) (by omega) (by omega)).mono ?_
  rintro e w' ⟨rfl, rfl⟩
  go_wp2_with fail
  refine (iBoxRow_any n0 n1 _).mono ?_
  rintro e w5 ⟨a_h_0, c_h_0, rfl, h_0, hb⟩
  replace r0 := r0.below (hb.mono r0.le)
  replace g0 := g0.below (hb.mono g0.le)
  replace hA := hA.trans (hb.mono hA.size)
  have hz5 := hb.size
  clear hb
  go_wp2_with fail
  refine (eqIntS_same _ _ _ _ _ _ _ _ h_0.rd r0.rd (by omega)).mono ?_
  rintro e w6 ⟨rfl, hd⟩
  have hb : Below w5.heap.size w5 w6 := Dr.below hd _
  clear hd
  replace r0 := r0.below (hb.mono r0.le)
  replace g0 := g0.below (hb.mono g0.le)
  replace h_0 := h_0.below (hb.mono h_0.le)
  replace hA := hA.trans (hb.mono hA.size)
  have hz6 := hb.size
  clear hb
  go_wp2_with fail
  refine (heldIntS_any _ _ _ _ _ _ g0.rd (by omega) (by omega) (by omega)).mono ?_
  rintro e w' ⟨rfl, rfl⟩
  go_wp2_with fail
  go_ret
  exact ⟨rfl, hA⟩

theorem own : ownKnob Try.prog.godebug = none := by kernel_rfl
theorem laidOut : laidOutB Try.prog = true := by kernel_rfl

set_option maxRecDepth 100000 in
theorem lifted (os : Os) (started : os.Started) (H : Type) (enc : TypeId × Value → H) :
    ReturnsInHanded {} Try.checked os 7 .any (Rows.fnExactBoxRowSpec.pre6 enc Try.prog Try.f7 Rows.fnExactBoxRowRow.domain false) (Rows.fnExactBoxRowSpec.post enc Try.prog Try.f7 false true false false) := by
  refine returnsInHanded_of_change (C := Try.checked) own started (by kernel_rfl) Try.func7
    (ChangeSpec.witness6 (enc := enc) (C := Try.checked) false ⟨#[], #[.int .i64 0, .int .i64 0], []⟩ 8 (by kernel_rfl) (by kernel_rfl) (by kernel_rfl) (by kernel_rfl)) ?_
  intro W base args ds gs before hval0 hW hcnd _
  have hval : ∀ (j : Nat) t v, Try.f7.params[j]? = some t → args[j]? = some v → Value.okWide Try.prog W .any base t v := hval0
  have hW' := hW
  obtain ⟨p, q, hA0, hV, rfl, hfz, hnd⟩ := hW
  have hA : DataW.TrodAll enc Try.prog W 0 (fun _ => true) true Try.f7.params.toList args.toList ds p := hA0
  rw [Try.params7] at hA hval
  obtain ⟨v0, vs0, d0, ds0, p0, q0, hargs, rfl, rfl, h0, r0⟩ := trodAll_cons hA
  obtain ⟨v1, vs1, d1, ds1, p1, q1, rfl, rfl, rfl, h1, r1⟩ := trodAll_cons r0
  obtain ⟨rfl, rfl, rfl⟩ := trodAll_nil r1
  obtain rfl : args = #[v0, v1] := by cases args; simp_all
  obtain ⟨rfl, rfl⟩ := trodVars_none hV
  obtain ⟨n0, rfl, rfl, rfl, wf0⟩ := open_int Try.underlying3 (hval 0 3 v0 rfl rfl) h0
  obtain ⟨n1, rfl, rfl, rfl, wf1⟩ := open_int Try.underlying3 (hval 1 3 v1 rfl rfl) h1
  clear hA0 hval0
  refine (walk W n0 wf0 n1 wf1).mono fun e W' ⟨he, bel⟩ => ?_
  subst he
  exact ⟨_, rfl, _, _, _, [], _, [], hW', trodAll_mk1 (shut_bool Try.underlying4 _), (trodAll_cons_mk (shut_int Try.underlying3 wf0) (trodAll_cons_mk (shut_int Try.underlying3 wf1) trodAll_mk0)), rfl, bel.frame _, fun h => by cases h⟩

theorem over : Rows.fnExactBoxRowRow.holds Try.pinned (OpenSpec.ofChange Rows.fnExactBoxRowSpec) :=
  OpenClaim.holds_of_wide 7 Try.f7 rfl rfl rfl rfl rfl rfl rfl ⟨rfl, rfl, rfl, rfl, rfl⟩ rfl rfl rfl rfl rfl (by kernel_rfl) Try.func7 (by kernel_rfl)
    (of_decide_eq_true (by kernel_rfl)) (by unfold Func.isWrapper; first | (rw [if_pos (by decide +kernel)]; kernel_rfl) | (rw [if_neg (by decide +kernel)]; exact ⟨rfl, rfl⟩))
    (fun os started H enc _ => lifted os started H enc)

/-- the given statement -/
theorem proved : Rows.FnExactBoxRowSaid := over
end Go.Proofs.Ytcjnmconehfbgaa.fnExactBoxRow
