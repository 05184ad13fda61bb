/-
  'laws.FnExactAllPiles' returns true for all arguments, and they read as they did. No condition.
-/
import Derived.Test.YtgkghebjaedjmaaRows
import Derived.Test.YtgkghebjaedjmaaZC1
import Derived.Test.YtgkghebjaedjmaaZC2
import Derived.Test.YtgkghebjaedjmaaZC3
import Derived.Test.YtgkghebjaedjmaaZC4
import Derived.Test.YtgkghebjaedjmaaZC5
import Derived.Test.YtgkghebjaedjmaaZC6
import Derived.Test.YtgkghebjaedjmaaZC7
import Derived.Test.YtgkghebjaedjmaaZC8
import Derived.Test.YtgkghebjaedjmaaZC9
import Derived.WalkKit
import Derived.ProofKit
import Derived.OpenShut
import Derived.ShutString
import Derived.ChangeOld
import Derived.Below
namespace Go.Proofs.Ytgkghebjaedjmaa.fnExactAllPiles
open Go.ChangeShapes Go.WideShapes Go.ChangeAt Go.RowKit NP
open Go.ChangeMaps (open_string shut_string)
set_option linter.unusedVariables false

theorem walk (w0 : World) (n0 : Int) (wf0 : (Lit.int .i64 n0).wf = true) :
    Calls Try.prog 5 #[.int .i64 n0] w0 fun e w' => e = .returned (.bool true) ∧ Below w0.heap.size w0 w' := by
  have hA : Below w0.heap.size w0 w0 := Below.refl _ _
  go_enter Try.func5, Try.ntmps5
  have hbd := pilF_bd n0
  have hln := hbd.1
  have hcn := cntPP_le (fun x hx => (hbd.2 x hx).2.1)
  have hil : ∀ LL ∈ pilF n0, LL.length ≤ 1000 ∧ ∀ L ∈ LL, L.length ≤ 1000 := fun LL h => ⟨by have := (hbd.2 LL h).1; omega, fun L hL => by have := (hbd.2 LL h).2.2 L hL; omega⟩
  have hil2 : ∀ LL ∈ pilF n0, LL.length ≤ 1000 := fun LL h => (hil LL h).1
  clear hbd
  replace hcn : cntPP (pilF n0) ≤ 20000 := by omega
  generalize hX : pilF n0 = X at *
  have HX := Lib.hid hX
  have HIL := Lib.hid hil
  have HIL2 := Lib.hid hil2
  clear hX hil hil2
  go_wp2_with fail
  refine (sAllPiles_any n0 _).mono ?_
  rintro e w1 ⟨a_r, c_r, ur, ir, rfl, r0, hb⟩
  rw [HX.out] at r0 ⊢
  replace hA := hA.trans (hb.mono hA.size)
  have hz1 := hb.size
  clear hb
  go_wp2_with fail
  refine (iAllPiles_any n0 _).mono ?_
  rintro e w2 ⟨a_g, c_g, ug, ig, rfl, g0, hb⟩
  rw [HX.out] at g0 ⊢
  replace r0 := r0.below ep_keep (hb.mono r0.le)
  replace hA := hA.trans (hb.mono hA.size)
  have hz2 := hb.size
  clear hb
  go_wp2_with fail
  refine (eqIntSSS_same _ _ _ _ _ _ _ _ _ _ _ _ X _ g0 r0 (by omega) HIL.out).mono ?_
  rintro e w3 ⟨rfl, hd⟩
  replace r0 := r0.below ep_keep (hd.below _)
  replace g0 := g0.below ep_keep (hd.below _)
  replace hA := hA.trans (hd.below _)
  have hz3 := (hd.below w2.heap.size).size
  clear hd
  go_wp2_with fail
  refine (markIntSSS_any _ _ _ _ _ _ 1 X _ g0 hz2 (by omega) (by omega) (by omega) (by omega) HIL2.out).mono ?_
  rintro e w4 ⟨rfl, gm, hb⟩
  replace r0 := r0.below ep_keep (hb.mono (Nat.le_refl _))
  replace hA := hA.trans (hb.mono (by omega))
  have hz4 := hb.size
  clear hb g0
  have hge : decide ((1 : Int) + (cntPP X : Int) < 0) = false := decide_eq_false (by omega)
  have hne : ((1 : Int) + (cntPP X : Int) != (1 : Int) + (cntPP X : Int)) = false := by simp
  obtain ⟨C, hC⟩ : ∃ C, C = (1 : Int) + (cntPP X : Int) := ⟨_, rfl⟩
  rw [← hC] at hge hne ⊢
  have HC := Lib.hid hC.symm
  clear hC
  go_wp2_with fail
  refine (heldIntSSS_any _ _ _ _ _ _ 1 X _ gm (by omega) (by omega) (by omega) (by omega) HIL2.out).mono ?_
  rintro e w' ⟨rfl, rfl⟩
  rw [HC.out]
  go_wp2_with fail
  refine (iAllPiles_any n0 _).mono ?_
  rintro e w5 ⟨a_h, c_h, uh, ih, rfl, h0, hb⟩
  rw [HX.out] at h0 ⊢
  replace r0 := r0.below ep_keep (hb.mono (by omega))
  replace gm := gm.below ep_keep (hb.mono gm.le)
  replace hA := hA.trans (hb.mono hA.size)
  have hz5 := hb.size
  clear hb
  go_wp2_with fail
  refine (eqIntSSS_same _ _ _ _ _ _ _ _ _ _ _ _ X _ h0 r0 (by omega) HIL.out).mono ?_
  rintro e w6 ⟨rfl, hd⟩
  replace gm := gm.below ep_keep (hd.below _)
  replace hA := hA.trans (hd.below _)
  clear hd
  go_wp2_with fail
  refine (heldIntSSS_any _ _ _ _ _ _ 1 X _ gm (by omega) (by omega) (by omega) (by omega) HIL2.out).mono ?_
  rintro e w' ⟨rfl, rfl⟩
  rw [HC.out]
  go_wp2_with fail
  go_ret
  exact ⟨rfl, hA⟩

theorem own : ownKnob Try.prog.godebug = none := by kernel_rfl
theorem laidOut : laidOutB Try.prog = true := by kernel_rfl

set_option maxRecDepth 100000 in
theorem lifted (os : Os) (started : os.Started) (H : Type) (enc : TypeId × Value → H) :
    ReturnsInHanded {} Try.checked os 5 .any (Rows.fnExactAllPilesSpec.pre6 enc Try.prog Try.f5 Rows.fnExactAllPilesRow.domain false) (Rows.fnExactAllPilesSpec.post enc Try.prog Try.f5 false true false false) := by
  refine returnsInHanded_of_change (C := Try.checked) own started (by kernel_rfl) Try.func5
    (ChangeSpec.witness6 (enc := enc) (C := Try.checked) false ⟨#[], #[.int .i64 0], []⟩ 8 (by kernel_rfl) (by kernel_rfl) (by kernel_rfl) (by kernel_rfl)) ?_
  intro W base args ds gs before hval0 hW hcnd _
  have hval : ∀ (j : Nat) t v, Try.f5.params[j]? = some t → args[j]? = some v → Value.okWide Try.prog W .any base t v := hval0
  have hW' := hW
  obtain ⟨p, q, hA0, hV, rfl, hfz, hnd⟩ := hW
  have hA : DataW.TrodAll enc Try.prog W 0 (fun _ => true) true Try.f5.params.toList args.toList ds p := hA0
  rw [Try.params5] at hA hval
  obtain ⟨v0, vs0, d0, ds0, p0, q0, hargs, rfl, rfl, h0, r0⟩ := trodAll_cons hA
  obtain ⟨rfl, rfl, rfl⟩ := trodAll_nil r0
  obtain rfl : args = #[v0] := by cases args; simp_all
  obtain ⟨rfl, rfl⟩ := trodVars_none hV
  obtain ⟨n0, rfl, rfl, rfl, wf0⟩ := open_int Try.underlying3 (hval 0 3 v0 rfl rfl) h0
  clear hA0 hval0
  refine (walk W n0 wf0).mono fun e W' ⟨he, bel⟩ => ?_
  subst he
  exact ⟨_, rfl, _, _, _, [], _, [], hW', trodAll_mk1 (shut_bool Try.underlying4 _), (trodAll_cons_mk (shut_int Try.underlying3 wf0) trodAll_mk0), rfl, bel.frame _, fun h => by cases h⟩

theorem over : Rows.fnExactAllPilesRow.holds Try.pinned (OpenSpec.ofChange Rows.fnExactAllPilesSpec) :=
  OpenClaim.holds_of_wide 5 Try.f5 rfl rfl rfl rfl rfl rfl rfl ⟨rfl, rfl, rfl, rfl, rfl⟩ rfl rfl rfl rfl rfl (by kernel_rfl) Try.func5 (by kernel_rfl)
    (of_decide_eq_true (by kernel_rfl)) (by unfold Func.isWrapper; first | (rw [if_pos (by decide +kernel)]; kernel_rfl) | (rw [if_neg (by decide +kernel)]; exact ⟨rfl, rfl⟩))
    (fun os started H enc _ => lifted os started H enc)

/-- the given statement -/
theorem proved : Rows.FnExactAllPilesSaid := over
end Go.Proofs.Ytgkghebjaedjmaa.fnExactAllPiles
