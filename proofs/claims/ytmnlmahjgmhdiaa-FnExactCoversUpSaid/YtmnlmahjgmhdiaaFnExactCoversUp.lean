/-
  'laws.FnExactCoversUp' returns true for every list of numbers, and the list reads as it did. No condition.
-/
import Derived.Test.YtmnlmahjgmhdiaaRows
import Derived.Test.YtmnlmahjgmhdiaaZcov1
import Derived.Test.YtmnlmahjgmhdiaaZcov2
import Derived.Test.YtmnlmahjgmhdiaaZcov3
import Derived.Test.YtmnlmahjgmhdiaaZcov4
import Derived.Test.YtmnlmahjgmhdiaaZcov5
import Derived.Test.YtmnlmahjgmhdiaaZcov6
import Derived.Test.YtmnlmahjgmhdiaaZcov7
import Derived.Test.YtmnlmahjgmhdiaaZcov8
import Derived.Test.YtmnlmahjgmhdiaaZcov9
import Derived.Test.YtmnlmahjgmhdiaaZcov10
import Derived.Test.YtmnlmahjgmhdiaaZcov11
import Derived.WalkKit
import Derived.ProofKit
import Derived.OpenShut
import Derived.ShutString
import Derived.ChangeOld
import Derived.Below
namespace Go.Proofs.Ytmnlmahjgmhdiaa.fnExactCoversUp
open Go.ChangeShapes Go.WideShapes Go.ChangeAt Go.RowKit NP
open Go.ChangeMaps (open_string shut_string)
set_option linter.unusedVariables false

theorem walk (a : Option Addr) (c : Nat) (L : List Int) (w0 : World) (h : Rd w0 w0.heap.size a (ints L)) (m : L.length ≤ maxLen) :
    Calls Try.prog 9 #[.slice a L.length c] w0 fun e w' => e = .returned (.bool true) ∧ Below w0.heap.size w0 w' := by
  unfold maxLen at m
  by_cases hl : L.length ≤ 1048576
  · have hA : Below w0.heap.size w0 w0 := Below.refl _ _
    obtain ⟨FF, hFF⟩ : ∃ FF, cuF L = FF := ⟨_, rfl⟩
    have hln : FF.length ≤ 1000 := hFF ▸ (cuF_rows L).1
    have hil : ∀ X ∈ FF, X.length ≤ 4611686018427387904 := hFF ▸ fun X hX => Nat.le_trans ((cuF_rows L).2 X hX) (by omega)
    have hcn : cntLL FF ≤ 16000 := hFF ▸ cuF_cnt L
    have HFF := Lib.hid hFF
    have HIL := Lib.hid hil
    clear hFF hil
    go_enter Try.func9, Try.ntmps9
    go_wp2_with fail
    refine (toIntS_any a c w0.heap.size L _ (h.below hA) hA.size hl).mono ?_
    rintro e w1 ⟨a_t1, rfl, t1, hb⟩
    replace hA := hA.trans (hb.mono hA.size)
    have hz1 := hb.size
    clear hb
    go_wp2_with fail
    refine (sCoversUp_any _ _ _ L _ t1.rd (by omega) (by omega)).mono ?_
    rintro e w2 ⟨a_r0, c_r0, rfl, r0, hb⟩
    rw [HFF.out] at r0 ⊢
    replace t1 := t1.below (hb.mono t1.le)
    replace hA := hA.trans (hb.mono hA.size)
    have hz2 := hb.size
    clear hb
    replace r0 := RdH.mk r0 (Nat.le_refl _)
    clear t1
    go_wp2_with fail
    refine (toIntS_any a c w0.heap.size L _ (h.below hA) hA.size hl).mono ?_
    rintro e w3 ⟨a_x0, rfl, x0, hb⟩
    replace r0 := r0.below (hb.mono r0.le)
    replace hA := hA.trans (hb.mono hA.size)
    have hz3 := hb.size
    clear hb
    go_wp2_with fail
    refine (iCoversUp_any _ _ _ L _ x0.rd (by omega) (by omega)).mono ?_
    rintro e w4 ⟨a_g0, c_g0, u_g0, rfl, g0, hb⟩
    rw [HFF.out] at g0 ⊢
    replace r0 := r0.below (hb.mono r0.le)
    replace x0 := x0.below (hb.mono x0.le)
    replace hA := hA.trans (hb.mono hA.size)
    have hz4 := hb.size
    clear hb
    go_wp2_with fail
    refine (eqIntSS_same _ _ _ _ _ _ FF _ g0.rd r0.rd (by omega) HIL.out).mono ?_
    rintro e w5 ⟨rfl, hd⟩
    have hb : Below w4.heap.size w4 w5 := Dr.below hd _
    clear hd
    replace r0 := r0.below (hb.mono r0.le)
    replace x0 := x0.below (hb.mono x0.le)
    replace g0 := g0.below (hb.mono g0.le)
    replace hA := hA.trans (hb.mono hA.size)
    have hz5 := hb.size
    clear hb
    go_wp2_with fail
    refine (toIntS_any a c w0.heap.size L _ (h.below hA) hA.size hl).mono ?_
    rintro e w6 ⟨a_t2, rfl, t2, hb⟩
    replace r0 := r0.below (hb.mono r0.le)
    replace x0 := x0.below (hb.mono x0.le)
    replace g0 := g0.below (hb.mono g0.le)
    replace hA := hA.trans (hb.mono hA.size)
    have hz6 := hb.size
    clear hb
    go_wp2_with fail
    refine (eqIntS_same _ _ _ _ _ _ _ _ x0.rd t2.rd (by omega)).mono ?_
    rintro e w7 ⟨rfl, hd⟩
    have hb : Below w6.heap.size w6 w7 := Dr.below hd _
    clear hd
    replace r0 := r0.below (hb.mono r0.le)
    replace x0 := x0.below (hb.mono x0.le)
    replace g0 := g0.below (hb.mono g0.le)
    replace t2 := t2.below (hb.mono t2.le)
    replace hA := hA.trans (hb.mono hA.size)
    have hz7 := hb.size
    clear hb
    clear t2
    go_wp2_with fail
    refine (markIntS_any _ _ _ _ _ _ _ x0 (by omega) (by omega) (by omega)).mono ?_
    rintro e w8 ⟨rfl, x0', hg⟩
    have hbm := x0.belowMark (by omega) hg
    replace r0 := r0.below (hbm.mono (by omega))
    replace g0 := g0.aboveH x0 hg (by omega)
    replace hA := hA.trans (hbm.mono (by omega))
    have hz8 := hbm.size
    clear hbm hg x0
    have x0 := x0'
    clear x0'
    go_wp2_with fail
    refine (eqIntSS_same _ _ _ _ _ _ FF _ g0.rd r0.rd (by omega) HIL.out).mono ?_
    rintro e w9 ⟨rfl, hd⟩
    have hb : Below w8.heap.size w8 w9 := Dr.below hd _
    clear hd
    replace r0 := r0.below (hb.mono r0.le)
    replace x0 := x0.below (hb.mono x0.le)
    replace g0 := g0.below (hb.mono g0.le)
    replace hA := hA.trans (hb.mono hA.size)
    have hz9 := hb.size
    clear hb
    go_wp2_with fail
    refine (markIntSS_any _ _ _ _ 1 FF _ _ g0 (by omega) (by omega) (by omega) (by omega) (by omega)).mono ?_
    rintro e w10 ⟨rfl, gm, hb⟩
    replace r0 := r0.below (hb.mono (by omega))
    replace x0 := x0.below (hb.mono (by omega))
    replace hA := hA.trans (hb.mono (by omega))
    have hz10 := hb.size
    clear hb g0
    have hge : decide ((1 : Int) + (cntLL FF : Int) < 0) = false := decide_eq_false (by omega)
    have hne : ((1 : Int) + (cntLL FF : Int) != (1 : Int) + (cntLL FF : Int)) = false := by simp
    generalize hC : (1 : Int) + (cntLL FF : Int) = C at *
    have HC := Lib.hid hC
    clear hC
    go_wp2_with fail
    refine (heldIntSS_any _ _ _ 1 FF _ gm.rd (by omega) (by omega) (by omega) (by omega)).mono ?_
    rintro e w' ⟨rfl, rfl⟩
    rw [HC.out]
    go_wp2_with fail
    refine (toIntS_any a c w0.heap.size L _ (h.below hA) hA.size hl).mono ?_
    rintro e w11 ⟨a_t3, rfl, t3, hb⟩
    replace r0 := r0.below (hb.mono r0.le)
    replace x0 := x0.below (hb.mono x0.le)
    replace gm := gm.below (hb.mono gm.le)
    replace hA := hA.trans (hb.mono hA.size)
    have hz11 := hb.size
    clear hb
    go_wp2_with fail
    refine (iCoversUp_any _ _ _ L _ t3.rd (by omega) (by omega)).mono ?_
    rintro e w12 ⟨a_h0, c_h0, u_h0, rfl, h0, hb⟩
    rw [HFF.out] at h0 ⊢
    replace r0 := r0.below (hb.mono r0.le)
    replace x0 := x0.below (hb.mono x0.le)
    replace gm := gm.below (hb.mono gm.le)
    replace t3 := t3.below (hb.mono t3.le)
    replace hA := hA.trans (hb.mono hA.size)
    have hz12 := hb.size
    clear hb
    clear t3
    go_wp2_with fail
    refine (eqIntSS_same _ _ _ _ _ _ FF _ h0.rd r0.rd (by omega) HIL.out).mono ?_
    rintro e w13 ⟨rfl, hd⟩
    have hb : Below w12.heap.size w12 w13 := Dr.below hd _
    clear hd
    replace r0 := r0.below (hb.mono r0.le)
    replace x0 := x0.below (hb.mono x0.le)
    replace gm := gm.below (hb.mono gm.le)
    replace h0 := h0.below (hb.mono h0.le)
    replace hA := hA.trans (hb.mono hA.size)
    have hz13 := hb.size
    clear hb
    go_wp2_with fail
    refine (heldIntSS_any _ _ _ 1 FF _ gm.rd (by omega) (by omega) (by omega) (by omega)).mono ?_
    rintro e w' ⟨rfl, rfl⟩
    rw [HC.out]
    go_wp2_with fail
    go_ret
    exact ⟨rfl, hA⟩
  · have hl' : 1048576 < L.length := by omega
    go_enter Try.func9, Try.ntmps9
    go_wp2_with fail
    go_ret
    exact ⟨rfl, Below.refl _ _⟩

theorem own : ownKnob Try.prog.godebug = none := by kernel_rfl
theorem laidOut : laidOutB Try.prog = true := by kernel_rfl

set_option maxRecDepth 100000 in
theorem lifted (os : Os) (started : os.Started) (H : Type) (enc : TypeId × Value → H) :
    ReturnsInHanded {} Try.checked os 9 .any (Rows.fnExactCoversUpSpec.pre6 enc Try.prog Try.f9 Rows.fnExactCoversUpRow.domain false) (Rows.fnExactCoversUpSpec.post enc Try.prog Try.f9 false true false false) := by
  refine returnsInHanded_of_change (C := Try.checked) own started (by kernel_rfl) Try.func9
    (ChangeSpec.witness6 (enc := enc) (C := Try.checked) false ⟨#[], #[.slice none 0 0], []⟩ 8 (by kernel_rfl) (by kernel_rfl) (by kernel_rfl) (by kernel_rfl)) ?_
  intro W base args ds gs before hval0 hW hcnd _
  have hval : ∀ (j : Nat) t v, Try.f9.params[j]? = some t → args[j]? = some v → Value.okWide Try.prog W .any base t v := hval0
  have hW' := hW
  obtain ⟨p, q, hA0, hV, rfl, hfz, hnd⟩ := hW
  have hA : DataW.TrodAll enc Try.prog W 0 (fun _ => true) true Try.f9.params.toList args.toList ds p := hA0
  rw [Try.params9] at hA hval
  obtain ⟨v0, vs0, d0, ds0, p0, q0, hargs, rfl, rfl, h0, r0⟩ := trodAll_cons hA
  obtain ⟨rfl, rfl, rfl⟩ := trodAll_nil r0
  obtain rfl : args = #[v0] := by cases args; simp_all
  obtain ⟨rfl, rfl⟩ := trodVars_none hV
  obtain ⟨a0, len0, cap0, rfl⟩ := okWide_slice Try.underlying22 (hval 0 22 v0 rfl rfl)
  have k0 := h0
  have lt0 : ∀ x ∈ p0, x.block < W.heap.size := by obtain ⟨m, hm⟩ := k0; exact DataW.trod_lt m _ _ _ hm
  obtain ⟨z0, w0⟩ : ∃ zs, IsRow .i64 W a0 len0 cap0 zs := by
    obtain ⟨fuel, hf⟩ := h0
    rcases open_ints Try.underlying22 Try.underlying3 (by kernel_rfl) hf with ⟨hcs, _⟩ | ⟨x, l, c, zs, hcs, _, hl, hm, hz, _, hcell, hwz⟩
    · simp [Value.cells] at hcs
      obtain ⟨rfl, rfl, rfl⟩ := hcs
      exact ⟨[], .inl ⟨rfl, rfl, rfl, rfl⟩⟩
    · simp [Value.cells] at hcs
      obtain ⟨rfl, rfl, rfl⟩ := hcs
      exact ⟨zs, .inr ⟨_, rfl, hl, hm, by simpa using hz, hcell, hwz⟩⟩
  have lc0 := w0.lc
  obtain ⟨L0, rfl, R0, wf0, m0⟩ := w0.rd
  clear hA0 hval0
  refine (walk a0 cap0 L0 W R0 m0).mono fun e W' ⟨he, bel⟩ => ?_
  subst he
  exact ⟨_, rfl, _, _, _, [], _, [], hW', trodAll_mk1 (shut_bool Try.underlying4 _), (trodAll_cons_mk (Below.trod laidOut (by kernel_rfl) (of_decide_eq_true (by kernel_rfl)) k0 bel lt0) trodAll_mk0), rfl, bel.frame _, fun h => by cases h⟩

theorem over : Rows.fnExactCoversUpRow.holds Try.pinned (OpenSpec.ofChange Rows.fnExactCoversUpSpec) :=
  OpenClaim.holds_of_wide 9 Try.f9 rfl rfl rfl rfl rfl rfl rfl ⟨rfl, rfl, rfl, rfl, rfl⟩ rfl rfl rfl rfl rfl (by kernel_rfl) Try.func9 (by kernel_rfl)
    (of_decide_eq_true (by kernel_rfl)) (by unfold Func.isWrapper; first | (rw [if_pos (by decide +kernel)]; kernel_rfl) | (rw [if_neg (by decide +kernel)]; exact ⟨rfl, rfl⟩))
    (fun os started H enc _ => lifted os started H enc)

/-- the given statement -/
theorem proved : Rows.FnExactCoversUpSaid := over
end Go.Proofs.Ytmnlmahjgmhdiaa.fnExactCoversUp
