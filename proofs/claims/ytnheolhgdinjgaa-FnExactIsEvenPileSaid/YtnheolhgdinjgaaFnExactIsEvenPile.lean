/-
  'laws.FnExactIsEvenPile' returns true for all rows of numbers, and they read as they did. No condition.
-/
import Derived.Test.YtnheolhgdinjgaaRows
import Derived.Test.YtnheolhgdinjgaaW89
import Derived.Test.YtnheolhgdinjgaaW92
import Derived.Test.YtnheolhgdinjgaaLL3
import Derived.Deep.Matrix
import Derived.WalkKit
import Derived.ProofKit
import Derived.OpenShut
import Derived.ShutString
import Derived.ChangeOld
import Derived.Below
namespace Go.Proofs.Ytnheolhgdinjgaa.fnExactIsEvenPile
open Go.ChangeShapes Go.WideShapes Go.ChangeAt Go.RowKit NP
open Go.ChangeMaps (open_string shut_string)
set_option linter.unusedVariables false

set_option maxHeartbeats 1000000 in
theorem walk (a : Option Addr) (c : Nat) (LL : List (List Int)) (w0 : World) (h : RdLL w0 w0.heap.size a LL) (m : LL.length ≤ maxLen) (hm : ∀ M ∈ LL, M.length ≤ maxLen) :
    Calls Try.prog 11 #[.slice a LL.length c] w0 fun e w' => e = .returned (.bool true) ∧ Below w0.heap.size w0 w' := by
  unfold maxLen at m hm
  have HS := Lib.hid (szIntSS_any a c w0.heap.size LL w0 h (by omega) (fun M hM => by have := hm M hM; omega))
  by_cases hs : 0 ≤ szF 1048576 LL
  · obtain ⟨hl, hr, hcn⟩ := szF_ok hs
    have hrb : ∀ M ∈ LL, M.length ≤ 4611686018427387904 := fun M hM => by have := hr M hM; omega
    have hA : Below w0.heap.size w0 w0 := Below.refl _ _
    have hs' : decide (szF 1048576 LL < 0) = false := decide_eq_false (by omega)
    go_enter Try.func11, Try.ntmps11
    go_wp2_with fail
    refine HS.out.mono ?_
    rintro e w' ⟨rfl, rfl⟩
    generalize szF 1048576 LL = z at *
    go_wp2_with fail
    refine (toIntSS_any a c w0.heap.size LL _ (h.below hA) hA.size hl hr).mono ?_
    rintro e w1 ⟨a_t1, u_t1, rfl, t1, hb⟩
    replace hA := hA.trans (hb.mono hA.size)
    have hz1 := hb.size
    clear hb
    go_wp2_with fail
    refine ((sIsEvenPile_any _ _ _ LL _ t1.rd t1.le (by omega) hrb)).mono ?_
    rintro e w2 ⟨rfl, hb⟩
    replace t1 := t1.below (hb.mono t1.le)
    replace hA := hA.trans (hb.mono hA.size)
    have hz2 := hb.size
    clear hb
    clear t1
    go_wp2_with fail
    refine (toIntSS_any a c w0.heap.size LL _ (h.below hA) hA.size hl hr).mono ?_
    rintro e w3 ⟨a_x0, u_x0, rfl, x0, hb⟩
    replace hA := hA.trans (hb.mono hA.size)
    have hz3 := hb.size
    clear hb
    go_wp2_with fail
    refine ((iIsEvenPile_any _ _ _ LL _ x0.rd x0.le (by omega) hrb)).mono ?_
    rintro e w4 ⟨rfl, hb⟩
    replace x0 := x0.below (hb.mono x0.le)
    replace hA := hA.trans (hb.mono hA.size)
    have hz4 := hb.size
    clear hb
    go_wp2_with fail
    refine (toIntSS_any a c w0.heap.size LL _ (h.below hA) hA.size hl hr).mono ?_
    rintro e w5 ⟨a_t2, u_t2, rfl, t2, hb⟩
    replace x0 := x0.below (hb.mono x0.le)
    replace hA := hA.trans (hb.mono hA.size)
    have hz5 := hb.size
    clear hb
    go_wp2_with fail
    refine (eqIntSS_same _ _ _ _ _ _ LL _ x0.rd t2.rd (by omega) hrb).mono ?_
    rintro e w6 ⟨rfl, hd⟩
    have hb : Below w5.heap.size w5 w6 := Dr.below hd _
    clear hd
    replace x0 := x0.below (hb.mono x0.le)
    replace t2 := t2.below (hb.mono t2.le)
    replace hA := hA.trans (hb.mono hA.size)
    have hz6 := hb.size
    clear hb
    go_wp2_with fail
    go_ret
    exact ⟨rfl, hA⟩
  · have hs' : decide (szF 1048576 LL < 0) = true := decide_eq_true (by omega)
    go_enter Try.func11, Try.ntmps11
    go_wp2_with fail
    refine HS.out.mono ?_
    rintro e w' ⟨rfl, rfl⟩
    generalize szF 1048576 LL = z at *
    go_wp2_with fail
    go_ret
    exact ⟨rfl, Below.refl _ _⟩

theorem own : ownKnob Try.prog.godebug = none := by kernel_rfl
theorem laidOut : laidOutB Try.prog = true := by kernel_rfl

set_option maxRecDepth 100000 in
theorem lifted (os : Os) (started : os.Started) (H : Type) (enc : TypeId × Value → H) :
    ReturnsInHanded {} Try.checked os 11 .any (Rows.fnExactIsEvenPileSpec.pre6 enc Try.prog Try.f11 Rows.fnExactIsEvenPileRow.domain false) (Rows.fnExactIsEvenPileSpec.post enc Try.prog Try.f11 false true false false) := by
  refine returnsInHanded_of_change (C := Try.checked) own started (by kernel_rfl) Try.func11
    (ChangeSpec.witness6 (enc := enc) (C := Try.checked) false ⟨#[], #[.slice none 0 0], []⟩ 8 (by kernel_rfl) (by kernel_rfl) (by kernel_rfl) (by kernel_rfl)) ?_
  intro W base args ds gs before hval0 hW hcnd _
  have hval : ∀ (j : Nat) t v, Try.f11.params[j]? = some t → args[j]? = some v → Value.okWide Try.prog W .any base t v := hval0
  have hW' := hW
  obtain ⟨p, q, hA0, hV, rfl, hfz, hnd⟩ := hW
  have hA : DataW.TrodAll enc Try.prog W 0 (fun _ => true) true Try.f11.params.toList args.toList ds p := hA0
  rw [Try.params11] at hA hval
  obtain ⟨v0, vs0, d0, ds0, p0, q0, hargs, rfl, rfl, h0, r0⟩ := trodAll_cons hA
  obtain ⟨rfl, rfl, rfl⟩ := trodAll_nil r0
  obtain rfl : args = #[v0] := by cases args; simp_all
  obtain ⟨rfl, rfl⟩ := trodVars_none hV
  obtain ⟨a0, len0, cap0, rfl⟩ := okWide_slice Try.underlying22 (hval 0 22 v0 rfl rfl)
  have k0 := h0
  have lt0 : ∀ x ∈ p0, x.block < W.heap.size := by obtain ⟨m, hm⟩ := k0; exact DataW.trod_lt m _ _ _ hm
  obtain ⟨L0, hl0, R0, e0, m0⟩ : ∃ LL : List (List Int), LL.length = len0 ∧ RdLL W W.heap.size a0 LL ∧ (∀ M ∈ LL, M.length ≤ maxLen) ∧ len0 ≤ maxLen := by
    obtain ⟨fuel, hf⟩ := h0
    rcases Go.Deep.open_int_rows Try.underlying22 Try.underlying31 Try.underlying3 (by kernel_rfl) (by kernel_rfl) hf with ⟨hcs, _⟩ | ⟨x, l, c, fA, fL, fC, fZ, hcs, _, hl, hm, _, hr⟩
    · simp [Value.cells] at hcs
      obtain ⟨rfl, rfl, rfl⟩ := hcs
      exact ⟨[], rfl, ⟨[], fun h => absurd rfl h, rfl, fun k v L hv => by simp at hv⟩, by simp, Nat.zero_le _⟩
    · simp [Value.cells] at hcs
      obtain ⟨rfl, rfl, rfl⟩ := hcs
      obtain ⟨LL, h1, h2, h3⟩ := rows_of hl hr
      exact ⟨LL, h1, h2, h3, by omega⟩
  subst hl0
  clear hA0 hval0
  refine (walk a0 cap0 L0 W R0 m0 e0).mono fun e W' ⟨he, bel⟩ => ?_
  subst he
  exact ⟨_, rfl, _, _, _, [], _, [], hW', trodAll_mk1 (shut_bool Try.underlying4 _), (trodAll_cons_mk (Below.trod laidOut (by kernel_rfl) (of_decide_eq_true (by kernel_rfl)) k0 bel lt0) trodAll_mk0), rfl, bel.frame _, fun h => by cases h⟩

theorem over : Rows.fnExactIsEvenPileRow.holds Try.pinned (OpenSpec.ofChange Rows.fnExactIsEvenPileSpec) :=
  OpenClaim.holds_of_wide 11 Try.f11 rfl rfl rfl rfl rfl rfl rfl ⟨rfl, rfl, rfl, rfl, rfl⟩ rfl rfl rfl rfl rfl (by kernel_rfl) Try.func11 (by kernel_rfl)
    (of_decide_eq_true (by kernel_rfl)) (by unfold Func.isWrapper; first | (rw [if_pos (by decide +kernel)]; kernel_rfl) | (rw [if_neg (by decide +kernel)]; exact ⟨rfl, rfl⟩))
    (fun os started H enc _ => lifted os started H enc)

/-- the given statement -/
theorem proved : Rows.FnExactIsEvenPileSaid := over
end Go.Proofs.Ytnheolhgdinjgaa.fnExactIsEvenPile
