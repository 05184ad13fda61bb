/-
  'laws.FnExactLayersOf' returns true for all rows of numbers, and they read as they did. No condition.
-/
import Derived.Test.YtnheolhgdinjgaaRows
import Derived.Test.YtnheolhgdinjgaaW89
import Derived.Test.YtnheolhgdinjgaaW92
import Derived.Test.YtnheolhgdinjgaaM46
import Derived.Test.YtnheolhgdinjgaaLL3
import Derived.Deep.Matrix
import Derived.WalkKit
import Derived.ProofKit
import Derived.OpenShut
import Derived.ShutString
import Derived.ChangeOld
import Derived.Below
namespace Go.Proofs.Ytnheolhgdinjgaa.fnExactLayersOf
open Go.ChangeShapes Go.WideShapes Go.ChangeAt Go.RowKit NP
open Go.ChangeMaps (open_string shut_string)
set_option linter.unusedVariables false

set_option maxHeartbeats 1000000 in
theorem walk (a : Option Addr) (c : Nat) (LL : List (List Int)) (w0 : World) (h : RdLL w0 w0.heap.size a LL) (m : LL.length ≤ maxLen) (hm : ∀ M ∈ LL, M.length ≤ maxLen) :
    Calls Try.prog 9 #[.slice a LL.length c] w0 fun e w' => e = .returned (.bool true) ∧ Below w0.heap.size w0 w' := by
  unfold maxLen at m hm
  have HS := Lib.hid (szIntSS_any a c w0.heap.size LL w0 h (by omega) (fun M hM => by have := hm M hM; omega))
  by_cases hs : 0 ≤ szF 1048576 LL
  · obtain ⟨hl, hr, hcn⟩ := szF_ok hs
    have hrb : ∀ M ∈ LL, M.length ≤ 4611686018427387904 := fun M hM => by have := hr M hM; omega
    have hA : Below w0.heap.size w0 w0 := Below.refl _ _
    have hs' : decide (szF 1048576 LL < 0) = false := decide_eq_false (by omega)
    have hgl := lpF_l LL
    have hgc := lpF_c LL
    have hgr := lpF_r LL
    go_enter Try.func9, Try.ntmps9
    go_wp2_with fail
    refine HS.out.mono ?_
    rintro e w' ⟨rfl, rfl⟩
    generalize szF 1048576 LL = z at *
    go_wp2_with fail
    refine (toIntSS_any a c w0.heap.size LL _ (h.below hA) hA.size hl hr).mono ?_
    rintro e w1 ⟨a_t1, u_t1, rfl, t1, hb⟩
    replace hA := hA.trans (hb.mono hA.size)
    have hz1 := hb.size
    clear hb
    go_wp2_with fail
    refine ((sLayersOf_any _ _ _ LL _ t1.rd t1.le (by omega) hrb)).mono ?_
    rintro e w2 ⟨a_r, c_r, v_r, rfl, r0, hb⟩
    replace t1 := t1.below (hb.mono t1.le)
    replace hA := hA.trans (hb.mono hA.size)
    have hz2 := hb.size
    clear hb
    clear t1
    go_wp2_with fail
    refine (toIntSS_any a c w0.heap.size LL _ (h.below hA) hA.size hl hr).mono ?_
    rintro e w3 ⟨a_x0, u_x0, rfl, x0, hb⟩
    replace r0 := r0.below (hb.mono r0.le)
    replace hA := hA.trans (hb.mono hA.size)
    have hz3 := hb.size
    clear hb
    go_wp2_with fail
    refine ((iLayersOf_any _ _ _ LL _ x0.rd x0.le (by omega) hrb)).mono ?_
    rintro e w4 ⟨a_g, c_g, v_g, rfl, g0, hb⟩
    replace r0 := r0.below (hb.mono r0.le)
    replace x0 := x0.below (hb.mono x0.le)
    replace hA := hA.trans (hb.mono hA.size)
    have hz4 := hb.size
    clear hb
    go_wp2_with fail
    refine (eqIntSS_same _ _ _ _ _ _ (lpF LL) _ g0.rd r0.rd (by omega) hgr).mono ?_
    rintro e w5 ⟨rfl, hd⟩
    have hb : Below w4.heap.size w4 w5 := Dr.below hd _
    clear hd
    replace r0 := r0.below (hb.mono r0.le)
    replace x0 := x0.below (hb.mono x0.le)
    replace g0 := g0.below (hb.mono g0.le)
    replace hA := hA.trans (hb.mono hA.size)
    have hz5 := hb.size
    clear hb
    go_wp2_with fail
    refine (toIntSS_any a c w0.heap.size LL _ (h.below hA) hA.size hl hr).mono ?_
    rintro e w6 ⟨a_t2, u_t2, rfl, t2, hb⟩
    replace r0 := r0.below (hb.mono r0.le)
    replace x0 := x0.below (hb.mono x0.le)
    replace g0 := g0.below (hb.mono g0.le)
    replace hA := hA.trans (hb.mono hA.size)
    have hz6 := hb.size
    clear hb
    go_wp2_with fail
    refine (eqIntSS_same _ _ _ _ _ _ LL _ x0.rd t2.rd (by omega) hrb).mono ?_
    rintro e w7 ⟨rfl, hd⟩
    have hb : Below w6.heap.size w6 w7 := Dr.below hd _
    clear hd
    replace r0 := r0.below (hb.mono r0.le)
    replace x0 := x0.below (hb.mono x0.le)
    replace g0 := g0.below (hb.mono g0.le)
    replace t2 := t2.below (hb.mono t2.le)
    replace hA := hA.trans (hb.mono hA.size)
    have hz7 := hb.size
    clear hb
    clear t2
    have hk0 : decide ((1 : Int) + (cntLL LL : Int) < 0) = false := decide_eq_false (by omega)
    go_wp2_with fail
    refine (markIntSS_aside _ _ _ _ 1 (LL) _ _ x0 (by omega) (by omega) (by omega) (by omega) (by omega)).mono ?_
    rintro e w8 ⟨rfl, x0m, hb, has⟩
    replace r0 := r0.aside has (by omega)
    replace g0 := g0.aside has (by omega)
    replace hA := hA.trans (hb.mono (by omega))
    have hz8 := hb.size
    clear hb has x0
    generalize hX : (1 : Int) + (cntLL LL : Int) = X at *
    have HX := Lib.hid hX
    clear hX
    have hgcn : (0 : Int) ≤ (cntLL (lpF LL) : Int) := by omega
    go_wp2_with fail
    refine (eqIntSS_same _ _ _ _ _ _ (lpF LL) _ g0.rd r0.rd (by omega) hgr).mono ?_
    rintro e w9 ⟨rfl, hd⟩
    have hb : Below w8.heap.size w8 w9 := Dr.below hd _
    clear hd
    replace r0 := r0.below (hb.mono r0.le)
    replace g0 := g0.below (hb.mono g0.le)
    replace x0m := x0m.below (hb.mono x0m.le)
    replace hA := hA.trans (hb.mono hA.size)
    have hz9 := hb.size
    clear hb
    have hge : decide ((1 : Int) + (cntLL (lpF LL) : Int) < 0) = false := decide_eq_false (by omega)
    have hne : ((1 : Int) + (cntLL (lpF LL) : Int) != (1 : Int) + (cntLL (lpF LL) : Int)) = false := by simp
    go_wp2_with fail
    refine (markIntSS_aside _ _ _ _ 1 (lpF LL) _ _ g0 (by omega) (by omega) (by omega) (by omega) (by omega)).mono ?_
    rintro e w10 ⟨rfl, g0m, hb, has⟩
    replace r0 := r0.aside has (by omega)
    replace x0m := x0m.aside has (by omega)
    replace hA := hA.trans (hb.mono (by omega))
    have hz10 := hb.size
    clear hb has g0
    have hgt := hgc
    generalize hC : (1 : Int) + (cntLL (lpF LL) : Int) = C at *
    have HC := Lib.hid hC
    clear hC
    go_wp2_with fail
    refine (heldIntSS_any _ _ _ 1 (lpF LL) _ g0m.rd (by omega) (by omega) (by omega) (by omega)).mono ?_
    rintro e w' ⟨rfl, rfl⟩
    rw [HC.out]
    go_wp2_with fail
    refine (toIntSS_any a c w0.heap.size LL _ (h.below hA) hA.size hl hr).mono ?_
    rintro e w11 ⟨a_t3, u_t3, rfl, t3, hb⟩
    replace r0 := r0.below (hb.mono r0.le)
    replace x0m := x0m.below (hb.mono x0m.le)
    replace g0m := g0m.below (hb.mono g0m.le)
    replace hA := hA.trans (hb.mono hA.size)
    have hz11 := hb.size
    clear hb
    go_wp2_with fail
    refine ((iLayersOf_any _ _ _ LL _ t3.rd t3.le (by omega) hrb)).mono ?_
    rintro e w12 ⟨a_h, c_h, v_h, rfl, h0, hb⟩
    replace r0 := r0.below (hb.mono r0.le)
    replace x0m := x0m.below (hb.mono x0m.le)
    replace g0m := g0m.below (hb.mono g0m.le)
    replace t3 := t3.below (hb.mono t3.le)
    replace hA := hA.trans (hb.mono hA.size)
    have hz12 := hb.size
    clear hb
    clear t3
    go_wp2_with fail
    refine (eqIntSS_same _ _ _ _ _ _ (lpF LL) _ h0.rd r0.rd (by omega) hgr).mono ?_
    rintro e w13 ⟨rfl, hd⟩
    have hb : Below w12.heap.size w12 w13 := Dr.below hd _
    clear hd
    replace r0 := r0.below (hb.mono r0.le)
    replace x0m := x0m.below (hb.mono x0m.le)
    replace g0m := g0m.below (hb.mono g0m.le)
    replace h0 := h0.below (hb.mono h0.le)
    replace hA := hA.trans (hb.mono hA.size)
    have hz13 := hb.size
    clear hb
    go_wp2_with fail
    refine (heldIntSS_any _ _ _ 1 (lpF LL) _ g0m.rd (by omega) (by omega) (by omega) (by omega)).mono ?_
    rintro e w' ⟨rfl, rfl⟩
    rw [HC.out]
    go_wp2_with fail
    go_ret
    exact ⟨rfl, hA⟩
  · have hs' : decide (szF 1048576 LL < 0) = true := decide_eq_true (by omega)
    go_enter Try.func9, Try.ntmps9
    go_wp2_with fail
    refine HS.out.mono ?_
    rintro e w' ⟨rfl, rfl⟩
    generalize szF 1048576 LL = z at *
    go_wp2_with fail
    go_ret
    exact ⟨rfl, Below.refl _ _⟩

theorem own : ownKnob Try.prog.godebug = none := by kernel_rfl
theorem laidOut : laidOutB Try.prog = true := by kernel_rfl

set_option maxRecDepth 100000 in
theorem lifted (os : Os) (started : os.Started) (H : Type) (enc : TypeId × Value → H) :
    ReturnsInHanded {} Try.checked os 9 .any (Rows.fnExactLayersOfSpec.pre6 enc Try.prog Try.f9 Rows.fnExactLayersOfRow.domain false) (Rows.fnExactLayersOfSpec.post enc Try.prog Try.f9 false true false false) := by
  refine returnsInHanded_of_change (C := Try.checked) own started (by kernel_rfl) Try.func9
    (ChangeSpec.witness6 (enc := enc) (C := Try.checked) false ⟨#[], #[.slice none 0 0], []⟩ 8 (by kernel_rfl) (by kernel_rfl) (by kernel_rfl) (by kernel_rfl)) ?_
  intro W base args ds gs before hval0 hW hcnd _
  have hval : ∀ (j : Nat) t v, Try.f9.params[j]? = some t → args[j]? = some v → Value.okWide Try.prog W .any base t v := hval0
  have hW' := hW
  obtain ⟨p, q, hA0, hV, rfl, hfz, hnd⟩ := hW
  have hA : DataW.TrodAll enc Try.prog W 0 (fun _ => true) true Try.f9.params.toList args.toList ds p := hA0
  rw [Try.params9] at hA hval
  obtain ⟨v0, vs0, d0, ds0, p0, q0, hargs, rfl, rfl, h0, r0⟩ := trodAll_cons hA
  obtain ⟨rfl, rfl, rfl⟩ := trodAll_nil r0
  obtain rfl : args = #[v0] := by cases args; simp_all
  obtain ⟨rfl, rfl⟩ := trodVars_none hV
  obtain ⟨a0, len0, cap0, rfl⟩ := okWide_slice Try.underlying22 (hval 0 22 v0 rfl rfl)
  have k0 := h0
  have lt0 : ∀ x ∈ p0, x.block < W.heap.size := by obtain ⟨m, hm⟩ := k0; exact DataW.trod_lt m _ _ _ hm
  obtain ⟨L0, hl0, R0, e0, m0⟩ : ∃ LL : List (List Int), LL.length = len0 ∧ RdLL W W.heap.size a0 LL ∧ (∀ M ∈ LL, M.length ≤ maxLen) ∧ len0 ≤ maxLen := by
    obtain ⟨fuel, hf⟩ := h0
    rcases Go.Deep.open_int_rows Try.underlying22 Try.underlying31 Try.underlying3 (by kernel_rfl) (by kernel_rfl) hf with ⟨hcs, _⟩ | ⟨x, l, c, fA, fL, fC, fZ, hcs, _, hl, hm, _, hr⟩
    · simp [Value.cells] at hcs
      obtain ⟨rfl, rfl, rfl⟩ := hcs
      exact ⟨[], rfl, ⟨[], fun h => absurd rfl h, rfl, fun k v L hv => by simp at hv⟩, by simp, Nat.zero_le _⟩
    · simp [Value.cells] at hcs
      obtain ⟨rfl, rfl, rfl⟩ := hcs
      obtain ⟨LL, h1, h2, h3⟩ := rows_of hl hr
      exact ⟨LL, h1, h2, h3, by omega⟩
  subst hl0
  clear hA0 hval0
  refine (walk a0 cap0 L0 W R0 m0 e0).mono fun e W' ⟨he, bel⟩ => ?_
  subst he
  exact ⟨_, rfl, _, _, _, [], _, [], hW', trodAll_mk1 (shut_bool Try.underlying4 _), (trodAll_cons_mk (Below.trod laidOut (by kernel_rfl) (of_decide_eq_true (by kernel_rfl)) k0 bel lt0) trodAll_mk0), rfl, bel.frame _, fun h => by cases h⟩

theorem over : Rows.fnExactLayersOfRow.holds Try.pinned (OpenSpec.ofChange Rows.fnExactLayersOfSpec) :=
  OpenClaim.holds_of_wide 9 Try.f9 rfl rfl rfl rfl rfl rfl rfl ⟨rfl, rfl, rfl, rfl, rfl⟩ rfl rfl rfl rfl rfl (by kernel_rfl) Try.func9 (by kernel_rfl)
    (of_decide_eq_true (by kernel_rfl)) (by unfold Func.isWrapper; first | (rw [if_pos (by decide +kernel)]; kernel_rfl) | (rw [if_neg (by decide +kernel)]; exact ⟨rfl, rfl⟩))
    (fun os started H enc _ => lifted os started H enc)

/-- the given statement -/
theorem proved : Rows.FnExactLayersOfSaid := over
end Go.Proofs.Ytnheolhgdinjgaa.fnExactLayersOf
