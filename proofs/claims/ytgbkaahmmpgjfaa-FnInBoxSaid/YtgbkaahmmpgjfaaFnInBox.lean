/-
  'laws.FnInBox' returns true for every code, and the code reads as it did. No condition.
-/
import Derived.Test.YtgbkaahmmpgjfaaRows
import Derived.Test.YtgbkaahmmpgjfaaW81
import Derived.Test.YtgbkaahmmpgjfaaM38
import Derived.Test.YtgbkaahmmpgjfaaD18
import Derived.Test.YtgbkaahmmpgjfaaL1
import Derived.WalkKit
import Derived.ProofKit
import Derived.OpenShut
import Derived.ShutString
import Derived.ChangeOld
import Derived.Below
namespace Go.Proofs.Ytgbkaahmmpgjfaa.fnInBox
open Go.ChangeShapes Go.WideShapes Go.ChangeAt Go.RowKit NP
open Go.ChangeMaps (open_string shut_string)
set_option linter.unusedVariables false

set_option maxHeartbeats 1600000 in
theorem walk (pa : Option Addr) (c : Nat) (bs : List Int) (w0 : World) (h : Rd w0 w0.heap.size pa (bs.map (Value.int .u8))) (hb : ∀ n ∈ bs, (Lit.int .u8 n).wf = true) (m : bs.length ≤ maxLen) (hc : bs.length ≤ c) :
    Calls Try.prog 4 #[.slice pa bs.length c] w0 fun e w' => e = .returned (.bool true) ∧ Below w0.heap.size w0 w' := by
  unfold maxLen at m
  by_cases hl : bs.length ≤ 1048576
  · go_enter Try.func4, Try.ntmps4
    go_wp2_with fail
    refine (DrawInBox_any pa c _ bs _ h (Nat.le_refl _) hb hl hc).mono ?_
    rintro e w1 ⟨a1, c1, P, a, b, rfl, p, hs1, ha, hb', hA⟩
    have hP := hs1.1
    clear h hb hl hc m hs1
    obtain ⟨r, hr⟩ : ∃ r, r = inbF P a b := ⟨_, rfl⟩
    have HR : Hid (inbF P a b = r) := Lib.hid hr.symm
    have g0 : (r != r) = false := by cases r <;> rfl
    have g0' : (r == r) = true := by cases r <;> rfl
    clear hr
    cases hv : valid P with
    | false =>
      have HV := Lib.hid hv
      clear hv
      have hr0 : r = false := by rw [← HR.out]; unfold inbF; rw [HV.out]; rfl
      subst hr0
      go_wp2_with fail
      refine (iInBox_any _ _ _ P a b _ p.rd (by omega) (by omega)).mono ?_
      rintro e w2 ⟨rfl, hb⟩
      rw [HR.out]
      replace p := p.below (hb.mono p.le)
      replace hA := hA.trans (hb.mono hA.size)
      have hz2 := hb.size
      clear hb
      go_wp2_with fail
      refine (sInBox_any _ _ _ P a b _ p.rd (by omega)).mono ?_
      rintro e w3 ⟨rfl, hd⟩
      rw [HR.out]
      have hb : Below w2.heap.size w2 w3 := Dr.below hd _
      clear hd
      replace p := p.below (hb.mono p.le)
      replace hA := hA.trans (hb.mono hA.size)
      have hz3 := hb.size
      clear hb
      go_wp2_with fail
      refine (iValidParts_any _ _ _ P _ p.rd (by omega) (by omega)).mono ?_
      rintro e w4 ⟨rfl, hb⟩
      rw [HV.out]
      replace p := p.below (hb.mono p.le)
      replace hA := hA.trans (hb.mono hA.size)
      have hz4 := hb.size
      clear hb
      go_wp2_with fail
      refine (sInBox_any _ _ _ P a b _ p.rd (by omega)).mono ?_
      rintro e w5 ⟨rfl, hd⟩
      rw [HR.out]
      have hb : Below w4.heap.size w4 w5 := Dr.below hd _
      clear hd
      replace p := p.below (hb.mono p.le)
      replace hA := hA.trans (hb.mono hA.size)
      have hz5 := hb.size
      clear hb
      go_wp2_with fail
      go_ret
      exact ⟨rfl, hA⟩
    | true =>
      have HV := Lib.hid hv
      have HFIT := Lib.hid (valid_fits hv)
      have HC := Lib.hid (conjF_yes hv)
      have hcl : (conj P).length ≤ 4611686018427387904 := by rw [← conjF_yes hv]; have := conjF_len P; omega
      clear hv
      have hlim : (0 ≤ a ∧ a ≤ 4 ∧ 0 ≤ b ∧ b ≤ 4) ∨ (limB a b = false ∧ (a < 0 ∨ (0 ≤ a ∧ 4 < a) ∨ (0 ≤ a ∧ a ≤ 4 ∧ b < 0) ∨ (0 ≤ a ∧ a ≤ 4 ∧ 0 ≤ b ∧ 4 < b))) := by
        by_cases h : 0 ≤ a ∧ a ≤ 4 ∧ 0 ≤ b ∧ b ≤ 4
        · exact Or.inl h
        · exact Or.inr ⟨decide_eq_false h, by omega⟩
      rcases hlim with ⟨h1, h2, h3, h4⟩ | ⟨hlf, hlim⟩
      · have d1 : decide (a < 0) = false := decide_eq_false (by omega)
        have d2 : decide (4 < a) = false := decide_eq_false (by omega)
        have d3 : decide (b < 0) = false := decide_eq_false (by omega)
        have d4 : decide (4 < b) = false := decide_eq_false (by omega)
        obtain ⟨f1, f2⟩ := inb_facts HV.out h1 h3
        rw [HR.out] at f1 f2
        have HB := Lib.hid f1
        have hm0 : 0 ≤ a * b := Int.mul_nonneg h1 h3
        have hm1 : a * b ≤ 4 * 4 := Int.mul_le_mul h2 h4 h3 (by omega)
        obtain ⟨q, hq⟩ : ∃ q, q = a * b := ⟨_, rfl⟩
        have e1 : wrap64 (a * b) = q := by rw [hq]; exact IntWalk.wrap64_in _ (by omega)
        have e2 : IntKind.i64.wrap (a * b) = q := by rw [hq]; exact IntWalk.i64_in _ (by omega)
        obtain ⟨s, hs⟩ : ∃ s, s = sumL P := ⟨_, rfl⟩
        have HS : Hid (sumL P = s) := Lib.hid hs.symm
        rw [← hq] at f2 hm0 hm1
        rw [← hs] at f2
        clear hq hs f1
        cases r with
        | false =>
          clear f2
          go_wp2_with fail
          refine (iInBox_any _ _ _ P a b _ p.rd (by omega) (by omega)).mono ?_
          rintro e w2 ⟨rfl, hb⟩
          rw [HR.out]
          replace p := p.below (hb.mono p.le)
          replace hA := hA.trans (hb.mono hA.size)
          have hz2 := hb.size
          clear hb
          go_wp2_with fail
          refine (sInBox_any _ _ _ P a b _ p.rd (by omega)).mono ?_
          rintro e w3 ⟨rfl, hd⟩
          rw [HR.out]
          have hb : Below w2.heap.size w2 w3 := Dr.below hd _
          clear hd
          replace p := p.below (hb.mono p.le)
          replace hA := hA.trans (hb.mono hA.size)
          have hz3 := hb.size
          clear hb
          go_wp2_with fail
          refine (iValidParts_any _ _ _ P _ p.rd (by omega) (by omega)).mono ?_
          rintro e w4 ⟨rfl, hb⟩
          rw [HV.out]
          replace p := p.below (hb.mono p.le)
          replace hA := hA.trans (hb.mono hA.size)
          have hz4 := hb.size
          clear hb
          go_wp2_with fail
          refine (iConjugateOf_any _ _ _ P _ p.rd (by omega) (by omega)).mono ?_
          rintro e w5 ⟨a_cj, c_cj, rfl, cj, hb⟩
          replace p := p.below (hb.mono p.le)
          replace hA := hA.trans (hb.mono hA.size)
          have hz5 := hb.size
          clear hb
          rw [HC.out] at cj ⊢
          go_wp2_with fail
          refine (iInBox_any _ _ _ (conj P) b a _ cj.rd (by omega) hcl).mono ?_
          rintro e w6 ⟨rfl, hb⟩
          rw [HB.out]
          replace p := p.below (hb.mono p.le)
          replace hA := hA.trans (hb.mono hA.size)
          have hz6 := hb.size
          clear hb
          go_wp2_with fail
          go_ret
          exact ⟨rfl, hA⟩
        | true =>
          have f3 := f2 rfl
          have d5 : decide (s ≤ q) = true := decide_eq_true f3
          clear f2 f3
          go_wp2_with fail
          refine (iInBox_any _ _ _ P a b _ p.rd (by omega) (by omega)).mono ?_
          rintro e w2 ⟨rfl, hb⟩
          rw [HR.out]
          replace p := p.below (hb.mono p.le)
          replace hA := hA.trans (hb.mono hA.size)
          have hz2 := hb.size
          clear hb
          go_wp2_with fail
          refine (sInBox_any _ _ _ P a b _ p.rd (by omega)).mono ?_
          rintro e w3 ⟨rfl, hd⟩
          rw [HR.out]
          have hb : Below w2.heap.size w2 w3 := Dr.below hd _
          clear hd
          replace p := p.below (hb.mono p.le)
          replace hA := hA.trans (hb.mono hA.size)
          have hz3 := hb.size
          clear hb
          go_wp2_with fail
          refine (iValidParts_any _ _ _ P _ p.rd (by omega) (by omega)).mono ?_
          rintro e w4 ⟨rfl, hb⟩
          rw [HV.out]
          replace p := p.below (hb.mono p.le)
          replace hA := hA.trans (hb.mono hA.size)
          have hz4 := hb.size
          clear hb
          go_wp2_with fail
          refine (iConjugateOf_any _ _ _ P _ p.rd (by omega) (by omega)).mono ?_
          rintro e w5 ⟨a_cj, c_cj, rfl, cj, hb⟩
          replace p := p.below (hb.mono p.le)
          replace hA := hA.trans (hb.mono hA.size)
          have hz5 := hb.size
          clear hb
          rw [HC.out] at cj ⊢
          go_wp2_with fail
          refine (iInBox_any _ _ _ (conj P) b a _ cj.rd (by omega) hcl).mono ?_
          rintro e w6 ⟨rfl, hb⟩
          rw [HB.out]
          replace p := p.below (hb.mono p.le)
          replace hA := hA.trans (hb.mono hA.size)
          have hz6 := hb.size
          clear hb
          go_wp2_with fail
          refine (total_any _ _ _ P _ p.rd HFIT.out (by omega)).mono ?_
          rintro e w7 ⟨rfl, rfl⟩
          rw [HS.out]
          go_wp2_with fail
          go_ret
          exact ⟨rfl, hA⟩
      · have hr0 : r = false := by rw [← HR.out]; unfold inbF; rw [HV.out, hlf]; rfl
        subst hr0
        clear hlf
        rcases hlim with h1 | ⟨h1, h2⟩ | ⟨h1, h2, h3⟩ | ⟨h1, h2, h3, h4⟩
        · have d1 : decide (a < 0) = true := decide_eq_true h1
          go_wp2_with fail
          refine (iInBox_any _ _ _ P a b _ p.rd (by omega) (by omega)).mono ?_
          rintro e w2 ⟨rfl, hb⟩
          rw [HR.out]
          replace p := p.below (hb.mono p.le)
          replace hA := hA.trans (hb.mono hA.size)
          have hz2 := hb.size
          clear hb
          go_wp2_with fail
          refine (sInBox_any _ _ _ P a b _ p.rd (by omega)).mono ?_
          rintro e w3 ⟨rfl, hd⟩
          rw [HR.out]
          have hb : Below w2.heap.size w2 w3 := Dr.below hd _
          clear hd
          replace p := p.below (hb.mono p.le)
          replace hA := hA.trans (hb.mono hA.size)
          have hz3 := hb.size
          clear hb
          go_wp2_with fail
          refine (iValidParts_any _ _ _ P _ p.rd (by omega) (by omega)).mono ?_
          rintro e w4 ⟨rfl, hb⟩
          rw [HV.out]
          replace p := p.below (hb.mono p.le)
          replace hA := hA.trans (hb.mono hA.size)
          have hz4 := hb.size
          clear hb
          go_wp2_with fail
          refine (sInBox_any _ _ _ P a b _ p.rd (by omega)).mono ?_
          rintro e w5 ⟨rfl, hd⟩
          rw [HR.out]
          have hb : Below w4.heap.size w4 w5 := Dr.below hd _
          clear hd
          replace p := p.below (hb.mono p.le)
          replace hA := hA.trans (hb.mono hA.size)
          have hz5 := hb.size
          clear hb
          go_wp2_with fail
          go_ret
          exact ⟨rfl, hA⟩
        · have d1 : decide (a < 0) = false := decide_eq_false (by omega)
          have d2 : decide (4 < a) = true := decide_eq_true h2
          go_wp2_with fail
          refine (iInBox_any _ _ _ P a b _ p.rd (by omega) (by omega)).mono ?_
          rintro e w2 ⟨rfl, hb⟩
          rw [HR.out]
          replace p := p.below (hb.mono p.le)
          replace hA := hA.trans (hb.mono hA.size)
          have hz2 := hb.size
          clear hb
          go_wp2_with fail
          refine (sInBox_any _ _ _ P a b _ p.rd (by omega)).mono ?_
          rintro e w3 ⟨rfl, hd⟩
          rw [HR.out]
          have hb : Below w2.heap.size w2 w3 := Dr.below hd _
          clear hd
          replace p := p.below (hb.mono p.le)
          replace hA := hA.trans (hb.mono hA.size)
          have hz3 := hb.size
          clear hb
          go_wp2_with fail
          refine (iValidParts_any _ _ _ P _ p.rd (by omega) (by omega)).mono ?_
          rintro e w4 ⟨rfl, hb⟩
          rw [HV.out]
          replace p := p.below (hb.mono p.le)
          replace hA := hA.trans (hb.mono hA.size)
          have hz4 := hb.size
          clear hb
          go_wp2_with fail
          refine (sInBox_any _ _ _ P a b _ p.rd (by omega)).mono ?_
          rintro e w5 ⟨rfl, hd⟩
          rw [HR.out]
          have hb : Below w4.heap.size w4 w5 := Dr.below hd _
          clear hd
          replace p := p.below (hb.mono p.le)
          replace hA := hA.trans (hb.mono hA.size)
          have hz5 := hb.size
          clear hb
          go_wp2_with fail
          go_ret
          exact ⟨rfl, hA⟩
        · have d1 : decide (a < 0) = false := decide_eq_false (by omega)
          have d2 : decide (4 < a) = false := decide_eq_false (by omega)
          have d3 : decide (b < 0) = true := decide_eq_true h3
          go_wp2_with fail
          refine (iInBox_any _ _ _ P a b _ p.rd (by omega) (by omega)).mono ?_
          rintro e w2 ⟨rfl, hb⟩
          rw [HR.out]
          replace p := p.below (hb.mono p.le)
          replace hA := hA.trans (hb.mono hA.size)
          have hz2 := hb.size
          clear hb
          go_wp2_with fail
          refine (sInBox_any _ _ _ P a b _ p.rd (by omega)).mono ?_
          rintro e w3 ⟨rfl, hd⟩
          rw [HR.out]
          have hb : Below w2.heap.size w2 w3 := Dr.below hd _
          clear hd
          replace p := p.below (hb.mono p.le)
          replace hA := hA.trans (hb.mono hA.size)
          have hz3 := hb.size
          clear hb
          go_wp2_with fail
          refine (iValidParts_any _ _ _ P _ p.rd (by omega) (by omega)).mono ?_
          rintro e w4 ⟨rfl, hb⟩
          rw [HV.out]
          replace p := p.below (hb.mono p.le)
          replace hA := hA.trans (hb.mono hA.size)
          have hz4 := hb.size
          clear hb
          go_wp2_with fail
          refine (sInBox_any _ _ _ P a b _ p.rd (by omega)).mono ?_
          rintro e w5 ⟨rfl, hd⟩
          rw [HR.out]
          have hb : Below w4.heap.size w4 w5 := Dr.below hd _
          clear hd
          replace p := p.below (hb.mono p.le)
          replace hA := hA.trans (hb.mono hA.size)
          have hz5 := hb.size
          clear hb
          go_wp2_with fail
          go_ret
          exact ⟨rfl, hA⟩
        · have d1 : decide (a < 0) = false := decide_eq_false (by omega)
          have d2 : decide (4 < a) = false := decide_eq_false (by omega)
          have d3 : decide (b < 0) = false := decide_eq_false (by omega)
          have d4 : decide (4 < b) = true := decide_eq_true h4
          go_wp2_with fail
          refine (iInBox_any _ _ _ P a b _ p.rd (by omega) (by omega)).mono ?_
          rintro e w2 ⟨rfl, hb⟩
          rw [HR.out]
          replace p := p.below (hb.mono p.le)
          replace hA := hA.trans (hb.mono hA.size)
          have hz2 := hb.size
          clear hb
          go_wp2_with fail
          refine (sInBox_any _ _ _ P a b _ p.rd (by omega)).mono ?_
          rintro e w3 ⟨rfl, hd⟩
          rw [HR.out]
          have hb : Below w2.heap.size w2 w3 := Dr.below hd _
          clear hd
          replace p := p.below (hb.mono p.le)
          replace hA := hA.trans (hb.mono hA.size)
          have hz3 := hb.size
          clear hb
          go_wp2_with fail
          refine (iValidParts_any _ _ _ P _ p.rd (by omega) (by omega)).mono ?_
          rintro e w4 ⟨rfl, hb⟩
          rw [HV.out]
          replace p := p.below (hb.mono p.le)
          replace hA := hA.trans (hb.mono hA.size)
          have hz4 := hb.size
          clear hb
          go_wp2_with fail
          refine (sInBox_any _ _ _ P a b _ p.rd (by omega)).mono ?_
          rintro e w5 ⟨rfl, hd⟩
          rw [HR.out]
          have hb : Below w4.heap.size w4 w5 := Dr.below hd _
          clear hd
          replace p := p.below (hb.mono p.le)
          replace hA := hA.trans (hb.mono hA.size)
          have hz5 := hb.size
          clear hb
          go_wp2_with fail
          go_ret
          exact ⟨rfl, hA⟩
  · have hl' : 1048576 < bs.length := by omega
    go_enter Try.func4, Try.ntmps4
    go_wp2_with fail
    go_ret
    exact ⟨rfl, Below.refl _ _⟩

theorem own : ownKnob Try.prog.godebug = none := by kernel_rfl
theorem laidOut : laidOutB Try.prog = true := by kernel_rfl

set_option maxRecDepth 100000 in
theorem lifted (os : Os) (started : os.Started) (H : Type) (enc : TypeId × Value → H) :
    ReturnsInHanded {} Try.checked os 4 .any (Rows.fnInBoxSpec.pre6 enc Try.prog Try.f4 Rows.fnInBoxRow.domain false) (Rows.fnInBoxSpec.post enc Try.prog Try.f4 false true false false) := by
  refine returnsInHanded_of_change (C := Try.checked) own started (by kernel_rfl) Try.func4
    (ChangeSpec.witness6 (enc := enc) (C := Try.checked) false ⟨#[], #[.slice none 0 0], []⟩ 8 (by kernel_rfl) (by kernel_rfl) (by kernel_rfl) (by kernel_rfl)) ?_
  intro W base args ds gs before hval0 hW hcnd _
  have hval : ∀ (j : Nat) t v, Try.f4.params[j]? = some t → args[j]? = some v → Value.okWide Try.prog W .any base t v := hval0
  have hW' := hW
  obtain ⟨p, q, hA0, hV, rfl, hfz, hnd⟩ := hW
  have hA : DataW.TrodAll enc Try.prog W 0 (fun _ => true) true Try.f4.params.toList args.toList ds p := hA0
  rw [Try.params4] at hA hval
  obtain ⟨v0, vs0, d0, ds0, p0, q0, hargs, rfl, rfl, h0, r0⟩ := trodAll_cons hA
  obtain ⟨rfl, rfl, rfl⟩ := trodAll_nil r0
  obtain rfl : args = #[v0] := by cases args; simp_all
  obtain ⟨rfl, rfl⟩ := trodVars_none hV
  obtain ⟨a0, len0, cap0, rfl⟩ := okWide_slice Try.underlying26 (hval 0 26 v0 rfl rfl)
  have k0 := h0
  have lt0 : ∀ x ∈ p0, x.block < W.heap.size := by obtain ⟨m, hm⟩ := k0; exact DataW.trod_lt m _ _ _ hm
  obtain ⟨z0, w0⟩ : ∃ zs, IsRow .u8 W a0 len0 cap0 zs := by
    obtain ⟨fuel, hf⟩ := h0
    rcases open_ints Try.underlying26 Try.underlying5 (by kernel_rfl) hf with ⟨hcs, _⟩ | ⟨x, l, c, zs, hcs, _, hl, hm, hz, _, hcell, hwz⟩
    · simp [Value.cells] at hcs
      obtain ⟨rfl, rfl, rfl⟩ := hcs
      exact ⟨[], .inl ⟨rfl, rfl, rfl, rfl⟩⟩
    · simp [Value.cells] at hcs
      obtain ⟨rfl, rfl, rfl⟩ := hcs
      exact ⟨zs, .inr ⟨_, rfl, hl, hm, by simpa using hz, hcell, hwz⟩⟩
  have lc0 := w0.lc
  obtain ⟨L0, rfl, R0, wf0, m0⟩ := w0.rd
  clear hA0 hval0
  refine (walk a0 cap0 L0 W R0 wf0 m0 (by simpa using lc0)).mono fun e W' ⟨he, bel⟩ => ?_
  subst he
  exact ⟨_, rfl, _, _, _, [], _, [], hW', trodAll_mk1 (shut_bool Try.underlying4 _), (trodAll_cons_mk (Below.trod laidOut (by kernel_rfl) (of_decide_eq_true (by kernel_rfl)) k0 bel lt0) trodAll_mk0), rfl, bel.frame _, fun h => by cases h⟩

theorem over : Rows.fnInBoxRow.holds Try.pinned (OpenSpec.ofChange Rows.fnInBoxSpec) :=
  OpenClaim.holds_of_wide 4 Try.f4 rfl rfl rfl rfl rfl rfl rfl ⟨rfl, rfl, rfl, rfl, rfl⟩ rfl rfl rfl rfl rfl (by kernel_rfl) Try.func4 (by kernel_rfl)
    (of_decide_eq_true (by kernel_rfl)) (by unfold Func.isWrapper; first | (rw [if_pos (by decide +kernel)]; kernel_rfl) | (rw [if_neg (by decide +kernel)]; exact ⟨rfl, rfl⟩))
    (fun os started H enc _ => lifted os started H enc)

/-- the given statement -/
theorem proved : Rows.FnInBoxSaid := over
end Go.Proofs.Ytgbkaahmmpgjfaa.fnInBox
