/-
  'laws.FnValidSums' returns true for every code, and the code reads as it did. No condition.
-/
import Derived.Test.YtgbkaahmmpgjfaaRows
import Derived.Test.YtgbkaahmmpgjfaaW77
import Derived.Test.YtgbkaahmmpgjfaaD15
import Derived.Test.YtgbkaahmmpgjfaaL1
import Derived.WalkKit
import Derived.ProofKit
import Derived.OpenShut
import Derived.ShutString
import Derived.ChangeOld
import Derived.Below
namespace Go.Proofs.Ytgbkaahmmpgjfaa.fnValidSums
open Go.ChangeShapes Go.WideShapes Go.ChangeAt Go.RowKit NP
open Go.ChangeMaps (open_string shut_string)
set_option linter.unusedVariables false

set_option maxHeartbeats 1600000 in
theorem walk (a : Option Addr) (c : Nat) (bs : List Int) (w0 : World) (h : Rd w0 w0.heap.size a (bs.map (Value.int .u8))) (hb : ∀ n ∈ bs, (Lit.int .u8 n).wf = true) (m : bs.length ≤ maxLen) (hc : bs.length ≤ c) :
    Calls Try.prog 12 #[.slice a bs.length c] w0 fun e w' => e = .returned (.bool true) ∧ Below w0.heap.size w0 w' := by
  unfold maxLen at m
  by_cases hl : bs.length ≤ 1048576
  · go_enter Try.func12, Try.ntmps12
    go_wp2_with fail
    refine (DrawValidSums_any a c _ bs _ h (Nat.le_refl _) hb hl hc).mono ?_
    rintro e w1 ⟨a1, c1, P, rfl, p, hs1, hA⟩
    have hP := hs1.1
    clear h hb hl hc m hs1
    cases hv : vsm P with
    | true =>
      have HV := Lib.hid hv
      have hb0 := vsm_bd hv
      have hpos := (vsm_iff.1 hv).1
      have HFIT := Lib.hid (vsm_sumFits hv)
      have HPV := Lib.hid (posF_valid P)
      have hpl := posF_len P
      have HT : Hid (∀ k, vsm (P.take k) = true) := Lib.hid (fun k => vsm_take hv k)
      clear hv hb0 hpos
      go_wp2_with fail
      refine (iValidSums_any _ _ _ P _ p.rd (by omega) (by omega)).mono ?_
      rintro e w2 ⟨rfl, hb⟩
      replace p := p.below (hb.mono p.le)
      replace hA := hA.trans (hb.mono hA.size)
      have hz2 := hb.size
      clear hb
      rw [HV.out]
      go_wp2_with fail
      refine (sValidSums_any _ _ _ P _ p.rd (by omega)).mono ?_
      rintro e w' ⟨rfl, rfl⟩
      rw [HV.out]
      go_wp2_with fail
      refine (iPartsOfSums_any _ _ _ P _ p.rd (by omega) (by omega)).mono ?_
      rintro e w3 ⟨a_ot, c_ot, rfl, ot, hb⟩
      replace p := p.below (hb.mono p.le)
      replace hA := hA.trans (hb.mono hA.size)
      have hz3 := hb.size
      clear hb
      go_wp2_with fail
      refine (iValidParts_any _ _ _ (posF P) _ ot.rd (by omega) (by omega)).mono ?_
      rintro e w4 ⟨rfl, hb⟩
      replace p := p.below (hb.mono p.le)
      replace ot := ot.below (hb.mono ot.le)
      replace hA := hA.trans (hb.mono hA.size)
      have hz4 := hb.size
      clear hb
      rw [HPV.out]
      by_cases h0 : P.length = 0
      · have e0 : ((P.length : Int) == 0) = true := beq_iff_eq.2 (by omega)
        go_wp2_with fail
        go_ret
        exact ⟨rfl, hA⟩
      · have e0 : ((P.length : Int) == 0) = false := beq_eq_false_iff_ne.2 (by omega)
        obtain ⟨j, hj⟩ : ∃ j : Nat, P.length = j + 1 := ⟨P.length - 1, by omega⟩
        have ej : ((P.length : Int) - 1) = (j : Int) := by omega
        have hR := p.rd.take j
        have HRT : Hid (Rd w4 _ a1 (ints (P.take j))) := Lib.hid (by rw [ints, List.map_take]; exact hR)
        have hjl : (P.take j).length = j := by rw [List.length_take]; omega
        have hjc : (j : Int) ≤ (c1 : Int) := by
          obtain ⟨g, c2, e2, hc2⟩ := p.formN (by simp; omega)
          injection e2 with _ _ e3
          simp at hc2
          omega
        have hcall := iValidSums_any a1 c1 _ (P.take j) _ HRT.out p.le (by omega)
        rw [hjl, HT.out j] at hcall
        have HCALL := Lib.hid hcall
        clear hcall hR hjl hj
        go_wp2_with fail
        refine (HCALL.out).mono ?_
        rintro e w9 ⟨rfl, hb⟩
        replace hA := hA.trans (hb.mono hA.size)
        clear hb
        go_wp2_with fail
        go_ret
        exact ⟨rfl, hA⟩
    | false =>
      have HV := Lib.hid hv
      clear hv
      go_wp2_with fail
      refine (iValidSums_any _ _ _ P _ p.rd (by omega) (by omega)).mono ?_
      rintro e w2 ⟨rfl, hb⟩
      replace p := p.below (hb.mono p.le)
      replace hA := hA.trans (hb.mono hA.size)
      have hz2 := hb.size
      clear hb
      rw [HV.out]
      go_wp2_with fail
      refine (sValidSums_any _ _ _ P _ p.rd (by omega)).mono ?_
      rintro e w' ⟨rfl, rfl⟩
      rw [HV.out]
      go_wp2_with fail
      refine (sValidSums_any _ _ _ P _ p.rd (by omega)).mono ?_
      rintro e w' ⟨rfl, rfl⟩
      rw [HV.out]
      go_wp2_with fail
      go_ret
      exact ⟨rfl, hA⟩
  · have hl' : 1048576 < bs.length := by omega
    go_enter Try.func12, Try.ntmps12
    go_wp2_with fail
    go_ret
    exact ⟨rfl, Below.refl _ _⟩

theorem own : ownKnob Try.prog.godebug = none := by kernel_rfl
theorem laidOut : laidOutB Try.prog = true := by kernel_rfl

set_option maxRecDepth 100000 in
theorem lifted (os : Os) (started : os.Started) (H : Type) (enc : TypeId × Value → H) :
    ReturnsInHanded {} Try.checked os 12 .any (Rows.fnValidSumsSpec.pre6 enc Try.prog Try.f12 Rows.fnValidSumsRow.domain false) (Rows.fnValidSumsSpec.post enc Try.prog Try.f12 false true false false) := by
  refine returnsInHanded_of_change (C := Try.checked) own started (by kernel_rfl) Try.func12
    (ChangeSpec.witness6 (enc := enc) (C := Try.checked) false ⟨#[], #[.slice none 0 0], []⟩ 8 (by kernel_rfl) (by kernel_rfl) (by kernel_rfl) (by kernel_rfl)) ?_
  intro W base args ds gs before hval0 hW hcnd _
  have hval : ∀ (j : Nat) t v, Try.f12.params[j]? = some t → args[j]? = some v → Value.okWide Try.prog W .any base t v := hval0
  have hW' := hW
  obtain ⟨p, q, hA0, hV, rfl, hfz, hnd⟩ := hW
  have hA : DataW.TrodAll enc Try.prog W 0 (fun _ => true) true Try.f12.params.toList args.toList ds p := hA0
  rw [Try.params12] at hA hval
  obtain ⟨v0, vs0, d0, ds0, p0, q0, hargs, rfl, rfl, h0, r0⟩ := trodAll_cons hA
  obtain ⟨rfl, rfl, rfl⟩ := trodAll_nil r0
  obtain rfl : args = #[v0] := by cases args; simp_all
  obtain ⟨rfl, rfl⟩ := trodVars_none hV
  obtain ⟨a0, len0, cap0, rfl⟩ := okWide_slice Try.underlying26 (hval 0 26 v0 rfl rfl)
  have k0 := h0
  have lt0 : ∀ x ∈ p0, x.block < W.heap.size := by obtain ⟨m, hm⟩ := k0; exact DataW.trod_lt m _ _ _ hm
  obtain ⟨z0, w0⟩ : ∃ zs, IsRow .u8 W a0 len0 cap0 zs := by
    obtain ⟨fuel, hf⟩ := h0
    rcases open_ints Try.underlying26 Try.underlying5 (by kernel_rfl) hf with ⟨hcs, _⟩ | ⟨x, l, c, zs, hcs, _, hl, hm, hz, _, hcell, hwz⟩
    · simp [Value.cells] at hcs
      obtain ⟨rfl, rfl, rfl⟩ := hcs
      exact ⟨[], .inl ⟨rfl, rfl, rfl, rfl⟩⟩
    · simp [Value.cells] at hcs
      obtain ⟨rfl, rfl, rfl⟩ := hcs
      exact ⟨zs, .inr ⟨_, rfl, hl, hm, by simpa using hz, hcell, hwz⟩⟩
  have lc0 := w0.lc
  obtain ⟨L0, rfl, R0, wf0, m0⟩ := w0.rd
  clear hA0 hval0
  refine (walk a0 cap0 L0 W R0 wf0 m0 (by simpa using lc0)).mono fun e W' ⟨he, bel⟩ => ?_
  subst he
  exact ⟨_, rfl, _, _, _, [], _, [], hW', trodAll_mk1 (shut_bool Try.underlying4 _), (trodAll_cons_mk (Below.trod laidOut (by kernel_rfl) (of_decide_eq_true (by kernel_rfl)) k0 bel lt0) trodAll_mk0), rfl, bel.frame _, fun h => by cases h⟩

theorem over : Rows.fnValidSumsRow.holds Try.pinned (OpenSpec.ofChange Rows.fnValidSumsSpec) :=
  OpenClaim.holds_of_wide 12 Try.f12 rfl rfl rfl rfl rfl rfl rfl ⟨rfl, rfl, rfl, rfl, rfl⟩ rfl rfl rfl rfl rfl (by kernel_rfl) Try.func12 (by kernel_rfl)
    (of_decide_eq_true (by kernel_rfl)) (by unfold Func.isWrapper; first | (rw [if_pos (by decide +kernel)]; kernel_rfl) | (rw [if_neg (by decide +kernel)]; exact ⟨rfl, rfl⟩))
    (fun os started H enc _ => lifted os started H enc)

/-- the given statement -/
theorem proved : Rows.FnValidSumsSaid := over
end Go.Proofs.Ytgbkaahmmpgjfaa.fnValidSums
