/-
  'laws.FnGrowthsOf' returns true for every code, and the code reads as it did. No condition.
-/
import Derived.Test.YthafbdpeignccaaRows
import Derived.Test.YthafbdpeignccaaW140
import Derived.Test.YthafbdpeignccaaD30
import Derived.Test.YthafbdpeignccaaW4
import Derived.Test.YthafbdpeignccaaL1
import Derived.WalkKit
import Derived.ProofKit
import Derived.OpenShut
import Derived.ShutString
import Derived.ChangeOld
import Derived.Below
namespace Go.Proofs.Ythafbdpeignccaa.fnGrowthsOf
open Go.ChangeShapes Go.WideShapes Go.ChangeAt Go.RowKit NP
open Go.ChangeMaps (open_string shut_string)
set_option linter.unusedVariables false
theorem rmv_crn {P : List Int} (hv : valid P = true) {k : Nat} (hk : k < P.length) (hc : isC P k = true) : rmvOk P (k : Int) = true ∧ rmv P (k : Int) = lessL P k := by
  have h : rmvOk P (k : Int) = true := by unfold rmvOk; simp [hv, hk, hc]
  refine ⟨h, ?_⟩
  obtain ⟨k', e, -, -, -, e2⟩ := rmv_yes h
  rw [e2]
  congr 1
  omega

set_option maxHeartbeats 1600000 in
theorem walk (a : Option Addr) (c : Nat) (bs : List Int) (w0 : World) (h : Rd w0 w0.heap.size a (bs.map (Value.int .u8))) (hb : ∀ n ∈ bs, (Lit.int .u8 n).wf = true) (m : bs.length ≤ maxLen) (hc : bs.length ≤ c) :
    Calls Try.prog 8 #[.slice a bs.length c] w0 fun e w' => e = .returned (.bool true) ∧ Below w0.heap.size w0 w' := by
  unfold maxLen at m
  by_cases hl : bs.length ≤ 1048576
  · go_enter Try.func8, Try.ntmps8
    go_wp2_with fail
    refine (DrawGrowthsOf_any a c _ bs _ h (Nat.le_refl _) hb hl hc).mono ?_
    rintro e w1 ⟨a1, c1, P, rfl, p, hs1, hA⟩
    have hP := hs1.1
    clear h hb hl hc m hs1
    cases hok : gOk P with
    | true =>
      have hvs : valid P = true ∧ sumL P ≤ 12 := by simpa [gOk] using hok
      have hfa := gF_facts hvs.1 hvs.2
      have HE : Hid (gOF P = gF P) := Lib.hid (by unfold gOF; rw [hok]; rfl)
      have HV := Lib.hid hvs.1
      have HS := Lib.hid hvs.2
      have HC : Hid (crnF P = crn P) := Lib.hid (by unfold crnF; rw [hvs.1]; rfl)
      have HCL : Hid ((crn P).length ≤ 16) := Lib.hid (Nat.le_trans (fl_len (isC P) P.length) (valid_bd hvs.1).2.2.2)
      have hcv := valid_conj hvs.1
      have HCF : Hid ((conjF P).length ≤ 16) := Lib.hid (by rw [conjF_yes hvs.1]; exact (valid_bd hcv).2.2.2)
      have HCJ : Hid (gOF (conjF P) = gF P) := Lib.hid (by rw [conjF_yes hvs.1]; unfold gOF gOk; rw [hcv, decide_eq_true (show sumL (conj P) ≤ 12 by rw [sumL_conj hvs.1]; exact hvs.2)]; exact hfa.2.2.2)
      have hnn : ¬ gF P < 0 := by omega
      have hcl16 := HCL.out
      clear hok hvs hfa hcv
      go_wp2_with fail
      refine (iGrowthsOf_any _ _ _ P _ p.rd (by omega) (by omega)).mono ?_
      rintro e w2 ⟨rfl, hb⟩
      replace p := p.below (hb.mono p.le)
      replace hA := hA.trans (hb.mono hA.size)
      have hz2 := hb.size
      clear hb
      rw [HE.out]
      go_wp2_with fail
      refine (sGrowthsOf_any _ _ _ P _ p.rd (by omega) (by omega)).mono ?_
      rintro e w3 ⟨rfl, hb⟩
      replace p := p.below (hb.mono p.le)
      replace hA := hA.trans (hb.mono hA.size)
      have hz3 := hb.size
      clear hb
      rw [HE.out]
      go_wp2_with fail
      refine (iCornersOf_any _ _ _ P _ p.rd (by omega) (by omega)).mono ?_
      rintro e w4 ⟨a_en, c_en, rfl, en, hb⟩
      replace p := p.below (hb.mono p.le)
      replace hA := hA.trans (hb.mono hA.size)
      have hz4 := hb.size
      clear hb
      rw [HC.out] at en ⊢
      go_wp2_with fail
      have HA := Lib.hid hA
      have HEN := Lib.hid en
      have HPP := Lib.hid p
      obtain ⟨ws, hws⟩ : ∃ ws, ws = w4 := ⟨_, rfl⟩
      rw [← hws] at HA HEN HPP ⊢
      have hzA := HA.out.size
      clear hA en p hws
      go_loopw [5, 7] (fun oo ii wr => ∃ (j : Nat), oo = .int .i64 (sumBy (fun k => gF (lessL P k.toNat)) ((crn P).take j)) ∧ ii = .int .i64 (j : Int) ∧ j ≤ (crn P).length ∧ Hid (0 ≤ sumBy (fun k => gF (lessL P k.toNat)) ((crn P).take j) ∧ sumBy (fun k => gF (lessL P k.toNat)) ((crn P).take j) ≤ 10000 * (j : Int)) ∧ Below ws.heap.size ws wr) (fun _ ii _ => (crn P).length - (intOf ii).toNat)
      case atStart => exact ⟨0, rfl, rfl, Nat.zero_le _, Lib.hid ⟨by simp [sumBy], by simp [sumBy]⟩, Below.refl _ _⟩
      case round =>
        obtain ⟨j, rfl, rfl, hj, HB, hbel⟩ := hrel
        have hA := HA.out.trans (hbel.mono hzA)
        have hzr := hbel.size
        have hpr := HPP.out.below (hbel.mono HPP.out.le)
        by_cases hjl : j < (crn P).length
        · have hjl' : (j : Int) < ((crn P).length : Int) := by omega
          obtain ⟨k, hke, hkP, hkC⟩ := crn_at hjl
          have hoj := (HEN.out.below (hbel.mono HEN.out.le)).more
          obtain ⟨g, c', hvv, -, -, hcell, -⟩ := hoj.at_ (k := j) (by simpa using hjl)
          injection hvv with hvv hvn hvc
          subst hvv
          have hcx : wr.cell? ⟨g, j, none⟩ = some (.int .i64 (k : Int)) := by rw [hcell]; simp [ints, hke]
          have htk := List.take_succ_eq_append_getElem hjl
          have hvL := valid_less HV.out hkP hkC
          have hsL := less_sum HV.out hkP hkC
          have hsP := HS.out
          have hfL := gF_facts hvL (by rw [hsL]; omega)
          have hrm := rmv_crn HV.out hkP hkC
          have HRM := Lib.hid hrm
          have HGL : Hid (gOF (lessL P k) = gF (lessL P k)) := Lib.hid (by unfold gOF gOk; rw [hvL, decide_eq_true (show sumL (lessL P k) ≤ 12 by omega)]; rfl)
          have hLL : (lessL P k).length ≤ 16 := (valid_bd hvL).2.2.2
          have HNX : Hid (sumBy (fun k => gF (lessL P k.toNat)) ((crn P).take (j + 1)) = sumBy (fun k => gF (lessL P k.toNat)) ((crn P).take j) + gF (lessL P k)) := Lib.hid (by
            rw [htk, sumBy_snoc, hke, Int.toNat_natCast])
          obtain ⟨s, hs⟩ : ∃ s, sumBy (fun k => gF (lessL P k.toNat)) ((crn P).take j) = s := ⟨_, rfl⟩
          obtain ⟨q, hq⟩ : ∃ q, gF (lessL P k) = q := ⟨_, rfl⟩
          rw [hs] at HB HNX ⊢
          rw [hq] at HNX HGL hfL
          have hb1 := HB.out
          have hq1 := hfL.2
          have HX : Hid (0 ≤ s + q ∧ s + q ≤ 10000 * ((j + 1 : Nat) : Int)) := Lib.hid ⟨by omega, by omega⟩
          have hws : IntKind.i64.wrap (s + q) = s + q := IntWalk.i64_in _ (by have := HCL.out; omega)
          clear hvn hvc hcell htk hvL hsL hfL hs hq hb1 hq1 HB hrm hsP
          go_wp2_with fail
          refine (iRemoveCell_any _ _ _ P (k : Int) _ hpr.rd hpr.le (by omega)).mono ?_
          rintro e wx ⟨a2, c2, rfl, ho2, hb2⟩
          rw [HRM.out.2] at ho2 ⊢
          rw [HRM.out.1]
          have hz2 := hb2.size
          go_wp2_with fail
          refine (iGrowthsOf_any _ _ _ (lessL P k) _ ho2.rd ho2.le (by omega)).mono ?_
          rintro e wy ⟨rfl, hb3⟩
          rw [HGL.out]
          go_wp2_with fail
          go_roundw
          case rel => exact ⟨j + 1, by rw [HNX.out], by go_num, by omega, by rw [HNX.out]; exact HX, (hbel.trans (hb2.mono hzr)).trans (hb3.mono (by omega))⟩
          case measure => simp [intOf] <;> omega
        · obtain rfl : j = (crn P).length := by omega
          rw [List.take_length]
          have hzp := hpr.le
          have HCJ2 := HCJ
          clear hjl HB
          cases hP : P with
          | nil =>
            subst hP
            have hg1 : (gF [] == 1) = true := by decide
            have hCF : conjF ([] : List Int) = [] := by decide
            have HCF := Lib.hid hCF
            have HE0 := HE
            clear hCF
            go_wp2_with fail
            refine (iConjugateOf_any _ _ _ [] _ hpr.rd hpr.le (by simp)).mono ?_
            rintro e wx ⟨a2, c2, rfl, ho2, hb2⟩
            rw [HCF.out] at ho2 ⊢
            have hz2 := hb2.size
            go_wp2_with fail
            refine (iGrowthsOf_any _ _ _ [] _ ho2.rd ho2.le (by simp)).mono ?_
            rintro e wy ⟨rfl, hb3⟩
            rw [HE0.out]
            go_wp2_with fail
            go_ret
            exact ⟨rfl, (hA.trans (hb2.mono (by omega))).trans (hb3.mono (by omega))⟩
          | cons y r =>
            rw [← hP]
            have hne : ((P.length : Int) == 0) = false := beq_eq_false_iff_ne.2 (by rw [hP]; simp <;> omega)
            have hpos : (0 : Int) < (P.length : Int) := by rw [hP]; simp <;> omega
            have HSUM : Hid (sumBy (fun k => gF (lessL P k.toNat)) (crn P) = gF P) := Lib.hid (by rw [(gF_facts HV.out HS.out).1, if_neg (by rw [hP]; simp)])
            rw [HSUM.out]
            clear hP
            go_wp2_with fail
            refine (iConjugateOf_any _ _ _ P _ hpr.rd hpr.le (by omega)).mono ?_
            rintro e wx ⟨a2, c2, rfl, ho2, hb2⟩
            have hz2 := hb2.size
            have hcl : (conjF P).length ≤ 4611686018427387904 := by have := HCF.out; omega
            go_wp2_with fail
            refine (iGrowthsOf_any _ _ _ (conjF P) _ ho2.rd ho2.le hcl).mono ?_
            rintro e wy ⟨rfl, hb3⟩
            rw [HCJ2.out]
            go_wp2_with fail
            go_ret
            exact ⟨rfl, (hA.trans (hb2.mono (by omega))).trans (hb3.mono (by omega))⟩
    | false =>
      have HE : Hid (gOF P = -1) := Lib.hid (by unfold gOF; rw [hok]; rfl)
      clear hok
      go_wp2_with fail
      refine (iGrowthsOf_any _ _ _ P _ p.rd (by omega) (by omega)).mono ?_
      rintro e w2 ⟨rfl, hb⟩
      replace p := p.below (hb.mono p.le)
      replace hA := hA.trans (hb.mono hA.size)
      have hz2 := hb.size
      clear hb
      rw [HE.out]
      go_wp2_with fail
      refine (sGrowthsOf_any _ _ _ P _ p.rd (by omega) (by omega)).mono ?_
      rintro e w3 ⟨rfl, hb⟩
      replace p := p.below (hb.mono p.le)
      replace hA := hA.trans (hb.mono hA.size)
      have hz3 := hb.size
      clear hb
      rw [HE.out]
      go_wp2_with fail
      refine (sGrowthsOf_any _ _ _ P _ p.rd (by omega) (by omega)).mono ?_
      rintro e w4 ⟨rfl, hb⟩
      replace p := p.below (hb.mono p.le)
      replace hA := hA.trans (hb.mono hA.size)
      have hz4 := hb.size
      clear hb
      rw [HE.out]
      go_wp2_with fail
      go_ret
      exact ⟨rfl, hA⟩
  · have hl' : 1048576 < bs.length := by omega
    go_enter Try.func8, Try.ntmps8
    go_wp2_with fail
    go_ret
    exact ⟨rfl, Below.refl _ _⟩

theorem own : ownKnob Try.prog.godebug = none := by kernel_rfl
theorem laidOut : laidOutB Try.prog = true := by kernel_rfl

set_option maxRecDepth 100000 in
theorem lifted (os : Os) (started : os.Started) (H : Type) (enc : TypeId × Value → H) :
    ReturnsInHanded {} Try.checked os 8 .any (Rows.fnGrowthsOfSpec.pre6 enc Try.prog Try.f8 Rows.fnGrowthsOfRow.domain false) (Rows.fnGrowthsOfSpec.post enc Try.prog Try.f8 false true false false) := by
  refine returnsInHanded_of_change (C := Try.checked) own started (by kernel_rfl) Try.func8
    (ChangeSpec.witness6 (enc := enc) (C := Try.checked) false ⟨#[], #[.slice none 0 0], []⟩ 8 (by kernel_rfl) (by kernel_rfl) (by kernel_rfl) (by kernel_rfl)) ?_
  intro W base args ds gs before hval0 hW hcnd _
  have hval : ∀ (j : Nat) t v, Try.f8.params[j]? = some t → args[j]? = some v → Value.okWide Try.prog W .any base t v := hval0
  have hW' := hW
  obtain ⟨p, q, hA0, hV, rfl, hfz, hnd⟩ := hW
  have hA : DataW.TrodAll enc Try.prog W 0 (fun _ => true) true Try.f8.params.toList args.toList ds p := hA0
  rw [Try.params8] at hA hval
  obtain ⟨v0, vs0, d0, ds0, p0, q0, hargs, rfl, rfl, h0, r0⟩ := trodAll_cons hA
  obtain ⟨rfl, rfl, rfl⟩ := trodAll_nil r0
  obtain rfl : args = #[v0] := by cases args; simp_all
  obtain ⟨rfl, rfl⟩ := trodVars_none hV
  obtain ⟨a0, len0, cap0, rfl⟩ := okWide_slice Try.underlying29 (hval 0 29 v0 rfl rfl)
  have k0 := h0
  have lt0 : ∀ x ∈ p0, x.block < W.heap.size := by obtain ⟨m, hm⟩ := k0; exact DataW.trod_lt m _ _ _ hm
  obtain ⟨z0, w0⟩ : ∃ zs, IsRow .u8 W a0 len0 cap0 zs := by
    obtain ⟨fuel, hf⟩ := h0
    rcases open_ints Try.underlying29 Try.underlying5 (by kernel_rfl) hf with ⟨hcs, _⟩ | ⟨x, l, c, zs, hcs, _, hl, hm, hz, _, hcell, hwz⟩
    · simp [Value.cells] at hcs
      obtain ⟨rfl, rfl, rfl⟩ := hcs
      exact ⟨[], .inl ⟨rfl, rfl, rfl, rfl⟩⟩
    · simp [Value.cells] at hcs
      obtain ⟨rfl, rfl, rfl⟩ := hcs
      exact ⟨zs, .inr ⟨_, rfl, hl, hm, by simpa using hz, hcell, hwz⟩⟩
  have lc0 := w0.lc
  obtain ⟨L0, rfl, R0, wf0, m0⟩ := w0.rd
  clear hA0 hval0
  refine (walk a0 cap0 L0 W R0 wf0 m0 (by simpa using lc0)).mono fun e W' ⟨he, bel⟩ => ?_
  subst he
  exact ⟨_, rfl, _, _, _, [], _, [], hW', trodAll_mk1 (shut_bool Try.underlying4 _), (trodAll_cons_mk (Below.trod laidOut (by kernel_rfl) (of_decide_eq_true (by kernel_rfl)) k0 bel lt0) trodAll_mk0), rfl, bel.frame _, fun h => by cases h⟩

theorem over : Rows.fnGrowthsOfRow.holds Try.pinned (OpenSpec.ofChange Rows.fnGrowthsOfSpec) :=
  OpenClaim.holds_of_wide 8 Try.f8 rfl rfl rfl rfl rfl rfl rfl ⟨rfl, rfl, rfl, rfl, rfl⟩ rfl rfl rfl rfl rfl (by kernel_rfl) Try.func8 (by kernel_rfl)
    (of_decide_eq_true (by kernel_rfl)) (by unfold Func.isWrapper; first | (rw [if_pos (by decide +kernel)]; kernel_rfl) | (rw [if_neg (by decide +kernel)]; exact ⟨rfl, rfl⟩))
    (fun os started H enc _ => lifted os started H enc)

/-- the given statement -/
theorem proved : Rows.FnGrowthsOfSaid := over
end Go.Proofs.Ythafbdpeignccaa.fnGrowthsOf
