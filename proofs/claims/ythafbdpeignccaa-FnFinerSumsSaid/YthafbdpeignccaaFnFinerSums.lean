/-
  'laws.FnFinerSums' returns true for every code, and the code reads as it did. No condition.
-/
import Derived.Test.YthafbdpeignccaaRows
import Derived.Test.YthafbdpeignccaaZR1
import Derived.Test.YthafbdpeignccaaZR2
import Derived.Test.YthafbdpeignccaaZR3
import Derived.Test.YthafbdpeignccaaZR4
import Derived.Test.YthafbdpeignccaaZR5
import Derived.Test.YthafbdpeignccaaZR6
import Derived.Test.YthafbdpeignccaaZR7
import Derived.Test.YthafbdpeignccaaZR8
import Derived.Test.YthafbdpeignccaaZR9
import Derived.Test.YthafbdpeignccaaZR10
import Derived.Test.YthafbdpeignccaaZU1
import Derived.Test.YthafbdpeignccaaZU2
import Derived.Test.YthafbdpeignccaaZU3
import Derived.WalkKit
import Derived.ProofKit
import Derived.OpenShut
import Derived.ShutString
import Derived.ChangeOld
import Derived.Below
namespace Go.Proofs.Ythafbdpeignccaa.fnFinerSums
open Go.ChangeShapes Go.WideShapes Go.ChangeAt Go.RowKit NP
open Go.ChangeMaps (open_string shut_string)
set_option linter.unusedVariables false

set_option maxRecDepth 100000 in
set_option maxHeartbeats 1600000 in
theorem walk (a : Option Addr) (c : Nat) (bs : List Int) (w0 : World) (h : Rd w0 w0.heap.size a (bs.map (Value.int .u8))) (hb : ∀ n ∈ bs, (Lit.int .u8 n).wf = true) (m : bs.length ≤ maxLen) (hc : bs.length ≤ c) :
    Calls Try.prog 12 #[.slice a bs.length c] w0 fun e w' => e = .returned (.bool true) ∧ Below w0.heap.size w0 w' := by
  unfold maxLen at m
  by_cases hl : bs.length ≤ 1048576
  · go_enter Try.func12, Try.ntmps12
    go_wp2_with fail
    refine (DrawFinerSums_any a c _ bs _ h (Nat.le_refl _) hb hl hc).mono ?_
    rintro e w1 ⟨a1, c1, P, a2, c2, Q, rfl, p, q, hs1, hs2, hA⟩
    have hP := hs1.1
    have hQ := hs2.1
    clear h hb hl hc m hs1 hs2
    cases hv : (vsm P && vsm Q) with
    | true =>
      have hp : vsm P = true := by simp at hv; exact hv.1
      have hq : vsm Q = true := by simp at hv; exact hv.2
      have HV1 := Lib.hid hp
      have HV2 := Lib.hid hq
      have HO1 := Lib.hid (oppF_yes hp)
      have HO2 := Lib.hid (oppF_yes hq)
      have HP1 := Lib.hid (posF_yes hp)
      have HP2 := Lib.hid (posF_yes hq)
      have hl1 := oppF_len P
      have hl2 := oppF_len Q
      have hm1 : (mrg P).length ≤ 40 := by rw [mrg_len]; exact hP
      have hm2 : (mrg Q).length ≤ 40 := by rw [mrg_len]; exact hQ
      have HFO := Lib.hid (finF_opp hp hq)
      rw [oppF_yes hp] at hl1
      rw [oppF_yes hq] at hl2
      cases hd : finF P Q with
      | true =>
        have HD := Lib.hid hd
        have HRF := Lib.hid (fin_rf hd)
        clear hv hp hq hd
        go_wp2_with fail
        refine (iFinerSums_any _ _ _ _ _ _ P Q _ p.rd q.rd (by omega) (by omega) (by omega) (by omega)).mono ?_
        rintro e w2 ⟨rfl, hb⟩
        replace p := p.below (hb.mono p.le)
        replace q := q.below (hb.mono q.le)
        replace hA := hA.trans (hb.mono hA.size)
        have hz2 := hb.size
        clear hb
        rw [HD.out]
        go_wp2_with fail
        refine (sFinerSums_any _ _ _ _ _ _ P Q _ p.rd q.rd (by omega) (by omega)).mono ?_
        rintro e w' ⟨rfl, rfl⟩
        rw [HD.out]
        go_wp2_with fail
        refine (iValidSums_any _ _ _ P _ p.rd (by omega) (by omega)).mono ?_
        rintro e w3 ⟨rfl, hb⟩
        replace p := p.below (hb.mono p.le)
        replace q := q.below (hb.mono q.le)
        replace hA := hA.trans (hb.mono hA.size)
        have hz3 := hb.size
        clear hb
        rw [HV1.out]
        go_wp2_with fail
        refine (iValidSums_any _ _ _ Q _ q.rd (by omega) (by omega)).mono ?_
        rintro e w4 ⟨rfl, hb⟩
        replace p := p.below (hb.mono p.le)
        replace q := q.below (hb.mono q.le)
        replace hA := hA.trans (hb.mono hA.size)
        have hz4 := hb.size
        clear hb
        rw [HV2.out]
        go_wp2_with fail
        refine (iOppositeSums_any _ _ _ Q _ q.rd (by omega) (by omega)).mono ?_
        rintro e w5 ⟨a_oq, c_oq, rfl, oq, hb⟩
        replace p := p.below (hb.mono p.le)
        replace q := q.below (hb.mono q.le)
        replace hA := hA.trans (hb.mono hA.size)
        have hz5 := hb.size
        clear hb
        rw [HO2.out] at oq ⊢
        go_wp2_with fail
        refine (iOppositeSums_any _ _ _ P _ p.rd (by omega) (by omega)).mono ?_
        rintro e w6 ⟨a_op, c_op, rfl, op, hb⟩
        replace p := p.below (hb.mono p.le)
        replace q := q.below (hb.mono q.le)
        replace oq := oq.below (hb.mono oq.le)
        replace hA := hA.trans (hb.mono hA.size)
        have hz6 := hb.size
        clear hb
        rw [HO1.out] at op ⊢
        go_wp2_with fail
        refine (iFinerSums_any _ _ _ _ _ _ (opp Q) (opp P) _ oq.rd op.rd (by omega) (by omega) (by omega) (by omega)).mono ?_
        rintro e w7 ⟨rfl, hb⟩
        replace p := p.below (hb.mono p.le)
        replace q := q.below (hb.mono q.le)
        replace oq := oq.below (hb.mono oq.le)
        replace op := op.below (hb.mono op.le)
        replace hA := hA.trans (hb.mono hA.size)
        have hz7 := hb.size
        clear hb
        rw [HFO.out, HD.out]
        go_wp2_with fail
        refine (iPartsOfSums_any _ _ _ P _ p.rd (by omega) (by omega)).mono ?_
        rintro e w8 ⟨a_pp, c_pp, rfl, pp, hb⟩
        replace p := p.below (hb.mono p.le)
        replace q := q.below (hb.mono q.le)
        replace oq := oq.below (hb.mono oq.le)
        replace op := op.below (hb.mono op.le)
        replace hA := hA.trans (hb.mono hA.size)
        have hz8 := hb.size
        clear hb
        rw [HP1.out] at pp ⊢
        go_wp2_with fail
        refine (iPartsOfSums_any _ _ _ Q _ q.rd (by omega) (by omega)).mono ?_
        rintro e w9 ⟨a_pq, c_pq, rfl, pq, hb⟩
        replace p := p.below (hb.mono p.le)
        replace q := q.below (hb.mono q.le)
        replace oq := oq.below (hb.mono oq.le)
        replace op := op.below (hb.mono op.le)
        replace pp := pp.below (hb.mono pp.le)
        replace hA := hA.trans (hb.mono hA.size)
        have hz9 := hb.size
        clear hb
        rw [HP2.out] at pq ⊢
        go_wp2_with fail
        refine (iRefines_any _ _ _ _ _ _ (mrg P) (mrg Q) _ pp.rd pq.rd (by omega) (by omega) (by omega) (by omega)).mono ?_
        rintro e w10 ⟨rfl, hb⟩
        replace p := p.below (hb.mono p.le)
        replace q := q.below (hb.mono q.le)
        replace oq := oq.below (hb.mono oq.le)
        replace op := op.below (hb.mono op.le)
        replace pp := pp.below (hb.mono pp.le)
        replace pq := pq.below (hb.mono pq.le)
        replace hA := hA.trans (hb.mono hA.size)
        have hz10 := hb.size
        clear hb
        rw [HRF.out]
        go_wp2_with fail
        go_ret
        exact ⟨rfl, hA⟩
      | false =>
        have HD := Lib.hid hd
        clear hv hp hq hd
        go_wp2_with fail
        refine (iFinerSums_any _ _ _ _ _ _ P Q _ p.rd q.rd (by omega) (by omega) (by omega) (by omega)).mono ?_
        rintro e w2 ⟨rfl, hb⟩
        replace p := p.below (hb.mono p.le)
        replace q := q.below (hb.mono q.le)
        replace hA := hA.trans (hb.mono hA.size)
        have hz2 := hb.size
        clear hb
        rw [HD.out]
        go_wp2_with fail
        refine (sFinerSums_any _ _ _ _ _ _ P Q _ p.rd q.rd (by omega) (by omega)).mono ?_
        rintro e w' ⟨rfl, rfl⟩
        rw [HD.out]
        go_wp2_with fail
        refine (iValidSums_any _ _ _ P _ p.rd (by omega) (by omega)).mono ?_
        rintro e w3 ⟨rfl, hb⟩
        replace p := p.below (hb.mono p.le)
        replace q := q.below (hb.mono q.le)
        replace hA := hA.trans (hb.mono hA.size)
        have hz3 := hb.size
        clear hb
        rw [HV1.out]
        go_wp2_with fail
        refine (iValidSums_any _ _ _ Q _ q.rd (by omega) (by omega)).mono ?_
        rintro e w4 ⟨rfl, hb⟩
        replace p := p.below (hb.mono p.le)
        replace q := q.below (hb.mono q.le)
        replace hA := hA.trans (hb.mono hA.size)
        have hz4 := hb.size
        clear hb
        rw [HV2.out]
        go_wp2_with fail
        refine (iOppositeSums_any _ _ _ Q _ q.rd (by omega) (by omega)).mono ?_
        rintro e w5 ⟨a_oq, c_oq, rfl, oq, hb⟩
        replace p := p.below (hb.mono p.le)
        replace q := q.below (hb.mono q.le)
        replace hA := hA.trans (hb.mono hA.size)
        have hz5 := hb.size
        clear hb
        rw [HO2.out] at oq ⊢
        go_wp2_with fail
        refine (iOppositeSums_any _ _ _ P _ p.rd (by omega) (by omega)).mono ?_
        rintro e w6 ⟨a_op, c_op, rfl, op, hb⟩
        replace p := p.below (hb.mono p.le)
        replace q := q.below (hb.mono q.le)
        replace oq := oq.below (hb.mono oq.le)
        replace hA := hA.trans (hb.mono hA.size)
        have hz6 := hb.size
        clear hb
        rw [HO1.out] at op ⊢
        go_wp2_with fail
        refine (iFinerSums_any _ _ _ _ _ _ (opp Q) (opp P) _ oq.rd op.rd (by omega) (by omega) (by omega) (by omega)).mono ?_
        rintro e w7 ⟨rfl, hb⟩
        replace p := p.below (hb.mono p.le)
        replace q := q.below (hb.mono q.le)
        replace oq := oq.below (hb.mono oq.le)
        replace op := op.below (hb.mono op.le)
        replace hA := hA.trans (hb.mono hA.size)
        have hz7 := hb.size
        clear hb
        rw [HFO.out, HD.out]
        go_wp2_with fail
        go_ret
        exact ⟨rfl, hA⟩
    | false =>
      have HD : Hid (finF P Q = false) := Lib.hid (by unfold finF; rw [hv]; rfl)
      cases hp : vsm P with
      | true =>
        have hq : vsm Q = false := by rw [hp] at hv; simpa using hv
        have HV1 := Lib.hid hp
        have HV2 := Lib.hid hq
        clear hv hp hq
        go_wp2_with fail
        refine (iFinerSums_any _ _ _ _ _ _ P Q _ p.rd q.rd (by omega) (by omega) (by omega) (by omega)).mono ?_
        rintro e w2 ⟨rfl, hb⟩
        replace p := p.below (hb.mono p.le)
        replace q := q.below (hb.mono q.le)
        replace hA := hA.trans (hb.mono hA.size)
        have hz2 := hb.size
        clear hb
        rw [HD.out]
        go_wp2_with fail
        refine (sFinerSums_any _ _ _ _ _ _ P Q _ p.rd q.rd (by omega) (by omega)).mono ?_
        rintro e w' ⟨rfl, rfl⟩
        rw [HD.out]
        go_wp2_with fail
        refine (iValidSums_any _ _ _ P _ p.rd (by omega) (by omega)).mono ?_
        rintro e w3 ⟨rfl, hb⟩
        replace p := p.below (hb.mono p.le)
        replace q := q.below (hb.mono q.le)
        replace hA := hA.trans (hb.mono hA.size)
        have hz3 := hb.size
        clear hb
        rw [HV1.out]
        go_wp2_with fail
        refine (iValidSums_any _ _ _ Q _ q.rd (by omega) (by omega)).mono ?_
        rintro e w4 ⟨rfl, hb⟩
        replace p := p.below (hb.mono p.le)
        replace q := q.below (hb.mono q.le)
        replace hA := hA.trans (hb.mono hA.size)
        have hz4 := hb.size
        clear hb
        rw [HV2.out]
        go_wp2_with fail
        refine (sFinerSums_any _ _ _ _ _ _ P Q _ p.rd q.rd (by omega) (by omega)).mono ?_
        rintro e w' ⟨rfl, rfl⟩
        rw [HD.out]
        go_wp2_with fail
        go_ret
        exact ⟨rfl, hA⟩
      | false =>
        have HV1 := Lib.hid hp
        clear hv hp
        go_wp2_with fail
        refine (iFinerSums_any _ _ _ _ _ _ P Q _ p.rd q.rd (by omega) (by omega) (by omega) (by omega)).mono ?_
        rintro e w2 ⟨rfl, hb⟩
        replace p := p.below (hb.mono p.le)
        replace q := q.below (hb.mono q.le)
        replace hA := hA.trans (hb.mono hA.size)
        have hz2 := hb.size
        clear hb
        rw [HD.out]
        go_wp2_with fail
        refine (sFinerSums_any _ _ _ _ _ _ P Q _ p.rd q.rd (by omega) (by omega)).mono ?_
        rintro e w' ⟨rfl, rfl⟩
        rw [HD.out]
        go_wp2_with fail
        refine (iValidSums_any _ _ _ P _ p.rd (by omega) (by omega)).mono ?_
        rintro e w3 ⟨rfl, hb⟩
        replace p := p.below (hb.mono p.le)
        replace q := q.below (hb.mono q.le)
        replace hA := hA.trans (hb.mono hA.size)
        have hz3 := hb.size
        clear hb
        rw [HV1.out]
        go_wp2_with fail
        refine (sFinerSums_any _ _ _ _ _ _ P Q _ p.rd q.rd (by omega) (by omega)).mono ?_
        rintro e w' ⟨rfl, rfl⟩
        rw [HD.out]
        go_wp2_with fail
        go_ret
        exact ⟨rfl, hA⟩
  · have hl' : 1048576 < bs.length := by omega
    go_enter Try.func12, Try.ntmps12
    go_wp2_with fail
    go_ret
    exact ⟨rfl, Below.refl _ _⟩

theorem own : ownKnob Try.prog.godebug = none := by kernel_rfl
theorem laidOut : laidOutB Try.prog = true := by kernel_rfl

set_option maxRecDepth 100000 in
theorem lifted (os : Os) (started : os.Started) (H : Type) (enc : TypeId × Value → H) :
    ReturnsInHanded {} Try.checked os 12 .any (Rows.fnFinerSumsSpec.pre6 enc Try.prog Try.f12 Rows.fnFinerSumsRow.domain false) (Rows.fnFinerSumsSpec.post enc Try.prog Try.f12 false true false false) := by
  refine returnsInHanded_of_change (C := Try.checked) own started (by kernel_rfl) Try.func12
    (ChangeSpec.witness6 (enc := enc) (C := Try.checked) false ⟨#[], #[.slice none 0 0], []⟩ 8 (by kernel_rfl) (by kernel_rfl) (by kernel_rfl) (by kernel_rfl)) ?_
  intro W base args ds gs before hval0 hW hcnd _
  have hval : ∀ (j : Nat) t v, Try.f12.params[j]? = some t → args[j]? = some v → Value.okWide Try.prog W .any base t v := hval0
  have hW' := hW
  obtain ⟨p, q, hA0, hV, rfl, hfz, hnd⟩ := hW
  have hA : DataW.TrodAll enc Try.prog W 0 (fun _ => true) true Try.f12.params.toList args.toList ds p := hA0
  rw [Try.params12] at hA hval
  obtain ⟨v0, vs0, d0, ds0, p0, q0, hargs, rfl, rfl, h0, r0⟩ := trodAll_cons hA
  obtain ⟨rfl, rfl, rfl⟩ := trodAll_nil r0
  obtain rfl : args = #[v0] := by cases args; simp_all
  obtain ⟨rfl, rfl⟩ := trodVars_none hV
  obtain ⟨a0, len0, cap0, rfl⟩ := okWide_slice Try.underlying29 (hval 0 29 v0 rfl rfl)
  have k0 := h0
  have lt0 : ∀ x ∈ p0, x.block < W.heap.size := by obtain ⟨m, hm⟩ := k0; exact DataW.trod_lt m _ _ _ hm
  obtain ⟨z0, w0⟩ : ∃ zs, IsRow .u8 W a0 len0 cap0 zs := by
    obtain ⟨fuel, hf⟩ := h0
    rcases open_ints Try.underlying29 Try.underlying5 (by kernel_rfl) hf with ⟨hcs, _⟩ | ⟨x, l, c, zs, hcs, _, hl, hm, hz, _, hcell, hwz⟩
    · simp [Value.cells] at hcs
      obtain ⟨rfl, rfl, rfl⟩ := hcs
      exact ⟨[], .inl ⟨rfl, rfl, rfl, rfl⟩⟩
    · simp [Value.cells] at hcs
      obtain ⟨rfl, rfl, rfl⟩ := hcs
      exact ⟨zs, .inr ⟨_, rfl, hl, hm, by simpa using hz, hcell, hwz⟩⟩
  have lc0 := w0.lc
  obtain ⟨L0, rfl, R0, wf0, m0⟩ := w0.rd
  clear hA0 hval0
  refine (walk a0 cap0 L0 W R0 wf0 m0 (by simpa using lc0)).mono fun e W' ⟨he, bel⟩ => ?_
  subst he
  exact ⟨_, rfl, _, _, _, [], _, [], hW', trodAll_mk1 (shut_bool Try.underlying4 _), (trodAll_cons_mk (Below.trod laidOut (by kernel_rfl) (of_decide_eq_true (by kernel_rfl)) k0 bel lt0) trodAll_mk0), rfl, bel.frame _, fun h => by cases h⟩

theorem over : Rows.fnFinerSumsRow.holds Try.pinned (OpenSpec.ofChange Rows.fnFinerSumsSpec) :=
  OpenClaim.holds_of_wide 12 Try.f12 rfl rfl rfl rfl rfl rfl rfl ⟨rfl, rfl, rfl, rfl, rfl⟩ rfl rfl rfl rfl rfl (by kernel_rfl) Try.func12 (by kernel_rfl)
    (of_decide_eq_true (by kernel_rfl)) (by unfold Func.isWrapper; first | (rw [if_pos (by decide +kernel)]; kernel_rfl) | (rw [if_neg (by decide +kernel)]; exact ⟨rfl, rfl⟩))
    (fun os started H enc _ => lifted os started H enc)

/-- the given statement -/
theorem proved : Rows.FnFinerSumsSaid := over
end Go.Proofs.Ythafbdpeignccaa.fnFinerSums
