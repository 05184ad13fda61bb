/-
  'laws.FnCrankOf' returns true for every code, and the code reads as it did. No condition.
-/
import Derived.Test.YteglcoalfgjjiaaRows
import Derived.Test.YteglcoalfgjjiaaD12
import Derived.Test.YteglcoalfgjjiaaW45
import Derived.Test.YteglcoalfgjjiaaL1
import Derived.WalkKit
import Derived.ProofKit
import Derived.OpenShut
import Derived.ShutString
import Derived.ChangeOld
import Derived.Below
namespace Go.Proofs.Yteglcoalfgjjiaa.fnCrankOf
open Go.ChangeShapes Go.WideShapes Go.ChangeAt Go.RowKit NP
open Go.ChangeMaps (open_string shut_string)
set_option linter.unusedVariables false

set_option maxHeartbeats 1600000 in
theorem walk (a : Option Addr) (c : Nat) (bs : List Int) (w0 : World) (h : Rd w0 w0.heap.size a (bs.map (Value.int .u8))) (hb : ∀ n ∈ bs, (Lit.int .u8 n).wf = true) (m : bs.length ≤ maxLen) (hc : bs.length ≤ c) :
    Calls Try.prog 10 #[.slice a bs.length c] w0 fun e w' => e = .returned (.bool true) ∧ Below w0.heap.size w0 w' := by
  unfold maxLen at m
  by_cases hl : bs.length ≤ 1048576
  · go_enter Try.func10, Try.ntmps10
    go_wp2_with fail
    refine (DrawCrankOf_any a c _ bs _ h (Nat.le_refl _) hb hl hc).mono ?_
    rintro e w1 ⟨a1, c1, P, rfl, p, hs1, hA⟩
    have hP := hs1.1
    clear h hb hl hc m hs1
    cases hv : valid P with
    | true =>
      have HV := Lib.hid hv
      by_cases hP0 : 0 < P.length
      · have hPb : (P.length == 0) = false := by simp; intro e; subst e; simp at hP0
        obtain ⟨e1, e2, e3, e4, e5, e6, e7⟩ := crk_facts hv hP0
        have HF := Lib.hid (valid_fits hv)
        obtain ⟨x, hx⟩ : ∃ x, x = crk P := ⟨_, rfl⟩
        obtain ⟨s, hs⟩ : ∃ s, s = sumL P := ⟨_, rfl⟩
        obtain ⟨y, hy⟩ : ∃ y, y = P[P.length - 1]'(by omega) := ⟨_, rfl⟩
        obtain ⟨z, hz⟩ : ∃ z, z = P[0] := ⟨_, rfl⟩
        rw [← hx] at e1 e2 e3 e4 e5
        rw [← hs] at e1 e2
        rw [← hy] at e3 e6 e7
        rw [← hz] at e3
        have HX := Lib.hid hx
        have HS := Lib.hid hs
        have HY := Lib.hid hy
        have HZ := Lib.hid hz
        have d1 : decide (x ≤ s) = true := decide_eq_true e1
        have d2 : decide (-x ≤ s) = true := decide_eq_true e2
        have hwr : IntKind.i64.wrap (-x) = -x := IntWalk.i64_in _ (by omega)
        have hbq : (x == x) = true := beq_iff_eq.2 rfl
        have hle1 : (0 : Int) ≤ (P.length : Int) - 1 := by omega
        have hle2 : (P.length : Int) - 1 < (P.length : Int) := by omega
        have hnl : ((P.length : Int) - 1).toNat = P.length - 1 := by omega
        clear hv hx hs hy hz
        have hcs : y = 1 ∨ (¬ y = 1 ∧ x = z) := by omega
        rcases hcs with hy1 | ⟨hy1, hxz⟩
        · have hyb : (y == 1) = true := beq_iff_eq.2 hy1
          clear hy1
          go_wp2_with fail
          refine (iCrankOf_any _ _ _ P _ p.rd (by omega) (by omega)).mono ?_
          rintro e w2 ⟨rfl, hb⟩
          replace p := p.below (hb.mono p.le)
          replace hA := hA.trans (hb.mono hA.size)
          have hz2 := hb.size
          clear hb
          rw [← HX.out]
          go_wp2_with fail
          refine (sCrankOf_any _ _ _ P _ p.rd (by omega)).mono ?_
          rintro e w3 ⟨rfl, hd⟩
          have hb : Below w2.heap.size w2 w3 := Dr.below hd _
          clear hd
          replace p := p.below (hb.mono p.le)
          replace hA := hA.trans (hb.mono hA.size)
          have hz3 := hb.size
          clear hb
          rw [← HX.out]
          go_wp2_with fail
          refine (iValidParts_any _ _ _ P _ p.rd (by omega) (by omega)).mono ?_
          rintro e w4 ⟨rfl, hb⟩
          replace p := p.below (hb.mono p.le)
          replace hA := hA.trans (hb.mono hA.size)
          have hz4 := hb.size
          clear hb
          rw [HV.out]
          go_wp2_with fail
          refine (total_any _ _ _ P _ p.rd HF.out (by omega)).mono ?_
          rintro e w' ⟨rfl, rfl⟩
          rw [← HS.out]
          obtain ⟨g, rfl, hcl⟩ := p.read (k := P.length - 1) (by simp; omega)
          obtain ⟨g', e', hcf⟩ := p.read (k := 0) (by simpa using hP0)
          injection e' with e'; injection e' with e'; subst e'
          rw [List.getElem_map, ← HY.out] at hcl
          rw [List.getElem_map, ← HZ.out] at hcf
          go_wp2_with fail
          refine (total_any _ _ _ P _ p.rd HF.out (by omega)).mono ?_
          rintro e w' ⟨rfl, rfl⟩
          rw [← HS.out]
          go_wp2_with fail
          go_ret
          exact ⟨rfl, hA⟩
        · have hyb : (y == 1) = false := beq_eq_false_iff_ne.2 hy1
          have hxz2 : (x == z) = true := beq_iff_eq.2 hxz
          clear hy1 hxz
          go_wp2_with fail
          refine (iCrankOf_any _ _ _ P _ p.rd (by omega) (by omega)).mono ?_
          rintro e w2 ⟨rfl, hb⟩
          replace p := p.below (hb.mono p.le)
          replace hA := hA.trans (hb.mono hA.size)
          have hz2 := hb.size
          clear hb
          rw [← HX.out]
          go_wp2_with fail
          refine (sCrankOf_any _ _ _ P _ p.rd (by omega)).mono ?_
          rintro e w3 ⟨rfl, hd⟩
          have hb : Below w2.heap.size w2 w3 := Dr.below hd _
          clear hd
          replace p := p.below (hb.mono p.le)
          replace hA := hA.trans (hb.mono hA.size)
          have hz3 := hb.size
          clear hb
          rw [← HX.out]
          go_wp2_with fail
          refine (iValidParts_any _ _ _ P _ p.rd (by omega) (by omega)).mono ?_
          rintro e w4 ⟨rfl, hb⟩
          replace p := p.below (hb.mono p.le)
          replace hA := hA.trans (hb.mono hA.size)
          have hz4 := hb.size
          clear hb
          rw [HV.out]
          go_wp2_with fail
          refine (total_any _ _ _ P _ p.rd HF.out (by omega)).mono ?_
          rintro e w' ⟨rfl, rfl⟩
          rw [← HS.out]
          obtain ⟨g, rfl, hcl⟩ := p.read (k := P.length - 1) (by simp; omega)
          obtain ⟨g', e', hcf⟩ := p.read (k := 0) (by simpa using hP0)
          injection e' with e'; injection e' with e'; subst e'
          rw [List.getElem_map, ← HY.out] at hcl
          rw [List.getElem_map, ← HZ.out] at hcf
          go_wp2_with fail
          refine (total_any _ _ _ P _ p.rd HF.out (by omega)).mono ?_
          rintro e w' ⟨rfl, rfl⟩
          rw [← HS.out]
          go_wp2_with fail
          go_ret
          exact ⟨rfl, hA⟩
      · obtain rfl : P = [] := List.eq_nil_of_length_eq_zero (by omega)
        have HX : Hid (crk [] = 0) := Lib.hid rfl
        have hnl : ([] : List Int).length ≤ 4611686018427387904 := by simp
        clear hv
        go_wp2_with fail
        refine (iCrankOf_any _ _ _ [] _ p.rd p.le hnl).mono ?_
        rintro e w2 ⟨rfl, hb⟩
        replace p := p.below (hb.mono p.le)
        replace hA := hA.trans (hb.mono hA.size)
        have hz2 := hb.size
        clear hb
        rw [HX.out]
        go_wp2_with fail
        refine (sCrankOf_any _ _ _ [] _ p.rd hnl).mono ?_
        rintro e w3 ⟨rfl, hd⟩
        have hb : Below w2.heap.size w2 w3 := Dr.below hd _
        clear hd
        replace p := p.below (hb.mono p.le)
        replace hA := hA.trans (hb.mono hA.size)
        have hz3 := hb.size
        clear hb
        rw [HX.out]
        go_wp2_with fail
        refine (iValidParts_any _ _ _ [] _ p.rd p.le hnl).mono ?_
        rintro e w4 ⟨rfl, hb⟩
        replace p := p.below (hb.mono p.le)
        replace hA := hA.trans (hb.mono hA.size)
        have hz4 := hb.size
        clear hb
        rw [HV.out]
        go_wp2_with fail
        refine (sCrankOf_any _ _ _ [] _ p.rd hnl).mono ?_
        rintro e w5 ⟨rfl, hd⟩
        have hb : Below w4.heap.size w4 w5 := Dr.below hd _
        clear hd
        replace p := p.below (hb.mono p.le)
        replace hA := hA.trans (hb.mono hA.size)
        have hz5 := hb.size
        clear hb
        rw [HX.out]
        go_wp2_with fail
        go_ret
        exact ⟨rfl, hA⟩
    | false =>
      have HX := Lib.hid (crk_no hv)
      have HV := Lib.hid hv
      clear hv
      go_wp2_with fail
      refine (iCrankOf_any _ _ _ P _ p.rd (by omega) (by omega)).mono ?_
      rintro e w2 ⟨rfl, hb⟩
      replace p := p.below (hb.mono p.le)
      replace hA := hA.trans (hb.mono hA.size)
      have hz2 := hb.size
      clear hb
      rw [HX.out]
      go_wp2_with fail
      refine (sCrankOf_any _ _ _ P _ p.rd (by omega)).mono ?_
      rintro e w3 ⟨rfl, hd⟩
      have hb : Below w2.heap.size w2 w3 := Dr.below hd _
      clear hd
      replace p := p.below (hb.mono p.le)
      replace hA := hA.trans (hb.mono hA.size)
      have hz3 := hb.size
      clear hb
      rw [HX.out]
      go_wp2_with fail
      refine (iValidParts_any _ _ _ P _ p.rd (by omega) (by omega)).mono ?_
      rintro e w4 ⟨rfl, hb⟩
      replace p := p.below (hb.mono p.le)
      replace hA := hA.trans (hb.mono hA.size)
      have hz4 := hb.size
      clear hb
      rw [HV.out]
      go_wp2_with fail
      refine (sCrankOf_any _ _ _ P _ p.rd (by omega)).mono ?_
      rintro e w5 ⟨rfl, hd⟩
      have hb : Below w4.heap.size w4 w5 := Dr.below hd _
      clear hd
      replace p := p.below (hb.mono p.le)
      replace hA := hA.trans (hb.mono hA.size)
      have hz5 := hb.size
      clear hb
      rw [HX.out]
      go_wp2_with fail
      go_ret
      exact ⟨rfl, hA⟩
  · have hl' : 1048576 < bs.length := by omega
    go_enter Try.func10, Try.ntmps10
    go_wp2_with fail
    go_ret
    exact ⟨rfl, Below.refl _ _⟩

theorem own : ownKnob Try.prog.godebug = none := by kernel_rfl
theorem laidOut : laidOutB Try.prog = true := by kernel_rfl

set_option maxRecDepth 100000 in
theorem lifted (os : Os) (started : os.Started) (H : Type) (enc : TypeId × Value → H) :
    ReturnsInHanded {} Try.checked os 10 .any (Rows.fnCrankOfSpec.pre6 enc Try.prog Try.f10 Rows.fnCrankOfRow.domain false) (Rows.fnCrankOfSpec.post enc Try.prog Try.f10 false true false false) := by
  refine returnsInHanded_of_change (C := Try.checked) own started (by kernel_rfl) Try.func10
    (ChangeSpec.witness6 (enc := enc) (C := Try.checked) false ⟨#[], #[.slice none 0 0], []⟩ 8 (by kernel_rfl) (by kernel_rfl) (by kernel_rfl) (by kernel_rfl)) ?_
  intro W base args ds gs before hval0 hW hcnd _
  have hval : ∀ (j : Nat) t v, Try.f10.params[j]? = some t → args[j]? = some v → Value.okWide Try.prog W .any base t v := hval0
  have hW' := hW
  obtain ⟨p, q, hA0, hV, rfl, hfz, hnd⟩ := hW
  have hA : DataW.TrodAll enc Try.prog W 0 (fun _ => true) true Try.f10.params.toList args.toList ds p := hA0
  rw [Try.params10] at hA hval
  obtain ⟨v0, vs0, d0, ds0, p0, q0, hargs, rfl, rfl, h0, r0⟩ := trodAll_cons hA
  obtain ⟨rfl, rfl, rfl⟩ := trodAll_nil r0
  obtain rfl : args = #[v0] := by cases args; simp_all
  obtain ⟨rfl, rfl⟩ := trodVars_none hV
  obtain ⟨a0, len0, cap0, rfl⟩ := okWide_slice Try.underlying27 (hval 0 27 v0 rfl rfl)
  have k0 := h0
  have lt0 : ∀ x ∈ p0, x.block < W.heap.size := by obtain ⟨m, hm⟩ := k0; exact DataW.trod_lt m _ _ _ hm
  obtain ⟨z0, w0⟩ : ∃ zs, IsRow .u8 W a0 len0 cap0 zs := by
    obtain ⟨fuel, hf⟩ := h0
    rcases open_ints Try.underlying27 Try.underlying5 (by kernel_rfl) hf with ⟨hcs, _⟩ | ⟨x, l, c, zs, hcs, _, hl, hm, hz, _, hcell, hwz⟩
    · simp [Value.cells] at hcs
      obtain ⟨rfl, rfl, rfl⟩ := hcs
      exact ⟨[], .inl ⟨rfl, rfl, rfl, rfl⟩⟩
    · simp [Value.cells] at hcs
      obtain ⟨rfl, rfl, rfl⟩ := hcs
      exact ⟨zs, .inr ⟨_, rfl, hl, hm, by simpa using hz, hcell, hwz⟩⟩
  have lc0 := w0.lc
  obtain ⟨L0, rfl, R0, wf0, m0⟩ := w0.rd
  clear hA0 hval0
  refine (walk a0 cap0 L0 W R0 wf0 m0 (by simpa using lc0)).mono fun e W' ⟨he, bel⟩ => ?_
  subst he
  exact ⟨_, rfl, _, _, _, [], _, [], hW', trodAll_mk1 (shut_bool Try.underlying4 _), (trodAll_cons_mk (Below.trod laidOut (by kernel_rfl) (of_decide_eq_true (by kernel_rfl)) k0 bel lt0) trodAll_mk0), rfl, bel.frame _, fun h => by cases h⟩

theorem over : Rows.fnCrankOfRow.holds Try.pinned (OpenSpec.ofChange Rows.fnCrankOfSpec) :=
  OpenClaim.holds_of_wide 10 Try.f10 rfl rfl rfl rfl rfl rfl rfl ⟨rfl, rfl, rfl, rfl, rfl⟩ rfl rfl rfl rfl rfl (by kernel_rfl) Try.func10 (by kernel_rfl)
    (of_decide_eq_true (by kernel_rfl)) (by unfold Func.isWrapper; first | (rw [if_pos (by decide +kernel)]; kernel_rfl) | (rw [if_neg (by decide +kernel)]; exact ⟨rfl, rfl⟩))
    (fun os started H enc _ => lifted os started H enc)

/-- the given statement -/
theorem proved : Rows.FnCrankOfSaid := over
end Go.Proofs.Yteglcoalfgjjiaa.fnCrankOf
