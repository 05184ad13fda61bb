/-
  'laws.FnRankOf' returns true for every code, and the code reads as it did. No condition.
-/
import Derived.Test.YtlgglbgdopmkpaaRows
import Derived.Test.YtlgglbgdopmkpaaD12
import Derived.Test.YtlgglbgdopmkpaaW44
import Derived.Test.YtlgglbgdopmkpaaL1
import Derived.WalkKit
import Derived.ProofKit
import Derived.OpenShut
import Derived.ShutString
import Derived.ChangeOld
import Derived.Below
namespace Go.Proofs.Ytlgglbgdopmkpaa.fnRankOf
open Go.ChangeShapes Go.WideShapes Go.ChangeAt Go.RowKit NP
open Go.ChangeMaps (open_string shut_string)
set_option linter.unusedVariables false

set_option maxHeartbeats 1600000 in
theorem walk (a : Option Addr) (c : Nat) (bs : List Int) (w0 : World) (h : Rd w0 w0.heap.size a (bs.map (Value.int .u8))) (hb : ∀ n ∈ bs, (Lit.int .u8 n).wf = true) (m : bs.length ≤ maxLen) (hc : bs.length ≤ c) :
    Calls Try.prog 4 #[.slice a bs.length c] w0 fun e w' => e = .returned (.bool true) ∧ Below w0.heap.size w0 w' := by
  unfold maxLen at m
  by_cases hl : bs.length ≤ 1048576
  · go_enter Try.func4, Try.ntmps4
    go_wp2_with fail
    refine (DrawRankOf_any a c _ bs _ h (Nat.le_refl _) hb hl hc).mono ?_
    rintro e w1 ⟨a1, c1, P, rfl, p, hs1, hA⟩
    have hP := hs1.1
    clear h hb hl hc m hs1
    cases hv : valid P with
    | true =>
      obtain ⟨e1, e2, e3, e4, e5⟩ := rnk_facts hv
      have hcl := conjF_len P
      have HC := Lib.hid (conjF_yes hv)
      have HE := Lib.hid e1
      have HF := Lib.hid (valid_fits hv)
      have HV := Lib.hid hv
      obtain ⟨x, hx⟩ : ∃ x, x = rnk P := ⟨_, rfl⟩
      obtain ⟨s, hs⟩ : ∃ s, s = sumL P := ⟨_, rfl⟩
      rw [← hx] at e2 e3 e4 e5
      rw [← hs] at e2 e3
      have HX := Lib.hid hx
      have HS := Lib.hid hs
      have hs01 : s < 1 ∨ ¬ s < 1 := by omega
      have d1 : decide (x < max s 1) = true := decide_eq_true e2
      have d2 : decide (-x < max s 1) = true := decide_eq_true e3
      have hwr : IntKind.i64.wrap (-x) = -x := IntWalk.i64_in _ (by omega)
      have hbq : (x == x) = true := beq_iff_eq.2 rfl
      have hbn : (-x == -x) = true := beq_iff_eq.2 rfl
      clear hv e1 hx hs
      rcases hs01 with hs1 | hs1
      all_goals first | (have hif : (s < 1) = True := by simp; omega) | (have hif : (s < 1) = False := by simp; omega)
      all_goals
        first | (have d1 : decide (x < 1) = true := decide_eq_true (by omega); have d2 : decide (-x < 1) = true := decide_eq_true (by omega)) | (have d1 : decide (x < s) = true := decide_eq_true (by omega); have d2 : decide (-x < s) = true := decide_eq_true (by omega))
        go_wp2_with fail
        refine (iRankOf_any _ _ _ P _ p.rd (by omega) (by omega)).mono ?_
        rintro e w2 ⟨rfl, hb⟩
        replace p := p.below (hb.mono p.le)
        replace hA := hA.trans (hb.mono hA.size)
        have hz2 := hb.size
        clear hb
        rw [← HX.out]
        go_wp2_with fail
        refine (sRankOf_any _ _ _ P _ p.rd (by omega)).mono ?_
        rintro e w3 ⟨rfl, hd⟩
        have hb : Below w2.heap.size w2 w3 := Dr.below hd _
        clear hd
        replace p := p.below (hb.mono p.le)
        replace hA := hA.trans (hb.mono hA.size)
        have hz3 := hb.size
        clear hb
        rw [← HX.out]
        go_wp2_with fail
        refine (iValidParts_any _ _ _ P _ p.rd (by omega) (by omega)).mono ?_
        rintro e w4 ⟨rfl, hb⟩
        replace p := p.below (hb.mono p.le)
        replace hA := hA.trans (hb.mono hA.size)
        have hz4 := hb.size
        clear hb
        rw [HV.out]
        go_wp2_with fail
        refine (iConjugateOf_any _ _ _ P _ p.rd (by omega) (by omega)).mono ?_
        rintro e w5 ⟨a_cj, c_cj, rfl, cj, hb⟩
        replace p := p.below (hb.mono p.le)
        replace hA := hA.trans (hb.mono hA.size)
        have hz5 := hb.size
        clear hb
        rw [HC.out] at cj ⊢
        rw [HC.out] at hcl
        go_wp2_with fail
        refine (iRankOf_any _ _ _ (conj P) _ cj.rd (by omega) (by omega)).mono ?_
        rintro e w6 ⟨rfl, hb⟩
        replace p := p.below (hb.mono p.le)
        replace cj := cj.below (hb.mono cj.le)
        replace hA := hA.trans (hb.mono hA.size)
        have hz6 := hb.size
        clear hb
        rw [HE.out, ← HX.out]
        go_wp2_with fail
        refine (total_any _ _ _ P _ p.rd HF.out (by omega)).mono ?_
        rintro e w' ⟨rfl, rfl⟩
        rw [← HS.out]
        go_wp2_with fail
        refine (total_any _ _ _ P _ p.rd HF.out (by omega)).mono ?_
        rintro e w' ⟨rfl, rfl⟩
        rw [← HS.out]
        go_wp2_with fail
        go_ret
        exact ⟨rfl, hA⟩
    | false =>
      have HX := Lib.hid (rnk_no hv)
      have HV := Lib.hid hv
      clear hv
      go_wp2_with fail
      refine (iRankOf_any _ _ _ P _ p.rd (by omega) (by omega)).mono ?_
      rintro e w2 ⟨rfl, hb⟩
      replace p := p.below (hb.mono p.le)
      replace hA := hA.trans (hb.mono hA.size)
      have hz2 := hb.size
      clear hb
      rw [HX.out]
      go_wp2_with fail
      refine (sRankOf_any _ _ _ P _ p.rd (by omega)).mono ?_
      rintro e w3 ⟨rfl, hd⟩
      have hb : Below w2.heap.size w2 w3 := Dr.below hd _
      clear hd
      replace p := p.below (hb.mono p.le)
      replace hA := hA.trans (hb.mono hA.size)
      have hz3 := hb.size
      clear hb
      rw [HX.out]
      go_wp2_with fail
      refine (iValidParts_any _ _ _ P _ p.rd (by omega) (by omega)).mono ?_
      rintro e w4 ⟨rfl, hb⟩
      replace p := p.below (hb.mono p.le)
      replace hA := hA.trans (hb.mono hA.size)
      have hz4 := hb.size
      clear hb
      rw [HV.out]
      go_wp2_with fail
      refine (sRankOf_any _ _ _ P _ p.rd (by omega)).mono ?_
      rintro e w5 ⟨rfl, hd⟩
      have hb : Below w4.heap.size w4 w5 := Dr.below hd _
      clear hd
      replace p := p.below (hb.mono p.le)
      replace hA := hA.trans (hb.mono hA.size)
      have hz5 := hb.size
      clear hb
      rw [HX.out]
      go_wp2_with fail
      go_ret
      exact ⟨rfl, hA⟩
  · have hl' : 1048576 < bs.length := by omega
    go_enter Try.func4, Try.ntmps4
    go_wp2_with fail
    go_ret
    exact ⟨rfl, Below.refl _ _⟩

theorem own : ownKnob Try.prog.godebug = none := by kernel_rfl
theorem laidOut : laidOutB Try.prog = true := by kernel_rfl

set_option maxRecDepth 100000 in
theorem lifted (os : Os) (started : os.Started) (H : Type) (enc : TypeId × Value → H) :
    ReturnsInHanded {} Try.checked os 4 .any (Rows.fnRankOfSpec.pre6 enc Try.prog Try.f4 Rows.fnRankOfRow.domain false) (Rows.fnRankOfSpec.post enc Try.prog Try.f4 false true false false) := by
  refine returnsInHanded_of_change (C := Try.checked) own started (by kernel_rfl) Try.func4
    (ChangeSpec.witness6 (enc := enc) (C := Try.checked) false ⟨#[], #[.slice none 0 0], []⟩ 8 (by kernel_rfl) (by kernel_rfl) (by kernel_rfl) (by kernel_rfl)) ?_
  intro W base args ds gs before hval0 hW hcnd _
  have hval : ∀ (j : Nat) t v, Try.f4.params[j]? = some t → args[j]? = some v → Value.okWide Try.prog W .any base t v := hval0
  have hW' := hW
  obtain ⟨p, q, hA0, hV, rfl, hfz, hnd⟩ := hW
  have hA : DataW.TrodAll enc Try.prog W 0 (fun _ => true) true Try.f4.params.toList args.toList ds p := hA0
  rw [Try.params4] at hA hval
  obtain ⟨v0, vs0, d0, ds0, p0, q0, hargs, rfl, rfl, h0, r0⟩ := trodAll_cons hA
  obtain ⟨rfl, rfl, rfl⟩ := trodAll_nil r0
  obtain rfl : args = #[v0] := by cases args; simp_all
  obtain ⟨rfl, rfl⟩ := trodVars_none hV
  obtain ⟨a0, len0, cap0, rfl⟩ := okWide_slice Try.underlying27 (hval 0 27 v0 rfl rfl)
  have k0 := h0
  have lt0 : ∀ x ∈ p0, x.block < W.heap.size := by obtain ⟨m, hm⟩ := k0; exact DataW.trod_lt m _ _ _ hm
  obtain ⟨z0, w0⟩ : ∃ zs, IsRow .u8 W a0 len0 cap0 zs := by
    obtain ⟨fuel, hf⟩ := h0
    rcases open_ints Try.underlying27 Try.underlying5 (by kernel_rfl) hf with ⟨hcs, _⟩ | ⟨x, l, c, zs, hcs, _, hl, hm, hz, _, hcell, hwz⟩
    · simp [Value.cells] at hcs
      obtain ⟨rfl, rfl, rfl⟩ := hcs
      exact ⟨[], .inl ⟨rfl, rfl, rfl, rfl⟩⟩
    · simp [Value.cells] at hcs
      obtain ⟨rfl, rfl, rfl⟩ := hcs
      exact ⟨zs, .inr ⟨_, rfl, hl, hm, by simpa using hz, hcell, hwz⟩⟩
  have lc0 := w0.lc
  obtain ⟨L0, rfl, R0, wf0, m0⟩ := w0.rd
  clear hA0 hval0
  refine (walk a0 cap0 L0 W R0 wf0 m0 (by simpa using lc0)).mono fun e W' ⟨he, bel⟩ => ?_
  subst he
  exact ⟨_, rfl, _, _, _, [], _, [], hW', trodAll_mk1 (shut_bool Try.underlying4 _), (trodAll_cons_mk (Below.trod laidOut (by kernel_rfl) (of_decide_eq_true (by kernel_rfl)) k0 bel lt0) trodAll_mk0), rfl, bel.frame _, fun h => by cases h⟩

theorem over : Rows.fnRankOfRow.holds Try.pinned (OpenSpec.ofChange Rows.fnRankOfSpec) :=
  OpenClaim.holds_of_wide 4 Try.f4 rfl rfl rfl rfl rfl rfl rfl ⟨rfl, rfl, rfl, rfl, rfl⟩ rfl rfl rfl rfl rfl (by kernel_rfl) Try.func4 (by kernel_rfl)
    (of_decide_eq_true (by kernel_rfl)) (by unfold Func.isWrapper; first | (rw [if_pos (by decide +kernel)]; kernel_rfl) | (rw [if_neg (by decide +kernel)]; exact ⟨rfl, rfl⟩))
    (fun os started H enc _ => lifted os started H enc)

/-- the given statement -/
theorem proved : Rows.FnRankOfSaid := over
end Go.Proofs.Ytlgglbgdopmkpaa.fnRankOf
