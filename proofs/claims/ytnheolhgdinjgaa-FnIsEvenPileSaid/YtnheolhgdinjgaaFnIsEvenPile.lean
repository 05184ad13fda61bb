/-
  'laws.FnIsEvenPile' returns true for every code, and the code reads as it did. No condition.
-/
import Derived.Test.YtnheolhgdinjgaaRows
import Derived.Test.YtnheolhgdinjgaaZe1
import Derived.Test.YtnheolhgdinjgaaZe2
import Derived.Test.YtnheolhgdinjgaaZe3
import Derived.Test.YtnheolhgdinjgaaZe4
import Derived.Test.YtnheolhgdinjgaaZe5
import Derived.Test.YtnheolhgdinjgaaZe6
import Derived.Test.YtnheolhgdinjgaaZe7
import Derived.Test.YtnheolhgdinjgaaZe8
import Derived.Test.YtnheolhgdinjgaaZe9
import Derived.Lib.SmallJoins
import Derived.WalkKit
import Derived.ProofKit
import Derived.OpenShut
import Derived.ShutString
import Derived.ChangeOld
import Derived.Below
namespace Go.Proofs.Ytnheolhgdinjgaa.fnIsEvenPile
open Go.ChangeShapes Go.WideShapes Go.ChangeAt Go.RowKit NP
open Go.ChangeMaps (open_string shut_string)
set_option linter.unusedVariables false

theorem vp_tp {LL : List (List Int)} (h : vpl LL = true) : vpl (tpF LL) = true := by rw [tpF_yes h]; exact vpl_turn h
theorem vp_lp {LL : List (List Int)} (h : vpl LL = true) : vpl (lpF LL) = true := by rw [lpF_yes h]; exact vpl_lay h
theorem ps_tp {LL : List (List Int)} (h : vpl LL = true) : psF (tpF LL) = psF LL := by rw [psF_yes h, psF_yes (vp_tp h), tpF_yes h]; exact sum_turn h
theorem ps_lp {LL : List (List Int)} (h : vpl LL = true) : psF (lpF LL) = psF LL := by rw [psF_yes h, psF_yes (vp_lp h), lpF_yes h]; exact sum_lay h
theorem tp_tp {LL : List (List Int)} (h : vpl LL = true) : tpF (tpF LL) = LL := by rw [tpF_yes (vp_tp h), tpF_yes h]; exact turn_turn h
theorem lp_lp {LL : List (List Int)} (h : vpl LL = true) : lpF (lpF (lpF LL)) = LL := by rw [lpF_yes (vp_lp (vp_lp h)), lpF_yes (vp_lp h), lpF_yes h]; exact lay3 h

theorem ev_tp {LL : List (List Int)} (h : vpl LL = true) : decide (tpF LL = LL) = evF LL := by unfold evF; rw [h, tpF_yes h, Bool.true_and]

set_option linter.unusedSimpArgs false
set_option maxRecDepth 100000 in
set_option maxHeartbeats 4000000 in
theorem walk (a : Option Addr) (c : Nat) (bs : List Int) (w0 : World) (h : Rd w0 w0.heap.size a (bs.map (Value.int .u8))) (hb : ∀ n ∈ bs, (Lit.int .u8 n).wf = true) (m : bs.length ≤ maxLen) (hc : bs.length ≤ c) :
    Calls Try.prog 12 #[.slice a bs.length c] w0 fun e w' => e = .returned (.bool true) ∧ Below w0.heap.size w0 w' := by
  unfold maxLen at m
  by_cases hl : bs.length ≤ 1048576
  · go_enter Try.func12, Try.ntmps12
    go_wp2_with fail
    refine (DrawIsEvenPile_any a c _ bs _ h (Nat.le_refl _) hb hl hc).mono ?_
    rintro e w1 ⟨aL, cL, LL, rfl, p, hl17, hcap, h40, hA⟩
    clear h hb hl hc m
    obtain ⟨B, hBd⟩ : ∃ B, B = w1.heap.size := ⟨_, rfl⟩
    rw [← hBd] at p
    have hB1 : B ≤ w1.heap.size := by omega
    have HIL : Hid (∀ M ∈ LL, M.length ≤ 4611686018427387904) := Lib.hid (fun M hM => by have := h40 M hM; omega)
    have HTR := Lib.hid (tpF_r LL)
    have HLR := Lib.hid (lpF_r LL)
    have htl := tpF_l LL
    have hll := lpF_l LL
    clear hBd h40
    cases hv : vpl LL with
    | false =>
      have HV := Lib.hid hv
      clear hv
      obtain ⟨E, hE⟩ : ∃ E, evF LL = E := ⟨_, rfl⟩
      have HE := Lib.hid hE
      clear hE
      go_wp2_with fail
      refine (iIsEvenPile_any aL cL B LL _ p (by omega) (by omega) HIL.out).mono ?_
      rintro e w2 ⟨rfl, hb⟩
      replace p := p.below (hb.mono (by omega))
      replace hA := hA.trans (hb.mono hA.size)
      have hz2 := hb.size
      clear hb
      rw [HE.out]
      go_wp2_with fail
      refine (sIsEvenPile_any aL cL B LL _ p (by omega) (by omega) HIL.out).mono ?_
      rintro e w3 ⟨rfl, hb⟩
      replace p := p.below (hb.mono (by omega))
      replace hA := hA.trans (hb.mono hA.size)
      have hz3 := hb.size
      clear hb
      rw [HE.out]
      go_wp2_with fail
      refine (iValidPile_any aL cL B LL _ p (by omega) (by omega) HIL.out).mono ?_
      rintro e w4 ⟨rfl, hb⟩
      replace p := p.below (hb.mono (by omega))
      replace hA := hA.trans (hb.mono hA.size)
      have hz4 := hb.size
      clear hb
      rw [HV.out]
      go_wp2_with fail
      refine (sIsEvenPile_any aL cL B LL _ p (by omega) (by omega) HIL.out).mono ?_
      rintro e w5 ⟨rfl, hb⟩
      replace p := p.below (hb.mono (by omega))
      replace hA := hA.trans (hb.mono hA.size)
      have hz5 := hb.size
      clear hb
      rw [HE.out]
      go_wp2_with fail
      go_ret
      exact ⟨rfl, hA⟩
    | true =>
      have HV := Lib.hid hv
      clear hv
      obtain ⟨E, hE⟩ : ∃ E, evF LL = E := ⟨_, rfl⟩
      have HEV : Hid (decide (tpF LL = LL) = E) := Lib.hid ((ev_tp HV.out).trans hE)
      have HE := Lib.hid hE
      clear hE
      go_wp2_with fail
      refine (iIsEvenPile_any aL cL B LL _ p (by omega) (by omega) HIL.out).mono ?_
      rintro e w2 ⟨rfl, hb⟩
      replace p := p.below (hb.mono (by omega))
      replace hA := hA.trans (hb.mono hA.size)
      have hz2 := hb.size
      clear hb
      rw [HE.out]
      go_wp2_with fail
      refine (sIsEvenPile_any aL cL B LL _ p (by omega) (by omega) HIL.out).mono ?_
      rintro e w3 ⟨rfl, hb⟩
      replace p := p.below (hb.mono (by omega))
      replace hA := hA.trans (hb.mono hA.size)
      have hz3 := hb.size
      clear hb
      rw [HE.out]
      go_wp2_with fail
      refine (iValidPile_any aL cL B LL _ p (by omega) (by omega) HIL.out).mono ?_
      rintro e w4 ⟨rfl, hb⟩
      replace p := p.below (hb.mono (by omega))
      replace hA := hA.trans (hb.mono hA.size)
      have hz4 := hb.size
      clear hb
      rw [HV.out]
      go_wp2_with fail
      refine (iTurnPile_any aL cL B LL _ p (by omega) (by omega) HIL.out).mono ?_
      rintro e w5 ⟨aT, cT, us, rfl, oT, hb⟩
      replace p := p.below (hb.mono (by omega))
      replace hA := hA.trans (hb.mono hA.size)
      have hz5 := hb.size
      clear hb
      go_wp2_with fail
      refine (equalLists_any _ _ _ _ _ _ (tpF LL) LL _ oT.rd p (by omega) (by omega) HTR.out HIL.out).mono ?_
      rintro e w6 ⟨rfl, hd⟩
      have hb : Below w5.heap.size w5 w6 := hd.below _
      clear hd
      replace p := p.below (hb.mono (by omega))
      replace oT := oT.below (hb.mono oT.le)
      replace hA := hA.trans (hb.mono hA.size)
      have hz6 := hb.size
      clear hb
      rw [HEV.out]
      go_wp2_with fail
      go_ret
      exact ⟨rfl, hA⟩
  · have hl' : 1048576 < bs.length := by omega
    go_enter Try.func12, Try.ntmps12
    go_wp2_with fail
    go_ret
    exact ⟨rfl, Below.refl _ _⟩

theorem own : ownKnob Try.prog.godebug = none := by kernel_rfl
theorem laidOut : laidOutB Try.prog = true := by kernel_rfl

set_option maxRecDepth 100000 in
theorem lifted (os : Os) (started : os.Started) (H : Type) (enc : TypeId × Value → H) :
    ReturnsInHanded {} Try.checked os 12 .any (Rows.fnIsEvenPileSpec.pre6 enc Try.prog Try.f12 Rows.fnIsEvenPileRow.domain false) (Rows.fnIsEvenPileSpec.post enc Try.prog Try.f12 false true false false) := by
  refine returnsInHanded_of_change (C := Try.checked) own started (by kernel_rfl) Try.func12
    (ChangeSpec.witness6 (enc := enc) (C := Try.checked) false ⟨#[], #[.slice none 0 0], []⟩ 8 (by kernel_rfl) (by kernel_rfl) (by kernel_rfl) (by kernel_rfl)) ?_
  intro W base args ds gs before hval0 hW hcnd _
  have hval : ∀ (j : Nat) t v, Try.f12.params[j]? = some t → args[j]? = some v → Value.okWide Try.prog W .any base t v := hval0
  have hW' := hW
  obtain ⟨p, q, hA0, hV, rfl, hfz, hnd⟩ := hW
  have hA : DataW.TrodAll enc Try.prog W 0 (fun _ => true) true Try.f12.params.toList args.toList ds p := hA0
  rw [Try.params12] at hA hval
  obtain ⟨v0, vs0, d0, ds0, p0, q0, hargs, rfl, rfl, h0, r0⟩ := trodAll_cons hA
  obtain ⟨rfl, rfl, rfl⟩ := trodAll_nil r0
  obtain rfl : args = #[v0] := by cases args; simp_all
  obtain ⟨rfl, rfl⟩ := trodVars_none hV
  obtain ⟨a0, len0, cap0, rfl⟩ := okWide_slice Try.underlying27 (hval 0 27 v0 rfl rfl)
  have k0 := h0
  have lt0 : ∀ x ∈ p0, x.block < W.heap.size := by obtain ⟨m, hm⟩ := k0; exact DataW.trod_lt m _ _ _ hm
  obtain ⟨z0, w0⟩ : ∃ zs, IsRow .u8 W a0 len0 cap0 zs := by
    obtain ⟨fuel, hf⟩ := h0
    rcases open_ints Try.underlying27 Try.underlying5 (by kernel_rfl) hf with ⟨hcs, _⟩ | ⟨x, l, c, zs, hcs, _, hl, hm, hz, _, hcell, hwz⟩
    · simp [Value.cells] at hcs
      obtain ⟨rfl, rfl, rfl⟩ := hcs
      exact ⟨[], .inl ⟨rfl, rfl, rfl, rfl⟩⟩
    · simp [Value.cells] at hcs
      obtain ⟨rfl, rfl, rfl⟩ := hcs
      exact ⟨zs, .inr ⟨_, rfl, hl, hm, by simpa using hz, hcell, hwz⟩⟩
  have lc0 := w0.lc
  obtain ⟨L0, rfl, R0, wf0, m0⟩ := w0.rd
  clear hA0 hval0
  refine (walk a0 cap0 L0 W R0 wf0 m0 (by simpa using lc0)).mono fun e W' ⟨he, bel⟩ => ?_
  subst he
  exact ⟨_, rfl, _, _, _, [], _, [], hW', trodAll_mk1 (shut_bool Try.underlying4 _), (trodAll_cons_mk (Below.trod laidOut (by kernel_rfl) (of_decide_eq_true (by kernel_rfl)) k0 bel lt0) trodAll_mk0), rfl, bel.frame _, fun h => by cases h⟩

theorem over : Rows.fnIsEvenPileRow.holds Try.pinned (OpenSpec.ofChange Rows.fnIsEvenPileSpec) :=
  OpenClaim.holds_of_wide 12 Try.f12 rfl rfl rfl rfl rfl rfl rfl ⟨rfl, rfl, rfl, rfl, rfl⟩ rfl rfl rfl rfl rfl (by kernel_rfl) Try.func12 (by kernel_rfl)
    (of_decide_eq_true (by kernel_rfl)) (by unfold Func.isWrapper; first | (rw [if_pos (by decide +kernel)]; kernel_rfl) | (rw [if_neg (by decide +kernel)]; exact ⟨rfl, rfl⟩))
    (fun os started H enc _ => lifted os started H enc)

/-- the given statement -/
theorem proved : Rows.FnIsEvenPileSaid := over
end Go.Proofs.Ytnheolhgdinjgaa.fnIsEvenPile
