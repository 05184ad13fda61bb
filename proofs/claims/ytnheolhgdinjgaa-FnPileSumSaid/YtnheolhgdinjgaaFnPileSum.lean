/-
  'laws.FnPileSum' returns true for every code, and the code reads as it did. No condition.
-/
import Derived.Test.YtnheolhgdinjgaaRows
import Derived.Test.YtnheolhgdinjgaaM46
import Derived.Test.YtnheolhgdinjgaaW89
import Derived.Test.YtnheolhgdinjgaaW92
import Derived.Test.YtnheolhgdinjgaaD22
import Derived.Test.YtnheolhgdinjgaaLL1
import Derived.Lib.SmallJoins
import Derived.WalkKit
import Derived.ProofKit
import Derived.OpenShut
import Derived.ShutString
import Derived.ChangeOld
import Derived.Below
namespace Go.Proofs.Ytnheolhgdinjgaa.fnPileSum
open Go.ChangeShapes Go.WideShapes Go.ChangeAt Go.RowKit NP
open Go.ChangeMaps (open_string shut_string)
set_option linter.unusedVariables false

theorem vp_tp {LL : List (List Int)} (h : vpl LL = true) : vpl (tpF LL) = true := by rw [tpF_yes h]; exact vpl_turn h
theorem vp_lp {LL : List (List Int)} (h : vpl LL = true) : vpl (lpF LL) = true := by rw [lpF_yes h]; exact vpl_lay h
theorem ps_tp {LL : List (List Int)} (h : vpl LL = true) : psF (tpF LL) = psF LL := by rw [psF_yes h, psF_yes (vp_tp h), tpF_yes h]; exact sum_turn h
theorem ps_lp {LL : List (List Int)} (h : vpl LL = true) : psF (lpF LL) = psF LL := by rw [psF_yes h, psF_yes (vp_lp h), lpF_yes h]; exact sum_lay h
theorem tp_tp {LL : List (List Int)} (h : vpl LL = true) : tpF (tpF LL) = LL := by rw [tpF_yes (vp_tp h), tpF_yes h]; exact turn_turn h
theorem lp_lp {LL : List (List Int)} (h : vpl LL = true) : lpF (lpF (lpF LL)) = LL := by rw [lpF_yes (vp_lp (vp_lp h)), lpF_yes (vp_lp h), lpF_yes h]; exact lay3 h

set_option linter.unusedSimpArgs false
set_option maxRecDepth 100000 in
set_option maxHeartbeats 4000000 in
theorem walk (a : Option Addr) (c : Nat) (bs : List Int) (w0 : World) (h : Rd w0 w0.heap.size a (bs.map (Value.int .u8))) (hb : ∀ n ∈ bs, (Lit.int .u8 n).wf = true) (m : bs.length ≤ maxLen) (hc : bs.length ≤ c) :
    Calls Try.prog 6 #[.slice a bs.length c] w0 fun e w' => e = .returned (.bool true) ∧ Below w0.heap.size w0 w' := by
  unfold maxLen at m
  by_cases hl : bs.length ≤ 1048576
  · go_enter Try.func6, Try.ntmps6
    go_wp2_with fail
    refine (DrawPileSum_any a c _ bs _ h (Nat.le_refl _) hb hl hc).mono ?_
    rintro e w1 ⟨aL, cL, LL, rfl, p, hl17, hcap, h40, hA⟩
    clear h hb hl hc m
    obtain ⟨B, hBd⟩ : ∃ B, B = w1.heap.size := ⟨_, rfl⟩
    rw [← hBd] at p
    have hB1 : B ≤ w1.heap.size := by omega
    have HIL : Hid (∀ M ∈ LL, M.length ≤ 4611686018427387904) := Lib.hid (fun M hM => by have := h40 M hM; omega)
    have HTR := Lib.hid (tpF_r LL)
    have HLR := Lib.hid (lpF_r LL)
    have htl := tpF_l LL
    have hll := lpF_l LL
    clear hBd h40
    cases hv : vpl LL with
    | false =>
      have HV := Lib.hid hv
      clear hv
      have HP := Lib.hid (psF_no HV.out)
      have g0 : decide ((-1 : Int) < 0) = true := by decide
      go_wp2_with fail
      refine (iPileSum_any aL cL B LL _ p (by omega) (by omega) HIL.out).mono ?_
      rintro e w2 ⟨rfl, hb⟩
      replace p := p.below (hb.mono (by omega))
      replace hA := hA.trans (hb.mono hA.size)
      have hz2 := hb.size
      clear hb
      rw [HP.out]
      go_wp2_with fail
      refine (sPileSum_any aL cL B LL _ p (by omega) HIL.out).mono ?_
      rintro e w3 ⟨rfl, hd⟩
      have hb : Below w2.heap.size w2 w3 := hd.below _
      clear hd
      replace p := p.below (hb.mono (by omega))
      replace hA := hA.trans (hb.mono hA.size)
      have hz3 := hb.size
      clear hb
      rw [HP.out]
      go_wp2_with fail
      refine (sPileSum_any aL cL B LL _ p (by omega) HIL.out).mono ?_
      rintro e w4 ⟨rfl, hd⟩
      have hb : Below w3.heap.size w3 w4 := hd.below _
      clear hd
      replace p := p.below (hb.mono (by omega))
      replace hA := hA.trans (hb.mono hA.size)
      have hz4 := hb.size
      clear hb
      rw [HP.out]
      go_wp2_with fail
      go_ret
      exact ⟨rfl, hA⟩
    | true =>
      have HV := Lib.hid hv
      clear hv
      obtain ⟨s, hs⟩ : ∃ s, psF LL = s := ⟨_, rfl⟩
      have hsb := vpl_sum HV.out
      rw [← psF_yes HV.out, hs] at hsb
      have HT : Hid (psF (tpF LL) = s) := Lib.hid ((ps_tp HV.out).trans hs)
      have HY : Hid (psF (lpF LL) = s) := Lib.hid ((ps_lp HV.out).trans hs)
      have HP := Lib.hid hs
      have g0 : decide (s < 0) = false := decide_eq_false (by omega)
      have g1 : (s != s) = false := by simp
      clear hs
      go_wp2_with fail
      refine (iPileSum_any aL cL B LL _ p (by omega) (by omega) HIL.out).mono ?_
      rintro e w2 ⟨rfl, hb⟩
      replace p := p.below (hb.mono (by omega))
      replace hA := hA.trans (hb.mono hA.size)
      have hz2 := hb.size
      clear hb
      rw [HP.out]
      go_wp2_with fail
      refine (sPileSum_any aL cL B LL _ p (by omega) HIL.out).mono ?_
      rintro e w3 ⟨rfl, hd⟩
      have hb : Below w2.heap.size w2 w3 := hd.below _
      clear hd
      replace p := p.below (hb.mono (by omega))
      replace hA := hA.trans (hb.mono hA.size)
      have hz3 := hb.size
      clear hb
      rw [HP.out]
      go_wp2_with fail
      refine (iTurnPile_any aL cL B LL _ p (by omega) (by omega) HIL.out).mono ?_
      rintro e w4 ⟨aT, cT, us, rfl, oT, hb⟩
      replace p := p.below (hb.mono (by omega))
      replace hA := hA.trans (hb.mono hA.size)
      have hz4 := hb.size
      clear hb
      go_wp2_with fail
      refine (iPileSum_any aT cT _ (tpF LL) _ oT.rd oT.le (by omega) HTR.out).mono ?_
      rintro e w5 ⟨rfl, hb⟩
      replace p := p.below (hb.mono (by omega))
      replace oT := oT.below (hb.mono oT.le)
      replace hA := hA.trans (hb.mono hA.size)
      have hz5 := hb.size
      clear hb
      rw [HT.out]
      go_wp2_with fail
      refine (iLayersOf_any aL cL B LL _ p (by omega) (by omega) HIL.out).mono ?_
      rintro e w6 ⟨aY, cY, us2, rfl, oY, hb⟩
      replace p := p.below (hb.mono (by omega))
      replace oT := oT.below (hb.mono oT.le)
      replace hA := hA.trans (hb.mono hA.size)
      have hz6 := hb.size
      clear hb
      go_wp2_with fail
      refine (iPileSum_any aY cY _ (lpF LL) _ oY.rd oY.le (by omega) HLR.out).mono ?_
      rintro e w7 ⟨rfl, hb⟩
      replace p := p.below (hb.mono (by omega))
      replace oT := oT.below (hb.mono oT.le)
      replace oY := oY.below (hb.mono oY.le)
      replace hA := hA.trans (hb.mono hA.size)
      have hz7 := hb.size
      clear hb
      rw [HY.out]
      go_wp2_with fail
      go_ret
      exact ⟨rfl, hA⟩
  · have hl' : 1048576 < bs.length := by omega
    go_enter Try.func6, Try.ntmps6
    go_wp2_with fail
    go_ret
    exact ⟨rfl, Below.refl _ _⟩

theorem own : ownKnob Try.prog.godebug = none := by kernel_rfl
theorem laidOut : laidOutB Try.prog = true := by kernel_rfl

set_option maxRecDepth 100000 in
theorem lifted (os : Os) (started : os.Started) (H : Type) (enc : TypeId × Value → H) :
    ReturnsInHanded {} Try.checked os 6 .any (Rows.fnPileSumSpec.pre6 enc Try.prog Try.f6 Rows.fnPileSumRow.domain false) (Rows.fnPileSumSpec.post enc Try.prog Try.f6 false true false false) := by
  refine returnsInHanded_of_change (C := Try.checked) own started (by kernel_rfl) Try.func6
    (ChangeSpec.witness6 (enc := enc) (C := Try.checked) false ⟨#[], #[.slice none 0 0], []⟩ 8 (by kernel_rfl) (by kernel_rfl) (by kernel_rfl) (by kernel_rfl)) ?_
  intro W base args ds gs before hval0 hW hcnd _
  have hval : ∀ (j : Nat) t v, Try.f6.params[j]? = some t → args[j]? = some v → Value.okWide Try.prog W .any base t v := hval0
  have hW' := hW
  obtain ⟨p, q, hA0, hV, rfl, hfz, hnd⟩ := hW
  have hA : DataW.TrodAll enc Try.prog W 0 (fun _ => true) true Try.f6.params.toList args.toList ds p := hA0
  rw [Try.params6] at hA hval
  obtain ⟨v0, vs0, d0, ds0, p0, q0, hargs, rfl, rfl, h0, r0⟩ := trodAll_cons hA
  obtain ⟨rfl, rfl, rfl⟩ := trodAll_nil r0
  obtain rfl : args = #[v0] := by cases args; simp_all
  obtain ⟨rfl, rfl⟩ := trodVars_none hV
  obtain ⟨a0, len0, cap0, rfl⟩ := okWide_slice Try.underlying27 (hval 0 27 v0 rfl rfl)
  have k0 := h0
  have lt0 : ∀ x ∈ p0, x.block < W.heap.size := by obtain ⟨m, hm⟩ := k0; exact DataW.trod_lt m _ _ _ hm
  obtain ⟨z0, w0⟩ : ∃ zs, IsRow .u8 W a0 len0 cap0 zs := by
    obtain ⟨fuel, hf⟩ := h0
    rcases open_ints Try.underlying27 Try.underlying5 (by kernel_rfl) hf with ⟨hcs, _⟩ | ⟨x, l, c, zs, hcs, _, hl, hm, hz, _, hcell, hwz⟩
    · simp [Value.cells] at hcs
      obtain ⟨rfl, rfl, rfl⟩ := hcs
      exact ⟨[], .inl ⟨rfl, rfl, rfl, rfl⟩⟩
    · simp [Value.cells] at hcs
      obtain ⟨rfl, rfl, rfl⟩ := hcs
      exact ⟨zs, .inr ⟨_, rfl, hl, hm, by simpa using hz, hcell, hwz⟩⟩
  have lc0 := w0.lc
  obtain ⟨L0, rfl, R0, wf0, m0⟩ := w0.rd
  clear hA0 hval0
  refine (walk a0 cap0 L0 W R0 wf0 m0 (by simpa using lc0)).mono fun e W' ⟨he, bel⟩ => ?_
  subst he
  exact ⟨_, rfl, _, _, _, [], _, [], hW', trodAll_mk1 (shut_bool Try.underlying4 _), (trodAll_cons_mk (Below.trod laidOut (by kernel_rfl) (of_decide_eq_true (by kernel_rfl)) k0 bel lt0) trodAll_mk0), rfl, bel.frame _, fun h => by cases h⟩

theorem over : Rows.fnPileSumRow.holds Try.pinned (OpenSpec.ofChange Rows.fnPileSumSpec) :=
  OpenClaim.holds_of_wide 6 Try.f6 rfl rfl rfl rfl rfl rfl rfl ⟨rfl, rfl, rfl, rfl, rfl⟩ rfl rfl rfl rfl rfl (by kernel_rfl) Try.func6 (by kernel_rfl)
    (of_decide_eq_true (by kernel_rfl)) (by unfold Func.isWrapper; first | (rw [if_pos (by decide +kernel)]; kernel_rfl) | (rw [if_neg (by decide +kernel)]; exact ⟨rfl, rfl⟩))
    (fun os started H enc _ => lifted os started H enc)

/-- the given statement -/
theorem proved : Rows.FnPileSumSaid := over
end Go.Proofs.Ytnheolhgdinjgaa.fnPileSum
