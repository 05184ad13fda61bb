/-
  'laws.FnTurnPile' returns true for every code, and the code reads as it did. No condition.
-/
import Derived.Test.YtnheolhgdinjgaaRows
import Derived.Test.YtnheolhgdinjgaaM46
import Derived.Test.YtnheolhgdinjgaaW89
import Derived.Test.YtnheolhgdinjgaaW92
import Derived.Test.YtnheolhgdinjgaaD22
import Derived.Test.YtnheolhgdinjgaaLL1
import Derived.Lib.SmallJoins
import Derived.WalkKit
import Derived.ProofKit
import Derived.OpenShut
import Derived.ShutString
import Derived.ChangeOld
import Derived.Below
namespace Go.Proofs.Ytnheolhgdinjgaa.fnTurnPile
open Go.ChangeShapes Go.WideShapes Go.ChangeAt Go.RowKit NP
open Go.ChangeMaps (open_string shut_string)
set_option linter.unusedVariables false

theorem vp_tp {LL : List (List Int)} (h : vpl LL = true) : vpl (tpF LL) = true := by rw [tpF_yes h]; exact vpl_turn h
theorem vp_lp {LL : List (List Int)} (h : vpl LL = true) : vpl (lpF LL) = true := by rw [lpF_yes h]; exact vpl_lay h
theorem ps_tp {LL : List (List Int)} (h : vpl LL = true) : psF (tpF LL) = psF LL := by rw [psF_yes h, psF_yes (vp_tp h), tpF_yes h]; exact sum_turn h
theorem ps_lp {LL : List (List Int)} (h : vpl LL = true) : psF (lpF LL) = psF LL := by rw [psF_yes h, psF_yes (vp_lp h), lpF_yes h]; exact sum_lay h
theorem tp_tp {LL : List (List Int)} (h : vpl LL = true) : tpF (tpF LL) = LL := by rw [tpF_yes (vp_tp h), tpF_yes h]; exact turn_turn h
theorem lp_lp {LL : List (List Int)} (h : vpl LL = true) : lpF (lpF (lpF LL)) = LL := by rw [lpF_yes (vp_lp (vp_lp h)), lpF_yes (vp_lp h), lpF_yes h]; exact lay3 h

theorem tp_back (a : Option Addr) (c B : Nat) (LL : List (List Int)) (w : World) (h : RdLL w B a (tpF LL)) (hB : B ≤ w.heap.size) (hv : vpl LL = true) :
    Calls Try.prog 19 #[.slice a (tpF LL).length c] w fun e w' => ∃ a' c' us, e = .returned (.slice a' LL.length c') ∧ OwnLL w' w.heap.size w'.heap.size 31 3 (.slice a' LL.length c') us LL ∧ Below w.heap.size w w' := by
  have h2 := iTurnPile_any a c B (tpF LL) w h hB (by have := tpF_l LL; omega) (tpF_r LL)
  rw [tp_tp hv] at h2
  exact h2
theorem tp_first {LL : List (List Int)} (hv : vpl LL = true) (h0 : 0 < LL.length) : ∃ hh : 0 < (tpF LL).length, ((tpF LL)[0]).length = LL.length := by
  have h1 : tpF LL = turnS LL := by rw [tpF_yes hv, turnS_eq hv]
  have hn : 0 < (LL.getD 0 []).length := by
    have := vpl_ne hv (LL.getD 0 []) (by rw [gl_lt h0]; exact List.getElem_mem h0)
    exact List.length_pos_iff.2 this
  have h2 : (turnS LL).length = (LL.getD 0 []).length := by unfold turnS; simp
  have hh : 0 < (tpF LL).length := by rw [h1, h2]; exact hn
  refine ⟨hh, ?_⟩
  have h3 : (tpF LL)[0] = colS LL 0 := by simp only [h1]; unfold turnS; simp
  rw [h3, colS_filt (vpl_each hv), List.filter_eq_self.2, List.length_map]
  intro x hx
  obtain ⟨L, hL, rfl⟩ := List.mem_map.1 hx
  have hLn := vpl_ne hv L hL
  have := (pos_at (vpl_each hv L hL) 0).2 (List.length_pos_iff.2 hLn)
  exact decide_eq_true this

set_option linter.unusedSimpArgs false
set_option maxRecDepth 100000 in
set_option maxHeartbeats 4000000 in
theorem walk (a : Option Addr) (c : Nat) (bs : List Int) (w0 : World) (h : Rd w0 w0.heap.size a (bs.map (Value.int .u8))) (hb : ∀ n ∈ bs, (Lit.int .u8 n).wf = true) (m : bs.length ≤ maxLen) (hc : bs.length ≤ c) :
    Calls Try.prog 8 #[.slice a bs.length c] w0 fun e w' => e = .returned (.bool true) ∧ Below w0.heap.size w0 w' := by
  unfold maxLen at m
  by_cases hl : bs.length ≤ 1048576
  · go_enter Try.func8, Try.ntmps8
    go_wp2_with fail
    refine (DrawTurnPile_any a c _ bs _ h (Nat.le_refl _) hb hl hc).mono ?_
    rintro e w1 ⟨aL, cL, LL, rfl, p, hl17, hcap, h40, hA⟩
    clear h hb hl hc m
    obtain ⟨B, hBd⟩ : ∃ B, B = w1.heap.size := ⟨_, rfl⟩
    rw [← hBd] at p
    have hB1 : B ≤ w1.heap.size := by omega
    have HIL : Hid (∀ M ∈ LL, M.length ≤ 4611686018427387904) := Lib.hid (fun M hM => by have := h40 M hM; omega)
    have HTR := Lib.hid (tpF_r LL)
    have HLR := Lib.hid (lpF_r LL)
    have htl := tpF_l LL
    have hll := lpF_l LL
    clear hBd h40
    cases hv : vpl LL with
    | false =>
      have HV := Lib.hid hv
      clear hv
      go_wp2_with fail
      refine (iTurnPile_any aL cL B LL _ p (by omega) (by omega) HIL.out).mono ?_
      rintro e w2 ⟨ao1, co1, uo1, rfl, o1, hb⟩
      replace p := p.below (hb.mono (by omega))
      replace hA := hA.trans (hb.mono hA.size)
      have hz2 := hb.size
      clear hb
      go_wp2_with fail
      refine (sTurnPile_any aL cL B LL _ p (by omega) (by omega) HIL.out).mono ?_
      rintro e w3 ⟨ao2, co2, uo2, rfl, o2, hb⟩
      replace p := p.below (hb.mono (by omega))
      replace o1 := o1.below (hb.mono o1.le)
      replace hA := hA.trans (hb.mono hA.size)
      have hz3 := hb.size
      clear hb
      go_wp2_with fail
      refine (equalLists_same _ _ _ _ _ _ (tpF LL) _ o1.rd o2.rd (by omega) HTR.out).mono ?_
      rintro e w4 ⟨rfl, hd⟩
      have hb : Below w3.heap.size w3 w4 := hd.below _
      clear hd
      replace p := p.below (hb.mono (by omega))
      replace o1 := o1.below (hb.mono o1.le)
      replace o2 := o2.below (hb.mono o2.le)
      replace hA := hA.trans (hb.mono hA.size)
      have hz4 := hb.size
      clear hb
      go_wp2_with fail
      refine (iValidPile_any aL cL B LL _ p (by omega) (by omega) HIL.out).mono ?_
      rintro e w5 ⟨rfl, hb⟩
      replace p := p.below (hb.mono (by omega))
      replace o1 := o1.below (hb.mono o1.le)
      replace o2 := o2.below (hb.mono o2.le)
      replace hA := hA.trans (hb.mono hA.size)
      have hz5 := hb.size
      clear hb
      rw [HV.out]
      go_wp2_with fail
      refine (sTurnPile_any aL cL B LL _ p (by omega) (by omega) HIL.out).mono ?_
      rintro e w6 ⟨a3, c3, u3, rfl, o3, hb⟩
      replace p := p.below (hb.mono (by omega))
      replace o1 := o1.below (hb.mono o1.le)
      replace o2 := o2.below (hb.mono o2.le)
      replace hA := hA.trans (hb.mono hA.size)
      have hz6 := hb.size
      clear hb
      go_wp2_with fail
      refine (equalLists_same _ _ _ _ _ _ (tpF LL) _ o1.rd o3.rd (by omega) HTR.out).mono ?_
      rintro e w7 ⟨rfl, hd⟩
      have hb : Below w6.heap.size w6 w7 := hd.below _
      clear hd
      replace p := p.below (hb.mono (by omega))
      replace o1 := o1.below (hb.mono o1.le)
      replace o2 := o2.below (hb.mono o2.le)
      replace o3 := o3.below (hb.mono o3.le)
      replace hA := hA.trans (hb.mono hA.size)
      have hz7 := hb.size
      clear hb
      go_wp2_with fail
      go_ret
      exact ⟨rfl, hA⟩
    | true =>
      have HV := Lib.hid hv
      clear hv
      have HTB := Lib.hid HV.out
      by_cases h0 : LL.length = 0
      · have b0 : ((LL.length : Int) == 0) = true := beq_iff_eq.2 (by omega)
        clear h0
        go_wp2_with fail
        refine (iTurnPile_any aL cL B LL _ p (by omega) (by omega) HIL.out).mono ?_
        rintro e w2 ⟨ao1, co1, uo1, rfl, o1, hb⟩
        replace p := p.below (hb.mono (by omega))
        replace hA := hA.trans (hb.mono hA.size)
        have hz2 := hb.size
        clear hb
        go_wp2_with fail
        refine (sTurnPile_any aL cL B LL _ p (by omega) (by omega) HIL.out).mono ?_
        rintro e w3 ⟨ao2, co2, uo2, rfl, o2, hb⟩
        replace p := p.below (hb.mono (by omega))
        replace o1 := o1.below (hb.mono o1.le)
        replace hA := hA.trans (hb.mono hA.size)
        have hz3 := hb.size
        clear hb
        go_wp2_with fail
        refine (equalLists_same _ _ _ _ _ _ (tpF LL) _ o1.rd o2.rd (by omega) HTR.out).mono ?_
        rintro e w4 ⟨rfl, hd⟩
        have hb : Below w3.heap.size w3 w4 := hd.below _
        clear hd
        replace p := p.below (hb.mono (by omega))
        replace o1 := o1.below (hb.mono o1.le)
        replace o2 := o2.below (hb.mono o2.le)
        replace hA := hA.trans (hb.mono hA.size)
        have hz4 := hb.size
        clear hb
        go_wp2_with fail
        refine (iValidPile_any aL cL B LL _ p (by omega) (by omega) HIL.out).mono ?_
        rintro e w5 ⟨rfl, hb⟩
        replace p := p.below (hb.mono (by omega))
        replace o1 := o1.below (hb.mono o1.le)
        replace o2 := o2.below (hb.mono o2.le)
        replace hA := hA.trans (hb.mono hA.size)
        have hz5 := hb.size
        clear hb
        rw [HV.out]
        go_wp2_with fail
        refine (tp_back ao1 co1 _ LL _ o1.rd o1.le HV.out).mono ?_
        rintro e w6 ⟨a4, c4, u4, rfl, o4, hb⟩
        replace p := p.below (hb.mono (by omega))
        replace o1 := o1.below (hb.mono o1.le)
        replace o2 := o2.below (hb.mono o2.le)
        replace hA := hA.trans (hb.mono hA.size)
        have hz6 := hb.size
        clear hb
        go_wp2_with fail
        refine (equalLists_same _ _ _ _ _ _ LL _ o4.rd p (by omega) HIL.out).mono ?_
        rintro e w7 ⟨rfl, hd⟩
        have hb : Below w6.heap.size w6 w7 := hd.below _
        clear hd
        replace p := p.below (hb.mono (by omega))
        replace o1 := o1.below (hb.mono o1.le)
        replace o2 := o2.below (hb.mono o2.le)
        replace o4 := o4.below (hb.mono o4.le)
        replace hA := hA.trans (hb.mono hA.size)
        have hz7 := hb.size
        clear hb
        go_wp2_with fail
        go_ret
        exact ⟨rfl, hA⟩
      · have b0 : ((LL.length : Int) == 0) = false := beq_eq_false_iff_ne.2 (by omega)
        obtain ⟨hh, hlen⟩ := tp_first HV.out (by omega)
        clear h0
        go_wp2_with fail
        refine (iTurnPile_any aL cL B LL _ p (by omega) (by omega) HIL.out).mono ?_
        rintro e w2 ⟨ao1, co1, uo1, rfl, o1, hb⟩
        replace p := p.below (hb.mono (by omega))
        replace hA := hA.trans (hb.mono hA.size)
        have hz2 := hb.size
        clear hb
        go_wp2_with fail
        refine (sTurnPile_any aL cL B LL _ p (by omega) (by omega) HIL.out).mono ?_
        rintro e w3 ⟨ao2, co2, uo2, rfl, o2, hb⟩
        replace p := p.below (hb.mono (by omega))
        replace o1 := o1.below (hb.mono o1.le)
        replace hA := hA.trans (hb.mono hA.size)
        have hz3 := hb.size
        clear hb
        go_wp2_with fail
        refine (equalLists_same _ _ _ _ _ _ (tpF LL) _ o1.rd o2.rd (by omega) HTR.out).mono ?_
        rintro e w4 ⟨rfl, hd⟩
        have hb : Below w3.heap.size w3 w4 := hd.below _
        clear hd
        replace p := p.below (hb.mono (by omega))
        replace o1 := o1.below (hb.mono o1.le)
        replace o2 := o2.below (hb.mono o2.le)
        replace hA := hA.trans (hb.mono hA.size)
        have hz4 := hb.size
        clear hb
        go_wp2_with fail
        refine (iValidPile_any aL cL B LL _ p (by omega) (by omega) HIL.out).mono ?_
        rintro e w5 ⟨rfl, hb⟩
        replace p := p.below (hb.mono (by omega))
        replace o1 := o1.below (hb.mono o1.le)
        replace o2 := o2.below (hb.mono o2.le)
        replace hA := hA.trans (hb.mono hA.size)
        have hz5 := hb.size
        clear hb
        rw [HV.out]
        go_wp2_with fail
        refine (tp_back ao1 co1 _ LL _ o1.rd o1.le HV.out).mono ?_
        rintro e w6 ⟨a4, c4, u4, rfl, o4, hb⟩
        replace p := p.below (hb.mono (by omega))
        replace o1 := o1.below (hb.mono o1.le)
        replace o2 := o2.below (hb.mono o2.le)
        replace hA := hA.trans (hb.mono hA.size)
        have hz6 := hb.size
        clear hb
        go_wp2_with fail
        refine (equalLists_same _ _ _ _ _ _ LL _ o4.rd p (by omega) HIL.out).mono ?_
        rintro e w7 ⟨rfl, hd⟩
        have hb : Below w6.heap.size w6 w7 := hd.below _
        clear hd
        replace p := p.below (hb.mono (by omega))
        replace o1 := o1.below (hb.mono o1.le)
        replace o2 := o2.below (hb.mono o2.le)
        replace o4 := o4.below (hb.mono o4.le)
        replace hA := hA.trans (hb.mono hA.size)
        have hz7 := hb.size
        clear hb
        obtain ⟨b6, q6, a6, c6, e6, -, hc6, -, -⟩ := o1.rd.at_ hh
        subst e6
        rw [Nat.add_zero, hlen] at hc6
        have hh2 : (0 : Int) < ((tpF LL).length : Int) := by omega
        clear hlen
        go_wp2_with fail
        go_ret
        exact ⟨rfl, hA⟩
  · have hl' : 1048576 < bs.length := by omega
    go_enter Try.func8, Try.ntmps8
    go_wp2_with fail
    go_ret
    exact ⟨rfl, Below.refl _ _⟩

theorem own : ownKnob Try.prog.godebug = none := by kernel_rfl
theorem laidOut : laidOutB Try.prog = true := by kernel_rfl

set_option maxRecDepth 100000 in
theorem lifted (os : Os) (started : os.Started) (H : Type) (enc : TypeId × Value → H) :
    ReturnsInHanded {} Try.checked os 8 .any (Rows.fnTurnPileSpec.pre6 enc Try.prog Try.f8 Rows.fnTurnPileRow.domain false) (Rows.fnTurnPileSpec.post enc Try.prog Try.f8 false true false false) := by
  refine returnsInHanded_of_change (C := Try.checked) own started (by kernel_rfl) Try.func8
    (ChangeSpec.witness6 (enc := enc) (C := Try.checked) false ⟨#[], #[.slice none 0 0], []⟩ 8 (by kernel_rfl) (by kernel_rfl) (by kernel_rfl) (by kernel_rfl)) ?_
  intro W base args ds gs before hval0 hW hcnd _
  have hval : ∀ (j : Nat) t v, Try.f8.params[j]? = some t → args[j]? = some v → Value.okWide Try.prog W .any base t v := hval0
  have hW' := hW
  obtain ⟨p, q, hA0, hV, rfl, hfz, hnd⟩ := hW
  have hA : DataW.TrodAll enc Try.prog W 0 (fun _ => true) true Try.f8.params.toList args.toList ds p := hA0
  rw [Try.params8] at hA hval
  obtain ⟨v0, vs0, d0, ds0, p0, q0, hargs, rfl, rfl, h0, r0⟩ := trodAll_cons hA
  obtain ⟨rfl, rfl, rfl⟩ := trodAll_nil r0
  obtain rfl : args = #[v0] := by cases args; simp_all
  obtain ⟨rfl, rfl⟩ := trodVars_none hV
  obtain ⟨a0, len0, cap0, rfl⟩ := okWide_slice Try.underlying27 (hval 0 27 v0 rfl rfl)
  have k0 := h0
  have lt0 : ∀ x ∈ p0, x.block < W.heap.size := by obtain ⟨m, hm⟩ := k0; exact DataW.trod_lt m _ _ _ hm
  obtain ⟨z0, w0⟩ : ∃ zs, IsRow .u8 W a0 len0 cap0 zs := by
    obtain ⟨fuel, hf⟩ := h0
    rcases open_ints Try.underlying27 Try.underlying5 (by kernel_rfl) hf with ⟨hcs, _⟩ | ⟨x, l, c, zs, hcs, _, hl, hm, hz, _, hcell, hwz⟩
    · simp [Value.cells] at hcs
      obtain ⟨rfl, rfl, rfl⟩ := hcs
      exact ⟨[], .inl ⟨rfl, rfl, rfl, rfl⟩⟩
    · simp [Value.cells] at hcs
      obtain ⟨rfl, rfl, rfl⟩ := hcs
      exact ⟨zs, .inr ⟨_, rfl, hl, hm, by simpa using hz, hcell, hwz⟩⟩
  have lc0 := w0.lc
  obtain ⟨L0, rfl, R0, wf0, m0⟩ := w0.rd
  clear hA0 hval0
  refine (walk a0 cap0 L0 W R0 wf0 m0 (by simpa using lc0)).mono fun e W' ⟨he, bel⟩ => ?_
  subst he
  exact ⟨_, rfl, _, _, _, [], _, [], hW', trodAll_mk1 (shut_bool Try.underlying4 _), (trodAll_cons_mk (Below.trod laidOut (by kernel_rfl) (of_decide_eq_true (by kernel_rfl)) k0 bel lt0) trodAll_mk0), rfl, bel.frame _, fun h => by cases h⟩

theorem over : Rows.fnTurnPileRow.holds Try.pinned (OpenSpec.ofChange Rows.fnTurnPileSpec) :=
  OpenClaim.holds_of_wide 8 Try.f8 rfl rfl rfl rfl rfl rfl rfl ⟨rfl, rfl, rfl, rfl, rfl⟩ rfl rfl rfl rfl rfl (by kernel_rfl) Try.func8 (by kernel_rfl)
    (of_decide_eq_true (by kernel_rfl)) (by unfold Func.isWrapper; first | (rw [if_pos (by decide +kernel)]; kernel_rfl) | (rw [if_neg (by decide +kernel)]; exact ⟨rfl, rfl⟩))
    (fun os started H enc _ => lifted os started H enc)

/-- the given statement -/
theorem proved : Rows.FnTurnPileSaid := over
end Go.Proofs.Ytnheolhgdinjgaa.fnTurnPile
