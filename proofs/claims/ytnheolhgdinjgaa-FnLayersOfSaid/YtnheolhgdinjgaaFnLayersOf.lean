/-
  'laws.FnLayersOf' returns true for every code, and the code reads as it did. No condition.
-/
import Derived.Test.YtnheolhgdinjgaaRows
import Derived.Test.YtnheolhgdinjgaaM46
import Derived.Test.YtnheolhgdinjgaaW89
import Derived.Test.YtnheolhgdinjgaaW92
import Derived.Test.YtnheolhgdinjgaaD22
import Derived.Test.YtnheolhgdinjgaaLL1
import Derived.Lib.SmallJoins
import Derived.Test.YtnheolhgdinjgaaW48
import Derived.Deep.RegionHeld3
import Derived.WalkKit
import Derived.ProofKit
import Derived.OpenShut
import Derived.ShutString
import Derived.ChangeOld
import Derived.Below
namespace Go.Proofs.Ytnheolhgdinjgaa.fnLayersOf
open Go.ChangeShapes Go.WideShapes Go.ChangeAt Go.RowKit NP
open Go.ChangeMaps (open_string shut_string)
set_option linter.unusedVariables false

theorem vp_tp {LL : List (List Int)} (h : vpl LL = true) : vpl (tpF LL) = true := by rw [tpF_yes h]; exact vpl_turn h
theorem vp_lp {LL : List (List Int)} (h : vpl LL = true) : vpl (lpF LL) = true := by rw [lpF_yes h]; exact vpl_lay h
theorem ps_tp {LL : List (List Int)} (h : vpl LL = true) : psF (tpF LL) = psF LL := by rw [psF_yes h, psF_yes (vp_tp h), tpF_yes h]; exact sum_turn h
theorem ps_lp {LL : List (List Int)} (h : vpl LL = true) : psF (lpF LL) = psF LL := by rw [psF_yes h, psF_yes (vp_lp h), lpF_yes h]; exact sum_lay h
theorem tp_tp {LL : List (List Int)} (h : vpl LL = true) : tpF (tpF LL) = LL := by rw [tpF_yes (vp_tp h), tpF_yes h]; exact turn_turn h
theorem lp_lp {LL : List (List Int)} (h : vpl LL = true) : lpF (lpF (lpF LL)) = LL := by rw [lpF_yes (vp_lp (vp_lp h)), lpF_yes (vp_lp h), lpF_yes h]; exact lay3 h

theorem keepB2 {wr w' : World} {p q : Addr} {x y : Value} (h1 : wr.cell? p = some x) (h2 : wr.cell? q = some y) (hb : Below wr.heap.size (wr.drewN 1) w') : w'.cell? p = some x ∧ w'.cell? q = some y ∧ Below wr.heap.size wr w' :=
  ⟨(hb.cell (World.block_lt_of_cell? _ _ h1)).trans h1, (hb.cell (World.block_lt_of_cell? _ _ h2)).trans h2, ((Dr.n wr 1).below _).trans hb⟩
theorem lp_back (a : Option Addr) (c B : Nat) (LL : List (List Int)) (w : World) (h : RdLL w B a (lpF (lpF LL))) (hB : B ≤ w.heap.size) (hv : vpl LL = true) :
    Calls Try.prog 23 #[.slice a (lpF (lpF LL)).length c] w fun e w' => ∃ a' c' us, e = .returned (.slice a' LL.length c') ∧ OwnLL w' w.heap.size w'.heap.size 31 3 (.slice a' LL.length c') us LL ∧ Below w.heap.size w w' := by
  have h2 := iLayersOf_any a c B (lpF (lpF LL)) w h hB (by have := lpF_l (lpF LL); omega) (lpF_r _)
  rw [lp_lp hv] at h2
  exact h2
theorem ins_next {LL : List (List Int)} (hv : vpl LL = true) {k : Nat} (hk : k + 1 < LL.length) : ins (LL[k]'(by omega)) LL[k + 1] = true := by
  have h := ((vpl_iff.1 hv).1 (k + 1) hk).2.2 (by omega)
  rw [gl_lt hk, Nat.add_sub_cancel, gl_lt (by omega)] at h
  exact h

set_option linter.unusedSimpArgs false
set_option maxRecDepth 100000 in
set_option maxHeartbeats 4000000 in
theorem walk (a : Option Addr) (c : Nat) (bs : List Int) (w0 : World) (h : Rd w0 w0.heap.size a (bs.map (Value.int .u8))) (hb : ∀ n ∈ bs, (Lit.int .u8 n).wf = true) (m : bs.length ≤ maxLen) (hc : bs.length ≤ c) :
    Calls Try.prog 10 #[.slice a bs.length c] w0 fun e w' => e = .returned (.bool true) ∧ Below w0.heap.size w0 w' := by
  unfold maxLen at m
  by_cases hl : bs.length ≤ 1048576
  · go_enter Try.func10, Try.ntmps10
    go_wp2_with fail
    refine (DrawLayersOf_any a c _ bs _ h (Nat.le_refl _) hb hl hc).mono ?_
    rintro e w1 ⟨aL, cL, LL, rfl, p, hl17, hcap, h40, hA⟩
    clear h hb hl hc m
    obtain ⟨B, hBd⟩ : ∃ B, B = w1.heap.size := ⟨_, rfl⟩
    rw [← hBd] at p
    have hB1 : B ≤ w1.heap.size := by omega
    have HIL : Hid (∀ M ∈ LL, M.length ≤ 4611686018427387904) := Lib.hid (fun M hM => by have := h40 M hM; omega)
    have HTR := Lib.hid (tpF_r LL)
    have HLR := Lib.hid (lpF_r LL)
    have htl := tpF_l LL
    have hll := lpF_l LL
    clear hBd h40
    cases hv : vpl LL with
    | false =>
      have HV := Lib.hid hv
      clear hv
      go_wp2_with fail
      refine (iLayersOf_any aL cL B LL _ p (by omega) (by omega) HIL.out).mono ?_
      rintro e w2 ⟨ao1, co1, uo1, rfl, o1, hb⟩
      replace p := p.below (hb.mono (by omega))
      replace hA := hA.trans (hb.mono hA.size)
      have hz2 := hb.size
      clear hb
      go_wp2_with fail
      refine (sLayersOf_any aL cL B LL _ p (by omega) (by omega) HIL.out).mono ?_
      rintro e w3 ⟨ao2, co2, uo2, rfl, o2, hb⟩
      replace p := p.below (hb.mono (by omega))
      replace o1 := o1.below (hb.mono o1.le)
      replace hA := hA.trans (hb.mono hA.size)
      have hz3 := hb.size
      clear hb
      go_wp2_with fail
      refine (equalLists_same _ _ _ _ _ _ (lpF LL) _ o1.rd o2.rd (by omega) HLR.out).mono ?_
      rintro e w4 ⟨rfl, hd⟩
      have hb : Below w3.heap.size w3 w4 := hd.below _
      clear hd
      replace p := p.below (hb.mono (by omega))
      replace o1 := o1.below (hb.mono o1.le)
      replace o2 := o2.below (hb.mono o2.le)
      replace hA := hA.trans (hb.mono hA.size)
      have hz4 := hb.size
      clear hb
      go_wp2_with fail
      refine (iValidPile_any aL cL B LL _ p (by omega) (by omega) HIL.out).mono ?_
      rintro e w5 ⟨rfl, hb⟩
      replace p := p.below (hb.mono (by omega))
      replace o1 := o1.below (hb.mono o1.le)
      replace o2 := o2.below (hb.mono o2.le)
      replace hA := hA.trans (hb.mono hA.size)
      have hz5 := hb.size
      clear hb
      rw [HV.out]
      go_wp2_with fail
      refine (sLayersOf_any aL cL B LL _ p (by omega) (by omega) HIL.out).mono ?_
      rintro e w6 ⟨a3, c3, u3, rfl, o3, hb⟩
      replace p := p.below (hb.mono (by omega))
      replace o1 := o1.below (hb.mono o1.le)
      replace o2 := o2.below (hb.mono o2.le)
      replace hA := hA.trans (hb.mono hA.size)
      have hz6 := hb.size
      clear hb
      go_wp2_with fail
      refine (equalLists_same _ _ _ _ _ _ (lpF LL) _ o1.rd o3.rd (by omega) HLR.out).mono ?_
      rintro e w7 ⟨rfl, hd⟩
      have hb : Below w6.heap.size w6 w7 := hd.below _
      clear hd
      replace p := p.below (hb.mono (by omega))
      replace o1 := o1.below (hb.mono o1.le)
      replace o2 := o2.below (hb.mono o2.le)
      replace o3 := o3.below (hb.mono o3.le)
      replace hA := hA.trans (hb.mono hA.size)
      have hz7 := hb.size
      clear hb
      go_wp2_with fail
      go_ret
      exact ⟨rfl, hA⟩
    | true =>
      have HV := Lib.hid hv
      clear hv
      go_wp2_with fail
      refine (iLayersOf_any aL cL B LL _ p (by omega) (by omega) HIL.out).mono ?_
      rintro e w2 ⟨ao1, co1, uo1, rfl, o1, hb⟩
      replace p := p.below (hb.mono (by omega))
      replace hA := hA.trans (hb.mono hA.size)
      have hz2 := hb.size
      clear hb
      go_wp2_with fail
      refine (sLayersOf_any aL cL B LL _ p (by omega) (by omega) HIL.out).mono ?_
      rintro e w3 ⟨ao2, co2, uo2, rfl, o2, hb⟩
      replace p := p.below (hb.mono (by omega))
      replace o1 := o1.below (hb.mono o1.le)
      replace hA := hA.trans (hb.mono hA.size)
      have hz3 := hb.size
      clear hb
      go_wp2_with fail
      refine (equalLists_same _ _ _ _ _ _ (lpF LL) _ o1.rd o2.rd (by omega) HLR.out).mono ?_
      rintro e w4 ⟨rfl, hd⟩
      have hb : Below w3.heap.size w3 w4 := hd.below _
      clear hd
      replace p := p.below (hb.mono (by omega))
      replace o1 := o1.below (hb.mono o1.le)
      replace o2 := o2.below (hb.mono o2.le)
      replace hA := hA.trans (hb.mono hA.size)
      have hz4 := hb.size
      clear hb
      go_wp2_with fail
      refine (iValidPile_any aL cL B LL _ p (by omega) (by omega) HIL.out).mono ?_
      rintro e w5 ⟨rfl, hb⟩
      replace p := p.below (hb.mono (by omega))
      replace o1 := o1.below (hb.mono o1.le)
      replace o2 := o2.below (hb.mono o2.le)
      replace hA := hA.trans (hb.mono hA.size)
      have hz5 := hb.size
      clear hb
      rw [HV.out]
      have HVY := Lib.hid (vp_lp HV.out)
      have HLR2 := Lib.hid (lpF_r (lpF LL))
      have hll2 := lpF_l (lpF LL)
      go_wp2_with fail
      go_loopw [5] (fun i wr => ∃ k : Nat, k ≤ (lpF LL).length ∧ i = .int .i64 ((k : Int) + 1) ∧ Below w5.heap.size w5 wr) (fun i _ => 40 - (intOf i).toNat)
      case atStart => exact ⟨0, Nat.zero_le _, rfl, Below.refl _ _⟩
      case round =>
        obtain ⟨k, hk, rfl, hbr⟩ := hrel
        have hzr := hbr.size
        by_cases hlt : k + 1 < (lpF LL).length
        · have hlt' : (k : Int) + 1 < ((lpF LL).length : Int) := by omega
          have hb9 := hbr.mono o1.le
          have hk1 : (k : Int) < ((lpF LL).length : Int) := by omega
          have hk2 : k < (lpF LL).length := by omega
          have hk0 : (0 : Int) ≤ (k : Int) + 1 := by omega
          have HWK : Hid (IntKind.i64.wrap (k : Int) = (k : Int)) := Lib.hid (IntWalk.i64_in _ (by omega))
          obtain ⟨b1, q1, a1, c1, e1, -, hc1, hr1, -⟩ := (o1.rd.below hb9).at_ (k := k) (by omega)
          obtain ⟨b2, q2, a2, c2, e2, -, hc2, hr2, -⟩ := (o1.rd.below hb9).at_ hlt
          have HI := Lib.hid (ins_next HVY.out hlt)
          have hX := HLR.out _ (List.getElem_mem (show k < (lpF LL).length by omega))
          have hY := HLR.out _ (List.getElem_mem hlt)
          have hB9 := Nat.le_trans o1.le hbr.size
          rw [e1] at e2
          injection e2 with e2
          injection e2 with e2 e3
          subst e2 e3
          generalize (lpF LL)[k] = X at hc1 hr1 HI hX
          generalize (lpF LL)[k + 1] = Y at hc2 hr2 HI hY
          subst e1
          have HBR := Lib.hid hbr
          clear hbr hb9
          go_wp2_with fail
          refine wp_region_held_drew (S := fun w' => w'.cell? ⟨b1, q1 + k, none⟩ = some (.slice a1 X.length c1) ∧ w'.cell? ⟨b1, q1 + (k + 1), none⟩ = some (.slice a2 Y.length c2) ∧ Below wr.heap.size wr w') (by kernel_rfl) ⟨hc1, hc2, (Dr.n wr 1).below _⟩ (fun hS0 => ?_)
          refine wpAnyH_take (i := 0) (v := .slice (some ⟨b1, q1, none⟩) (lpF LL).length co1) (by simp only [List.getElem?_toArray, List.getElem?_cons_succ, List.getElem?_cons_zero]; exact rfl) (by kernel_rfl) (by kernel_rfl) (by kernel_rfl) (by intro _ _ _ h; exact h) (Or.inl ⟨by kernel_rfl, by intro w hSw; go_simp⟩) (by assumption) ?_
          simp only [Act.put, List.setIfInBounds_toArray, List.set_cons_zero, List.set_cons_succ, List.toList_toArray]
          refine wpAnyH_take (i := 1) (v := .int .i64 ((k : Int) + 1)) (by simp only [List.getElem?_toArray, List.getElem?_cons_succ, List.getElem?_cons_zero]; exact rfl) (by kernel_rfl) (by kernel_rfl) (by kernel_rfl) (by intro _ _ _ h; exact h) (Or.inl ⟨by kernel_rfl, by intro w hSw; go_simp⟩) (by assumption) ?_
          simp only [Act.put, List.setIfInBounds_toArray, List.set_cons_zero, List.set_cons_succ, List.toList_toArray]
          refine wpAnyH_take (i := 2) (v := .int .i64 (k : Int)) (by simp only [List.getElem?_toArray, List.getElem?_cons_succ, List.getElem?_cons_zero]; exact rfl) (by kernel_rfl) (by kernel_rfl) (by kernel_rfl) (by intro _ _ _ h; exact h) (Or.inl ⟨by kernel_rfl, by intro w hSw; go_simp; exact HWK.out⟩) (by assumption) ?_
          simp only [Act.put, List.setIfInBounds_toArray, List.set_cons_zero, List.set_cons_succ, List.toList_toArray]
          refine wpAnyH_take (i := 3) (v := .pointer (some ⟨b1, q1 + k, none⟩)) (by simp only [List.getElem?_toArray, List.getElem?_cons_succ, List.getElem?_cons_zero]; exact rfl) (by kernel_rfl) (by kernel_rfl) (by kernel_rfl) (by intro _ _ _ h; exact h) (Or.inl ⟨by kernel_rfl, by intro w hSw; go_simp⟩) (by assumption) ?_
          simp only [Act.put, List.setIfInBounds_toArray, List.set_cons_zero, List.set_cons_succ, List.toList_toArray]
          refine wpAnyH_take (i := 4) (v := .slice a1 X.length c1) (by simp only [List.getElem?_toArray, List.getElem?_cons_succ, List.getElem?_cons_zero]; exact rfl) (by kernel_rfl) (by kernel_rfl) (by kernel_rfl) (by intro _ _ _ h; exact h) (Or.inl ⟨by kernel_rfl, by intro w hSw; obtain ⟨s1, s2, s3⟩ := hSw; go_simp⟩) (by assumption) ?_
          simp only [Act.put, List.setIfInBounds_toArray, List.set_cons_zero, List.set_cons_succ, List.toList_toArray]
          refine wpAnyH_take (i := 5) (v := .slice (some ⟨b1, q1, none⟩) (lpF LL).length co1) (by simp only [List.getElem?_toArray, List.getElem?_cons_succ, List.getElem?_cons_zero]; exact rfl) (by kernel_rfl) (by kernel_rfl) (by kernel_rfl) (by intro _ _ _ h; exact h) (Or.inl ⟨by kernel_rfl, by intro w hSw; go_simp⟩) (by assumption) ?_
          simp only [Act.put, List.setIfInBounds_toArray, List.set_cons_zero, List.set_cons_succ, List.toList_toArray]
          refine wpAnyH_take (i := 6) (v := .int .i64 ((k : Int) + 1)) (by simp only [List.getElem?_toArray, List.getElem?_cons_succ, List.getElem?_cons_zero]; exact rfl) (by kernel_rfl) (by kernel_rfl) (by kernel_rfl) (by intro _ _ _ h; exact h) (Or.inl ⟨by kernel_rfl, by intro w hSw; go_simp⟩) (by assumption) ?_
          simp only [Act.put, List.setIfInBounds_toArray, List.set_cons_zero, List.set_cons_succ, List.toList_toArray]
          refine wpAnyH_take (i := 7) (v := .pointer (some ⟨b1, q1 + (k + 1), none⟩)) (by simp only [List.getElem?_toArray, List.getElem?_cons_succ, List.getElem?_cons_zero]; exact rfl) (by kernel_rfl) (by kernel_rfl) (by kernel_rfl) (by intro _ _ _ h; exact h) (Or.inl ⟨by kernel_rfl, by intro w hSw; go_simp⟩) (by assumption) ?_
          simp only [Act.put, List.setIfInBounds_toArray, List.set_cons_zero, List.set_cons_succ, List.toList_toArray]
          refine wpAnyH_take (i := 8) (v := .slice a2 Y.length c2) (by simp only [List.getElem?_toArray, List.getElem?_cons_succ, List.getElem?_cons_zero]; exact rfl) (by kernel_rfl) (by kernel_rfl) (by kernel_rfl) (by intro _ _ _ h; exact h) (Or.inl ⟨by kernel_rfl, by intro w hSw; obtain ⟨s1, s2, s3⟩ := hSw; go_simp⟩) (by assumption) ?_
          simp only [Act.put, List.setIfInBounds_toArray, List.set_cons_zero, List.set_cons_succ, List.toList_toArray]
          refine wpAnyH_ready (rs := [9]) (by kernel_rfl) (by simp) ?_
          refine AllReadyH.cons (o := _) (by simp only [List.getElem?_toArray, List.getElem?_cons_succ, List.getElem?_cons_zero]; exact rfl) (fun K hK => ?_) AllReadyH.nil
          rw [if_pos (by rfl)]
          go_simp
          go_at_call 31
          refine (iHasInside_any a1 a2 c1 c2 _ _ X Y _ (hr1.dr (Dr.n wr 1)) (hr2.dr (Dr.n wr 1)) hB9 hB9 hX hY).mono ?_
          rintro e w' ⟨rfl, hb⟩
          rw [HI.out]
          have hS1 := keepB2 hc1 hc2 hb
          refine hK.out _ _ hS1 (fun _ => ?_)
          clear hK K
          try simp only [Act.put, List.setIfInBounds_toArray, List.set_cons_zero, List.set_cons_succ, List.toList_toArray]
          refine wpAnyH_take (i := 10) (v := .bool false) (by simp only [List.getElem?_toArray, List.getElem?_cons_succ, List.getElem?_cons_zero]; exact rfl) (by kernel_rfl) (by kernel_rfl) (by kernel_rfl) (by intro _ _ _ h; exact h) (Or.inl ⟨by kernel_rfl, by intro w hSw; go_simp⟩) (by assumption) ?_
          simp only [Act.put, List.setIfInBounds_toArray, List.set_cons_zero, List.set_cons_succ, List.toList_toArray]
          refine wpAnyH_done (by kernel_rfl) ?_ _
          try simp only [Act.put, List.setIfInBounds_toArray, List.set_cons_zero, List.set_cons_succ]
          have hb5 : Below wr.heap.size wr w' := ((Dr.n wr 1).below _).trans hb
          go_wp2_with fail
          go_roundw
          case rel => exact ⟨k + 1, by omega, by go_num, HBR.out.trans (hb5.mono hzr)⟩
          case measure => simp [intOf]; omega
        · have hge : ¬ (k : Int) + 1 < ((lpF LL).length : Int) := by omega
          have hb := hbr
          clear hbr hlt
          obtain ⟨w6, rfl⟩ : ∃ w6, w6 = wr := ⟨_, rfl⟩
          replace p := p.below (hb.mono (by omega))
          replace o1 := o1.below (hb.mono o1.le)
          replace o2 := o2.below (hb.mono o2.le)
          replace hA := hA.trans (hb.mono hA.size)
          have hz6 := hb.size
          clear hb
          go_wp2_with fail
          refine (iValidPile_any ao1 co1 _ (lpF LL) _ o1.rd o1.le (by omega) HLR.out).mono ?_
          rintro e w7 ⟨rfl, hb⟩
          replace p := p.below (hb.mono (by omega))
          replace o1 := o1.below (hb.mono o1.le)
          replace o2 := o2.below (hb.mono o2.le)
          replace hA := hA.trans (hb.mono hA.size)
          have hz7 := hb.size
          clear hb
          rw [HVY.out]
          go_wp2_with fail
          refine (iLayersOf_any ao1 co1 _ (lpF LL) _ o1.rd o1.le (by omega) HLR.out).mono ?_
          rintro e w8 ⟨a4, c4, u4, rfl, o4, hb⟩
          replace p := p.below (hb.mono (by omega))
          replace o1 := o1.below (hb.mono o1.le)
          replace o2 := o2.below (hb.mono o2.le)
          replace hA := hA.trans (hb.mono hA.size)
          have hz8 := hb.size
          clear hb
          go_wp2_with fail
          refine (lp_back a4 c4 _ LL _ o4.rd o4.le HV.out).mono ?_
          rintro e w9 ⟨a5, c5, u5, rfl, o5, hb⟩
          replace p := p.below (hb.mono (by omega))
          replace o1 := o1.below (hb.mono o1.le)
          replace o2 := o2.below (hb.mono o2.le)
          replace o4 := o4.below (hb.mono o4.le)
          replace hA := hA.trans (hb.mono hA.size)
          have hz9 := hb.size
          clear hb
          go_wp2_with fail
          refine (equalLists_same _ _ _ _ _ _ LL _ o5.rd p (by omega) HIL.out).mono ?_
          rintro e w10 ⟨rfl, hd⟩
          have hb : Below w9.heap.size w9 w10 := hd.below _
          clear hd
          replace p := p.below (hb.mono (by omega))
          replace o1 := o1.below (hb.mono o1.le)
          replace o2 := o2.below (hb.mono o2.le)
          replace o4 := o4.below (hb.mono o4.le)
          replace o5 := o5.below (hb.mono o5.le)
          replace hA := hA.trans (hb.mono hA.size)
          have hz10 := hb.size
          clear hb
          go_wp2_with fail
          go_ret
          exact ⟨rfl, hA⟩
  · have hl' : 1048576 < bs.length := by omega
    go_enter Try.func10, Try.ntmps10
    go_wp2_with fail
    go_ret
    exact ⟨rfl, Below.refl _ _⟩

theorem own : ownKnob Try.prog.godebug = none := by kernel_rfl
theorem laidOut : laidOutB Try.prog = true := by kernel_rfl

set_option maxRecDepth 100000 in
theorem lifted (os : Os) (started : os.Started) (H : Type) (enc : TypeId × Value → H) :
    ReturnsInHanded {} Try.checked os 10 .any (Rows.fnLayersOfSpec.pre6 enc Try.prog Try.f10 Rows.fnLayersOfRow.domain false) (Rows.fnLayersOfSpec.post enc Try.prog Try.f10 false true false false) := by
  refine returnsInHanded_of_change (C := Try.checked) own started (by kernel_rfl) Try.func10
    (ChangeSpec.witness6 (enc := enc) (C := Try.checked) false ⟨#[], #[.slice none 0 0], []⟩ 8 (by kernel_rfl) (by kernel_rfl) (by kernel_rfl) (by kernel_rfl)) ?_
  intro W base args ds gs before hval0 hW hcnd _
  have hval : ∀ (j : Nat) t v, Try.f10.params[j]? = some t → args[j]? = some v → Value.okWide Try.prog W .any base t v := hval0
  have hW' := hW
  obtain ⟨p, q, hA0, hV, rfl, hfz, hnd⟩ := hW
  have hA : DataW.TrodAll enc Try.prog W 0 (fun _ => true) true Try.f10.params.toList args.toList ds p := hA0
  rw [Try.params10] at hA hval
  obtain ⟨v0, vs0, d0, ds0, p0, q0, hargs, rfl, rfl, h0, r0⟩ := trodAll_cons hA
  obtain ⟨rfl, rfl, rfl⟩ := trodAll_nil r0
  obtain rfl : args = #[v0] := by cases args; simp_all
  obtain ⟨rfl, rfl⟩ := trodVars_none hV
  obtain ⟨a0, len0, cap0, rfl⟩ := okWide_slice Try.underlying27 (hval 0 27 v0 rfl rfl)
  have k0 := h0
  have lt0 : ∀ x ∈ p0, x.block < W.heap.size := by obtain ⟨m, hm⟩ := k0; exact DataW.trod_lt m _ _ _ hm
  obtain ⟨z0, w0⟩ : ∃ zs, IsRow .u8 W a0 len0 cap0 zs := by
    obtain ⟨fuel, hf⟩ := h0
    rcases open_ints Try.underlying27 Try.underlying5 (by kernel_rfl) hf with ⟨hcs, _⟩ | ⟨x, l, c, zs, hcs, _, hl, hm, hz, _, hcell, hwz⟩
    · simp [Value.cells] at hcs
      obtain ⟨rfl, rfl, rfl⟩ := hcs
      exact ⟨[], .inl ⟨rfl, rfl, rfl, rfl⟩⟩
    · simp [Value.cells] at hcs
      obtain ⟨rfl, rfl, rfl⟩ := hcs
      exact ⟨zs, .inr ⟨_, rfl, hl, hm, by simpa using hz, hcell, hwz⟩⟩
  have lc0 := w0.lc
  obtain ⟨L0, rfl, R0, wf0, m0⟩ := w0.rd
  clear hA0 hval0
  refine (walk a0 cap0 L0 W R0 wf0 m0 (by simpa using lc0)).mono fun e W' ⟨he, bel⟩ => ?_
  subst he
  exact ⟨_, rfl, _, _, _, [], _, [], hW', trodAll_mk1 (shut_bool Try.underlying4 _), (trodAll_cons_mk (Below.trod laidOut (by kernel_rfl) (of_decide_eq_true (by kernel_rfl)) k0 bel lt0) trodAll_mk0), rfl, bel.frame _, fun h => by cases h⟩

theorem over : Rows.fnLayersOfRow.holds Try.pinned (OpenSpec.ofChange Rows.fnLayersOfSpec) :=
  OpenClaim.holds_of_wide 10 Try.f10 rfl rfl rfl rfl rfl rfl rfl ⟨rfl, rfl, rfl, rfl, rfl⟩ rfl rfl rfl rfl rfl (by kernel_rfl) Try.func10 (by kernel_rfl)
    (of_decide_eq_true (by kernel_rfl)) (by unfold Func.isWrapper; first | (rw [if_pos (by decide +kernel)]; kernel_rfl) | (rw [if_neg (by decide +kernel)]; exact ⟨rfl, rfl⟩))
    (fun os started H enc _ => lifted os started H enc)

/-- the given statement -/
theorem proved : Rows.FnLayersOfSaid := over
end Go.Proofs.Ytnheolhgdinjgaa.fnLayersOf
