/-
  'laws.FnHooksOf' returns true for every code, and the code reads as it did. No condition.
-/
import Derived.Test.YthafbdpeignccaaRows
import Derived.Test.YthafbdpeignccaaW140
import Derived.Test.YthafbdpeignccaaM79
import Derived.Test.YthafbdpeignccaaD3a
import Derived.Test.YthafbdpeignccaaL1
import Derived.Test.YthafbdpeignccaaLL1
import Derived.Test.YthafbdpeignccaaDrCell
import Derived.Test.YthafbdpeignccaaW109
import Derived.WalkKit
import Derived.ProofKit
import Derived.OpenShut
import Derived.ShutString
import Derived.ChangeOld
import Derived.Below
namespace Go.Proofs.Ythafbdpeignccaa.fnHooksOf
open Go.ChangeShapes Go.WideShapes Go.ChangeAt Go.RowKit NP
open Go.ChangeMaps (open_string shut_string)
set_option linter.unusedVariables false
theorem wrapI {a b q : Int} (e : a * b = q) (h : 0 ≤ q ∧ q ≤ 1000000000000000) : IntKind.i64.wrap (a * b) = q ∧ wrap64 (a * b) = q := by
  rw [e]
  exact ⟨IntWalk.i64_in _ (by omega), by unfold wrap64; omega⟩
set_option maxHeartbeats 1000000 in
theorem product_any (n : Nat) (hn : n ≤ 12) (w : World) : Calls Try.prog 37 #[.int .i64 n] w fun e w' => e = .returned (.int .i64 (factN n : Int)) ∧ w = w' := by
  go_enter Try.func37, Try.ntmps37
  go_wp2_with fail
  go_loopw [3, 4] (fun oo kk wr => ∃ j : Nat, oo = .int .i64 (factN (j + 1) : Int) ∧ kk = .int .i64 ((j + 2 : Nat) : Int) ∧ j + 1 ≤ max n 1 ∧ wr = w) (fun _ kk _ => 20 - (intOf kk).toNat)
  case atStart => exact ⟨0, rfl, rfl, by omega, rfl⟩
  case round =>
    obtain ⟨j, rfl, rfl, hj, rfl⟩ := hrel
    obtain ⟨x, hx⟩ : ∃ x, j + 2 = x := ⟨_, rfl⟩
    rw [hx]
    have hj12 : j + 1 ≤ 12 := by omega
    by_cases hlt : x ≤ n
    · have hlt' : (x : Int) ≤ (n : Int) := Int.ofNat_le.2 hlt
      obtain ⟨hf1, hf2⟩ := fact_bd (j + 1) (by omega)
      have hf3 := (fact_bd (j + 2) (by omega)).1
      rw [show j + 1 + 1 = x from by omega] at hf2
      rw [hx] at hf3
      have hx17 : x ≤ 12 := by omega
      obtain ⟨hw1, hw2⟩ := wrapI (a := (factN (j + 1) : Int)) (b := (x : Int)) (q := (factN x : Int)) (by rw [hf2, Int.natCast_mul]) ⟨by omega, by omega⟩
      have HX := Lib.hid hx
      have HJ := Lib.hid (show x ≤ max n 1 by omega)
      clear hf1 hf2 hf3 hlt hx hj
      go_wp2_with fail
      clear hw1 hw2
      go_roundw
      case rel => exact ⟨j + 1, by rw [show j + 1 + 1 = x from HX.out], by rw [show j + 1 + 2 = x + 1 from by have := HX.out; omega]; go_num, by have := HJ.out; have := HX.out; omega, by first | rfl | trivial⟩
      case measure => simp [intOf] <;> omega
    · have hlt' : ¬ (x : Int) ≤ (n : Int) := fun h => hlt (Int.ofNat_le.1 h)
      have HF : Hid (factN (j + 1) = factN n) := Lib.hid (by
        rcases Nat.eq_zero_or_pos n with e | e
        · subst e
          have : j = 0 := by omega
          subst this
          decide
        · rw [show n = j + 1 from by omega])
      rw [HF.out]
      clear hlt
      go_wp2_with fail
      go_ret
      exact ⟨rfl, rfl⟩
theorem vsm_fits' {L : List Int} (h : valid L = true) : sumFits L := valid_fits h

set_option linter.unusedSimpArgs false
set_option maxRecDepth 100000 in
set_option maxHeartbeats 4000000 in
theorem walk (a : Option Addr) (c : Nat) (bs : List Int) (w0 : World) (h : Rd w0 w0.heap.size a (bs.map (Value.int .u8))) (hb : ∀ n ∈ bs, (Lit.int .u8 n).wf = true) (m : bs.length ≤ maxLen) (hc : bs.length ≤ c) :
    Calls Try.prog 9 #[.slice a bs.length c] w0 fun e w' => e = .returned (.bool true) ∧ Below w0.heap.size w0 w' := by
  unfold maxLen at m
  by_cases hl : bs.length ≤ 1048576
  · go_enter Try.func9, Try.ntmps9
    go_wp2_with fail
    refine (DrawHooksOf_any a c _ bs _ h (Nat.le_refl _) hb hl hc).mono ?_
    rintro e w1 ⟨a1, c1, M, rfl, p0, hsm, hA⟩
    have hM := hsm.1
    obtain ⟨FF, hFF⟩ : ∃ FF, hkF M = FF := ⟨_, rfl⟩
    have hln : FF.length ≤ 16 := hFF ▸ (hkF_rows M).1
    have hil : ∀ X ∈ FF, X.length ≤ 4611686018427387904 := hFF ▸ fun X hX => Nat.le_trans ((hkF_rows M).2 X hX) (by omega)
    have HFF := Lib.hid hFF
    have HIL := Lib.hid hil
    have hmx : Try.prog.follows .mixedOrders = true := by kernel_rfl
    clear hFF hil h hb hl hc m hsm
    go_wp2_with fail
    refine (iHooksOf_any _ _ _ M _ p0.rd p0.le (by omega)).mono ?_
    rintro e w2 ⟨ag, cg, ug, rfl, g0, hb⟩
    replace p0 := p0.below (hb.mono p0.le)
    replace hA := hA.trans (hb.mono hA.size)
    have hz2 := hb.size
    clear hb
    rw [HFF.out] at g0 ⊢
    go_wp2_with fail
    refine (sHooksOf_any _ _ _ M _ p0.rd p0.le (by omega)).mono ?_
    rintro e w3 ⟨ar, cr, ur, rfl, r0, hb⟩
    replace p0 := p0.below (hb.mono p0.le)
    replace g0 := g0.below (hb.mono g0.le)
    replace hA := hA.trans (hb.mono hA.size)
    have hz3 := hb.size
    clear hb
    rw [HFF.out] at r0 ⊢
    go_wp2_with fail
    refine (equalLists_same _ _ _ _ _ _ FF _ g0.rd r0.rd (by omega) HIL.out).mono ?_
    rintro e w4 ⟨rfl, hd⟩
    have hb : Below w3.heap.size w3 w4 := hd.below _
    clear hd
    replace p0 := p0.below (hb.mono p0.le)
    replace g0 := g0.below (hb.mono g0.le)
    replace r0 := r0.below (hb.mono r0.le)
    replace hA := hA.trans (hb.mono hA.size)
    have hz4 := hb.size
    clear hb
    cases hv : valid M with
    | false =>
      have HV := Lib.hid hv
      clear hv
      go_wp2_with fail
      refine (iValidParts_any _ _ _ M _ p0.rd p0.le (by omega)).mono ?_
      rintro e w5 ⟨rfl, hb⟩
      replace p0 := p0.below (hb.mono p0.le)
      replace g0 := g0.below (hb.mono g0.le)
      replace r0 := r0.below (hb.mono r0.le)
      replace hA := hA.trans (hb.mono hA.size)
      have hz5 := hb.size
      clear hb
      rw [HV.out]
      go_wp2_with fail
      refine (sHooksOf_any _ _ _ M _ p0.rd p0.le (by omega)).mono ?_
      rintro e w6 ⟨ar2, cr2, ur2, rfl, r1, hb⟩
      replace p0 := p0.below (hb.mono p0.le)
      replace g0 := g0.below (hb.mono g0.le)
      replace r0 := r0.below (hb.mono r0.le)
      replace hA := hA.trans (hb.mono hA.size)
      have hz6 := hb.size
      clear hb
      rw [HFF.out] at r1 ⊢
      go_wp2_with fail
      refine (equalLists_same _ _ _ _ _ _ FF _ g0.rd r1.rd (by omega) HIL.out).mono ?_
      rintro e w7 ⟨rfl, hd⟩
      have hb : Below w6.heap.size w6 w7 := hd.below _
      clear hd
      replace p0 := p0.below (hb.mono p0.le)
      replace g0 := g0.below (hb.mono g0.le)
      replace r0 := r0.below (hb.mono r0.le)
      replace r1 := r1.below (hb.mono r1.le)
      replace hA := hA.trans (hb.mono hA.size)
      have hz7 := hb.size
      clear hb
      go_wp2_with fail
      go_ret
      exact ⟨rfl, hA⟩
    | true =>
      have HV := Lib.hid hv
      clear hv
      go_wp2_with fail
      refine (iValidParts_any _ _ _ M _ p0.rd p0.le (by omega)).mono ?_
      rintro e w5 ⟨rfl, hb⟩
      replace p0 := p0.below (hb.mono p0.le)
      replace g0 := g0.below (hb.mono g0.le)
      replace r0 := r0.below (hb.mono r0.le)
      replace hA := hA.trans (hb.mono hA.size)
      have hz5 := hb.size
      clear hb
      rw [HV.out]
      have hFE : FF = hkL M M.length := by rw [← HFF.out]; unfold hkF; rw [if_pos HV.out]
      have HFE := Lib.hid hFE
      have hFl : FF.length = M.length := by rw [hFE]; simp [hkL]
      have HFL := Lib.hid hFl
      have hl16 := (valid_bd HV.out).2.2.2
      have HA := Lib.hid hA
      have HG := Lib.hid g0.rd
      have HP := Lib.hid p0.rd
      have HGL := Lib.hid g0.le
      have HPL := Lib.hid p0.le
      clear hA g0 p0 r0 hFE hFl
      rw [HFL.out]
      go_wp2_with fail
      obtain ⟨ws, hws⟩ : ∃ ws, ws = w5 := ⟨_, rfl⟩
      rw [← hws] at HA HG HP HGL HPL ⊢
      have hzA := HA.out.size
      clear hws
      go_loopw [5, 6] (fun oo ii wr => ∃ i : Nat, oo = .int .i64 (prodL (hkL M i).flatten) ∧ ii = .int .i64 (i : Int) ∧ i ≤ M.length ∧ Below ws.heap.size ws wr) (fun _ ii _ => M.length - (intOf ii).toNat)
      case atStart => exact ⟨0, by simp [hkL, prodL], rfl, Nat.zero_le _, Below.refl _ _⟩
      case round =>
        obtain ⟨i, rfl, rfl, hi, hbel⟩ := hrel
        by_cases hil : i < M.length
        · have hil' : (i : Int) < (M.length : Int) := by omega
          have hGr := HG.out.below (hbel.mono HGL.out)
          have hPr' := HP.out.below (hbel.mono HPL.out)
          obtain ⟨bO, oO, aR, cR, hag, -, hcO, hrR, -⟩ := hGr.at_ (k := i) (by rw [HFL.out]; exact hil)
          have hrow : FF[i]'(by rw [HFL.out]; exact hil) = hkR M i (M.getD i 0).toNat := by simp [HFE.out, hkL]
          rw [hrow] at hcO hrR
          have hMi : M.getD i 0 = M[i] := by simp [List.getD_eq_getElem?_getD, hil]
          have hpi := preS_of_valid HV.out i hil hil
          obtain ⟨x, hx⟩ : ∃ x : Nat, M[i] = (x : Int) := Int.eq_ofNat_of_zero_le (show 0 ≤ M[i] by omega)
          have hx16 : 1 ≤ x ∧ x ≤ 16 := by
            have h1 := pad_nonneg HV.out i (by rw [pad_len hl16]; omega)
            rw [pad_get hl16 hil] at h1
            omega
          rw [hMi, hx, Int.toNat_natCast] at hcO hrR
          have hlen : (hkR M i x).length = x := by simp [hkR]
          rw [hlen] at hcO
          obtain ⟨bP, oP, ha1, -, hcP⟩ := hPr' (fun e => by have h9 := congrArg List.length e; simp only [ints, List.length_map, List.length_nil] at h9; omega)
          have hcPi : wr.cell? ⟨bP, oP + i, none⟩ = some (.int .i64 (x : Int)) := by rw [hcP i (.int .i64 (x : Int)) (by simp [ints, hil, hx])]
          subst hag
          subst ha1
          have hne : ((x : Int) != (x : Int)) = false := by simp
          have HX := Lib.hid (show (M.getD i 0).toNat = x by rw [hMi, hx]; rfl)
          have HRR := Lib.hid hrR
          have HBX := Lib.hid hx16
          clear hGr hPr' hcP hrow hMi hpi hx hrR hlen
          go_wp2_with fail
          refine wp_region_vals [0, 1, 2, 3, 4, 5, 6, 7, 8, 9] [.slice (some ⟨bO, oO, none⟩) M.length cg, .int .i64 i, .pointer (some ⟨bO, oO + i, none⟩), .slice aR x cR, .int .i64 x, .slice (some ⟨bP, oP, none⟩) M.length c1, .int .i64 i, .pointer (some ⟨bP, oP + i, none⟩), .int .i64 x, .bool false] (fun w' => Dr wr w') _ hmx (fun _ h => h) rfl rfl (by kernel_rfl) (by kernel_rfl) rfl ?steps ?rest
          case steps =>
            simp only [putsOfG, Act.put, List.getElem?_toArray, List.getElem?_cons_succ, List.getElem?_cons_zero, Option.bind_some, Nat.reduceAdd, List.setIfInBounds_toArray, List.set_cons_zero, List.set_cons_succ]
            refine StepsG.cons rfl rfl (fun wq hS => ?_) ?_
            · go_simp
            refine StepsG.cons rfl rfl (fun wq hS => ?_) ?_
            · go_simp
            refine StepsG.cons rfl rfl (fun wq hS => ?_) ?_
            · go_simp
            refine StepsG.cons rfl rfl (fun wq hS => ?_) ?_
            · have s1 := cell_dr hS hcO
              go_simp
            refine StepsG.cons rfl rfl (fun wq hS => ?_) ?_
            · go_simp
            refine StepsG.cons rfl rfl (fun wq hS => ?_) ?_
            · go_simp
            refine StepsG.cons rfl rfl (fun wq hS => ?_) ?_
            · go_simp
            refine StepsG.cons rfl rfl (fun wq hS => ?_) ?_
            · go_simp
            refine StepsG.cons rfl rfl (fun wq hS => ?_) ?_
            · have s1 := cell_dr hS hcPi
              go_simp
            refine StepsG.cons rfl rfl (fun wq hS => ?_) ?_
            · go_simp
            exact StepsG.nil
          case rest =>
            intro wq hS1
            simp only [putsOfG, Act.put, List.getElem?_toArray, List.getElem?_cons_succ, List.getElem?_cons_zero, Option.bind_some, Nat.reduceAdd, List.setIfInBounds_toArray, List.set_cons_zero, List.set_cons_succ]
            have hbq : Below ws.heap.size ws wq := hbel.trans (hS1.below _)
            have HCO := Lib.hid (cell_dr hS1 hcO)
            have HR2 := Lib.hid (HRR.out.dr hS1)
            have hzq := hbq.size
            go_wp2_with fail
            go_loopw [5, 7] (fun oo kk wz => ∃ k : Nat, oo = .int .i64 (hPr M i k) ∧ kk = .int .i64 (k : Int) ∧ k ≤ x ∧ wz = wq) (fun _ kk _ => x - (intOf kk).toNat)
            case atStart => exact ⟨0, by rw [hPr_zero], rfl, Nat.zero_le _, rfl⟩
            case round =>
              obtain ⟨k, rfl, rfl, hk, rfl⟩ := hrel
              have hcO2 := HCO.out
              by_cases hkx : k < x
              · have hkx' : (k : Int) < (x : Int) := by omega
                have hsuc := hPr_succ M i k
                have hb1 := hPr_bd HV.out hil (k := k) (by rw [HX.out]; omega)
                have hb2 := hPr_bd HV.out hil (k := k + 1) (by rw [HX.out]; omega)
                obtain ⟨y, hy⟩ : ∃ y, M.getD i 0 - (k : Int) + (conj M).getD k 0 - (i : Int) - 1 = y := ⟨_, rfl⟩
                have hkl : k < (hkR M i x).length := by simp [hkR]; exact hkx
                have hry : (hkR M i x)[k] = y := by rw [← hy]; simp [hkR]
                obtain ⟨bR, oR, haR, -, hcR⟩ := HR2.out (fun e => by have h9 := congrArg List.length e; simp only [ints, List.length_map, List.length_nil] at h9; omega)
                have hcRk : wr.cell? ⟨bR, oR + k, none⟩ = some (.int .i64 y) := by rw [hcR k (.int .i64 y) (by simp [ints, hkl, hry])]
                subst haR
                rw [hy] at hsuc
                obtain ⟨hw1, hw2⟩ := wrapI hsuc.symm ⟨by omega, by omega⟩
                have HSU := Lib.hid hsuc
                clear hsuc hb1 hb2 hy hkl hry hcR
                go_wp2_with fail
                clear hw1 hw2
                go_roundw
                case rel => exact ⟨k + 1, by first | rfl | rw [HSU.out], by go_num, by omega, by first | rfl | trivial⟩
                case measure => simp [intOf] <;> omega
              · obtain rfl : k = x := by omega
                clear hkx
                go_wp2_with fail
                go_roundw
                case rel => exact ⟨i + 1, by rw [hPr_next, HX.out], by go_num, by omega, hbq⟩
                case measure => simp [intOf] <;> omega
        · obtain rfl : i = M.length := by omega
          have hA := HA.out.trans (hbel.mono hzA)
          have hzr := hbel.size
          have hPr' := HP.out.below (hbel.mono HPL.out)
          have hHA : prodL (hkL M M.length).flatten = prodL (hAll M) := rfl
          rw [hHA]
          have HFM := Lib.hid (vsm_fits' HV.out)
          obtain ⟨-, hh2, hh3⟩ := hk_facts HV.out
          have hbs := valid_bd HV.out
          by_cases hs : sumL M ≤ 12
          · have hgt : decide (12 < sumL M) = false := decide_eq_false (by omega)
            have HGO : Hid (gOF M = gF M) := Lib.hid (by unfold gOF gOk; rw [HV.out, decide_eq_true hs]; rfl)
            obtain ⟨n, hn⟩ := Int.eq_ofNat_of_zero_le hbs.1
            have hn12 : n ≤ 12 := by omega
            have he := hh3 hs
            rw [hn, Int.toNat_natCast] at he
            have hfb := (fact_bd n (by omega)).1
            obtain ⟨hw1, hw2⟩ := wrapI he ⟨by omega, by omega⟩
            have hPL : M.length ≤ 4611686018427387904 := by omega
            have hB2 := HPL.out
            have HN := Lib.hid hn
            have hle : w1.heap.size ≤ wr.heap.size := by omega
            clear hil he hfb hh2 hh3 hbs hs hn
            go_wp2_with fail
            refine (total_any _ _ _ _ _ hPr' HFM.out hPL).mono ?_
            rintro e wa ⟨rfl, rfl⟩
            go_wp2_with fail
            refine (iGrowthsOf_any _ _ _ M _ hPr' hle hPL).mono ?_
            rintro e wb ⟨rfl, hb3⟩
            rw [HGO.out]
            have hPb := hPr'.below (hb3.mono hle)
            go_wp2_with fail
            refine (total_any _ _ _ _ _ hPb HFM.out hPL).mono ?_
            rintro e wc ⟨rfl, rfl⟩
            rw [HN.out]
            go_wp2_with fail
            refine (product_any n hn12 _).mono ?_
            rintro e wd ⟨rfl, rfl⟩
            go_wp2_with fail
            go_ret
            exact ⟨rfl, hA.trans (hb3.mono (by omega))⟩
          · have hgt : decide (12 < sumL M) = true := decide_eq_true (by omega)
            clear hil hh2 hh3 hbs hs
            go_wp2_with fail
            refine (total_any _ _ _ _ _ hPr' HFM.out (by omega)).mono ?_
            rintro e wa ⟨rfl, rfl⟩
            go_wp2_with fail
            go_ret
            exact ⟨rfl, hA⟩
  · have hl' : 1048576 < bs.length := by omega
    go_enter Try.func9, Try.ntmps9
    go_wp2_with fail
    go_ret
    exact ⟨rfl, Below.refl _ _⟩

theorem own : ownKnob Try.prog.godebug = none := by kernel_rfl
theorem laidOut : laidOutB Try.prog = true := by kernel_rfl

set_option maxRecDepth 100000 in
theorem lifted (os : Os) (started : os.Started) (H : Type) (enc : TypeId × Value → H) :
    ReturnsInHanded {} Try.checked os 9 .any (Rows.fnHooksOfSpec.pre6 enc Try.prog Try.f9 Rows.fnHooksOfRow.domain false) (Rows.fnHooksOfSpec.post enc Try.prog Try.f9 false true false false) := by
  refine returnsInHanded_of_change (C := Try.checked) own started (by kernel_rfl) Try.func9
    (ChangeSpec.witness6 (enc := enc) (C := Try.checked) false ⟨#[], #[.slice none 0 0], []⟩ 8 (by kernel_rfl) (by kernel_rfl) (by kernel_rfl) (by kernel_rfl)) ?_
  intro W base args ds gs before hval0 hW hcnd _
  have hval : ∀ (j : Nat) t v, Try.f9.params[j]? = some t → args[j]? = some v → Value.okWide Try.prog W .any base t v := hval0
  have hW' := hW
  obtain ⟨p, q, hA0, hV, rfl, hfz, hnd⟩ := hW
  have hA : DataW.TrodAll enc Try.prog W 0 (fun _ => true) true Try.f9.params.toList args.toList ds p := hA0
  rw [Try.params9] at hA hval
  obtain ⟨v0, vs0, d0, ds0, p0, q0, hargs, rfl, rfl, h0, r0⟩ := trodAll_cons hA
  obtain ⟨rfl, rfl, rfl⟩ := trodAll_nil r0
  obtain rfl : args = #[v0] := by cases args; simp_all
  obtain ⟨rfl, rfl⟩ := trodVars_none hV
  obtain ⟨a0, len0, cap0, rfl⟩ := okWide_slice Try.underlying29 (hval 0 29 v0 rfl rfl)
  have k0 := h0
  have lt0 : ∀ x ∈ p0, x.block < W.heap.size := by obtain ⟨m, hm⟩ := k0; exact DataW.trod_lt m _ _ _ hm
  obtain ⟨z0, w0⟩ : ∃ zs, IsRow .u8 W a0 len0 cap0 zs := by
    obtain ⟨fuel, hf⟩ := h0
    rcases open_ints Try.underlying29 Try.underlying5 (by kernel_rfl) hf with ⟨hcs, _⟩ | ⟨x, l, c, zs, hcs, _, hl, hm, hz, _, hcell, hwz⟩
    · simp [Value.cells] at hcs
      obtain ⟨rfl, rfl, rfl⟩ := hcs
      exact ⟨[], .inl ⟨rfl, rfl, rfl, rfl⟩⟩
    · simp [Value.cells] at hcs
      obtain ⟨rfl, rfl, rfl⟩ := hcs
      exact ⟨zs, .inr ⟨_, rfl, hl, hm, by simpa using hz, hcell, hwz⟩⟩
  have lc0 := w0.lc
  obtain ⟨L0, rfl, R0, wf0, m0⟩ := w0.rd
  clear hA0 hval0
  refine (walk a0 cap0 L0 W R0 wf0 m0 (by simpa using lc0)).mono fun e W' ⟨he, bel⟩ => ?_
  subst he
  exact ⟨_, rfl, _, _, _, [], _, [], hW', trodAll_mk1 (shut_bool Try.underlying4 _), (trodAll_cons_mk (Below.trod laidOut (by kernel_rfl) (of_decide_eq_true (by kernel_rfl)) k0 bel lt0) trodAll_mk0), rfl, bel.frame _, fun h => by cases h⟩

theorem over : Rows.fnHooksOfRow.holds Try.pinned (OpenSpec.ofChange Rows.fnHooksOfSpec) :=
  OpenClaim.holds_of_wide 9 Try.f9 rfl rfl rfl rfl rfl rfl rfl ⟨rfl, rfl, rfl, rfl, rfl⟩ rfl rfl rfl rfl rfl (by kernel_rfl) Try.func9 (by kernel_rfl)
    (of_decide_eq_true (by kernel_rfl)) (by unfold Func.isWrapper; first | (rw [if_pos (by decide +kernel)]; kernel_rfl) | (rw [if_neg (by decide +kernel)]; exact ⟨rfl, rfl⟩))
    (fun os started H enc _ => lifted os started H enc)

/-- the given statement -/
theorem proved : Rows.FnHooksOfSaid := over
end Go.Proofs.Ythafbdpeignccaa.fnHooksOf
