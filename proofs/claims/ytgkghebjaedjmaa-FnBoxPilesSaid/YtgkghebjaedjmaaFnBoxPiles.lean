/-
  'laws.FnBoxPiles' returns true for every code, and the code reads as it did. No condition.
-/
import Derived.Test.YtgkghebjaedjmaaRows
import Derived.Test.YtgkghebjaedjmaaZC1
import Derived.Test.YtgkghebjaedjmaaZC2
import Derived.Test.YtgkghebjaedjmaaZC3
import Derived.Test.YtgkghebjaedjmaaZC4
import Derived.Test.YtgkghebjaedjmaaZC5
import Derived.Test.YtgkghebjaedjmaaZC6
import Derived.Test.YtgkghebjaedjmaaZC7
import Derived.Test.YtgkghebjaedjmaaZC8
import Derived.Test.YtgkghebjaedjmaaZC9
import Derived.Test.YtgkghebjaedjmaaZE1
import Derived.Test.YtgkghebjaedjmaaZE2
import Derived.Test.YtgkghebjaedjmaaZE3
import Derived.WalkKit
import Derived.ProofKit
import Derived.OpenShut
import Derived.ShutString
import Derived.ChangeOld
import Derived.Below
namespace Go.Proofs.Ytgkghebjaedjmaa.fnBoxPiles
open Go.ChangeShapes Go.WideShapes Go.ChangeAt Go.RowKit NP
open Go.ChangeMaps (open_string shut_string)
set_option linter.unusedVariables false

set_option linter.unusedSimpArgs false
set_option maxRecDepth 100000 in
set_option maxHeartbeats 4000000 in
theorem walk (a : Option Addr) (c : Nat) (bs : List Int) (w0 : World) (h : Rd w0 w0.heap.size a (bs.map (Value.int .u8))) (hb : ∀ n ∈ bs, (Lit.int .u8 n).wf = true) (m : bs.length ≤ maxLen) (hc : bs.length ≤ c) :
    Calls Try.prog 7 #[.slice a bs.length c] w0 fun e w' => e = .returned (.bool true) ∧ Below w0.heap.size w0 w' := by
  unfold maxLen at m
  by_cases hl : bs.length ≤ 1048576
  · go_enter Try.func7, Try.ntmps7
    go_wp2_with fail
    refine (DrawBoxPiles_any a c _ bs _ h (Nat.le_refl _) hb hl hc).mono ?_
    rintro e w1 ⟨x, y, z, rfl, hA⟩
    clear h hb hl hc m
    cases hlim : limC x y z with
    | false =>
      have HBI := Lib.hid (fun w => iBoxPiles_any x y z w)
      have HBS := Lib.hid (fun w => sBoxPiles_any x y z w)
      rw [bpF_out hlim] at HBI HBS
      clear hlim
      go_wp2_with fail
      refine (HBI.out _).mono ?_
      rintro e w2 ⟨rfl, hb⟩
      replace hA := hA.trans (hb.mono hA.size)
      clear hb
      go_wp2_with fail
      refine (HBS.out _).mono ?_
      rintro e w' ⟨rfl, rfl⟩
      go_wp2_with fail
      refine (HBS.out _).mono ?_
      rintro e w' ⟨rfl, rfl⟩
      go_wp2_with fail
      go_ret
      exact ⟨rfl, hA⟩
    | true =>
      obtain ⟨⟨hx0, hx4⟩, ⟨hy0, hy4⟩, hz0, hz4⟩ := limC_iff.1 hlim
      clear hlim
      obtain ⟨a, rfl⟩ := Int.eq_ofNat_of_zero_le hx0
      obtain ⟨b, rfl⟩ := Int.eq_ofNat_of_zero_le hy0
      obtain ⟨c, rfl⟩ := Int.eq_ofNat_of_zero_le hz0
      have ha : a ≤ 4 := by omega
      have hb4 : b ≤ 4 := by omega
      have hc : c ≤ 4 := by omega
      clear hx0 hx4 hy0 hy4 hz0 hz4
      obtain ⟨v0, e1, e2, e3, e4, e5⟩ := bx_at ha hb4 hc
      have HBI := Lib.hid (fun w => iBoxPiles_any (a : Int) (b : Int) (c : Int) w)
      have HBS := Lib.hid (fun w => sBoxPiles_any (a : Int) (b : Int) (c : Int) w)
      have HB2 := Lib.hid (fun w => iBoxPiles_any (b : Int) (a : Int) (c : Int) w)
      have HB3 := Lib.hid (fun w => iBoxPiles_any (a : Int) (c : Int) (b : Int) w)
      have HB4 := Lib.hid (fun w => iBoxPiles_any (a : Int) (b : Int) 1 w)
      have HCH := Lib.hid (fun w => choose_ab a b ha hb4 w)
      rw [e1] at HB2
      rw [e2] at HB3
      rw [e3] at HB4
      clear e1 e2 e3
      generalize bpF (a : Int) (b : Int) (c : Int) = v at *
      generalize chS (a + b) a = u at *
      have E4 := Lib.hid e4
      have E5 := Lib.hid e5
      clear e4 e5
      have hvv : (v != v) = false := by simp
      have huu : (u != u) = false := by simp
      have dv : decide (v < 0) = false := decide_eq_false (by omega)
      obtain ⟨p, hp⟩ : ∃ p, p = a * b := ⟨_, rfl⟩
      obtain ⟨q, hq⟩ : ∃ q, q = p * c := ⟨_, rfl⟩
      have hp16 : p ≤ 16 := by rw [hp]; exact Nat.mul_le_mul ha hb4
      have hq64 : q ≤ 64 := by rw [hq]; exact Nat.mul_le_mul hp16 hc
      have hpi : (a : Int) * (b : Int) = (p : Int) := by rw [hp]; simp
      have hqi : (p : Int) * (c : Int) = (q : Int) := by rw [hq]; simp
      have hw1 : IntKind.i64.wrap ((a : Int) * (b : Int)) = (p : Int) := by rw [hpi]; exact IntWalk.i64_in _ (by omega)
      have hw2 : wrap64 ((a : Int) * (b : Int)) = (p : Int) := by rw [hpi]; exact IntWalk.wrap64_in _ (by omega)
      have hw3 : IntKind.i64.wrap ((p : Int) * (c : Int)) = (q : Int) := by rw [hqi]; exact IntWalk.i64_in _ (by omega)
      have hw4 : wrap64 ((p : Int) * (c : Int)) = (q : Int) := by rw [hqi]; exact IntWalk.wrap64_in _ (by omega)
      have HQE : Hid (a * b * c = q) := Lib.hid (by rw [hq, hp])
      rw [HQE.out] at E4 E5
      have HW1 := Lib.hid hw1
      have HW2 := Lib.hid hw2
      have HW3 := Lib.hid hw3
      have HW4 := Lib.hid hw4
      clear hp hq hpi hqi HQE hw1 hw2 hw3 hw4
      go_wp2_with fail
      refine (HBI.out _).mono ?_
      rintro e w2 ⟨rfl, hb⟩
      replace hA := hA.trans (hb.mono hA.size)
      clear hb
      go_wp2_with fail
      refine (HBS.out _).mono ?_
      rintro e w' ⟨rfl, rfl⟩
      go_wp2_with fail
      refine (HB2.out _).mono ?_
      rintro e w3 ⟨rfl, hb⟩
      replace hA := hA.trans (hb.mono hA.size)
      clear hb
      go_wp2_with fail
      refine (HB3.out _).mono ?_
      rintro e w4 ⟨rfl, hb⟩
      replace hA := hA.trans (hb.mono hA.size)
      clear hb
      go_wp2_with fail
      refine (HB4.out _).mono ?_
      rintro e w5 ⟨rfl, hb⟩
      replace hA := hA.trans (hb.mono hA.size)
      clear hb
      go_wp2_with fail
      refine (HCH.out _).mono ?_
      rintro e w' ⟨rfl, rfl⟩
      clear HBI HBS HB2 HB3 HB4 HCH
      by_cases hq6 : 6 < q
      · have d6 : decide ((6 : Int) < (q : Int)) = true := decide_eq_true (by omega)
        have d6' : decide (6 < q) = true := decide_eq_true hq6
        have d1 : decide (1 < v) = true := decide_eq_true (E5.out hq6)
        clear hq6
        have hw1 := HW1.out
        have hw2 := HW2.out
        have hw3 := HW3.out
        have hw4 := HW4.out
        go_wp2_with fail
        go_ret
        exact ⟨rfl, hA⟩
      · have d6 : decide ((6 : Int) < (q : Int)) = false := decide_eq_false (by omega)
        have d6' : decide (6 < q) = false := decide_eq_false hq6
        have HV := Lib.hid (E4.out (by omega))
        have HPP : Hid (∀ LL, inP a b c LL = inP a b c LL) := Lib.hid (fun _ => rfl)
        obtain ⟨P, hP⟩ : ∃ P, P = inP a b c := ⟨_, rfl⟩
        rw [← hP] at HV
        have HP := Lib.hid hP
        clear hP HPP E4 E5
        have hq6' : q ≤ 6 := by omega
        clear hq6
        have hw1 := HW1.out
        have hw2 := HW2.out
        have hw3 := HW3.out
        have hw4 := HW4.out
        go_wp2_with fail
        clear hw1 hw2 hw3 hw4
        go_loopw [7, 8] (fun vc vn wr => ∃ k : Nat, k ≤ q + 1 ∧ vn = .int .i64 (k : Int) ∧ vc = .int .i64 (cBS P k : Int) ∧ Below w5.heap.size w5 wr) (fun _ vn _ => q + 1 - (intOf vn).toNat)
        case atStart => exact ⟨0, Nat.zero_le _, rfl, rfl, Below.refl _ _⟩
        case round =>
          obtain ⟨k, hk, rfl, rfl, hbr⟩ := hrel
          by_cases hlt : k ≤ q
          · have dk : decide ((k : Int) ≤ (q : Int)) = true := decide_eq_true (by omega)
            have dk' : decide (k ≤ q) = true := decide_eq_true hlt
            have hk6 : k ≤ 6 := by omega
            have hS := cBS_le P (k := k) (by omega)
            have hbd := pilF_bd (k : Int)
            rw [pilF_yes hk6] at hbd
            have HC := Lib.hid (fun w => iAllPiles_any (k : Int) w)
            rw [pilF_yes hk6] at HC
            have HNE := Lib.hid (pil_ne hk6)
            have HSN : Hid (cBS P (k + 1) = cBS P k + ((pq k [] k).filter P).length) := Lib.hid rfl
            generalize pq k [] k = X at hbd HC HNE HSN
            generalize cBS P k = S at *
            have hxl := hbd.1
            have HXB := Lib.hid hbd.2
            clear hbd
            have hw1 := HW1.out
            have hw2 := HW2.out
            have hw3 := HW3.out
            have hw4 := HW4.out
            go_wp2_with fail
            clear hw1 hw2 hw3 hw4
            refine (HC.out _).mono ?_
            rintro e wa ⟨a_g, c_g, ug, ig, rfl, ot, hb⟩
            have hba := hbr.trans (hb.mono hbr.size)
            clear hb HC
            go_wp2_with fail
            go_loopw [7, 10] (fun vc vi wi => ∃ i : Nat, i ≤ X.length ∧ vi = .int .i64 (i : Int) ∧ vc = .int .i64 ((S + ((X.take i).filter P).length : Nat) : Int) ∧ Below wa.heap.size wa wi) (fun _ vi _ => X.length - (intOf vi).toNat)
            case atStart => exact ⟨0, Nat.zero_le _, rfl, by simp, Below.refl _ _⟩
            case round =>
              obtain ⟨i, hi, rfl, rfl, hbi⟩ := hrel
              by_cases hli : i < X.length
              · have hli' : (i : Int) < (X.length : Int) := by omega
                have HFT := Lib.hid (flt_snoc P X i hli)
                have hfl := flt_le P (X.take i)
                rw [List.length_take] at hfl
                obtain ⟨g, c1, a1, k1, vs1, iv, eg, -, -, -, -, -, -, hh1, -, hL1, hc1⟩ := (ot.below ep_keep (hbi.mono ot.le)).pileAt hli
                injection eg with eg e2 e3
                subst eg
                clear e2 e3
                obtain ⟨hx1, -, hx2⟩ := HXB.out _ (List.getElem_mem hli)
                have hne := HNE.out _ (List.getElem_mem hli)
                generalize X[i] = LL at hL1 hc1 HFT hx1 hx2 hne
                generalize ((X.take i).filter P).length = F at hfl HFT ⊢
                by_cases h0 : LL.length = 0
                · have d0 : (((LL.length : Nat) : Int) == 0) = true := by simp [h0]
                  have HR := Lib.hid (inP_empty (a := a) (b := b) (c := c) h0)
                  have d0' : (LL.length == 0) = true := by simp [h0]
                  clear hL1 h0 hne hx2
                  go_wp2_with fail
                  go_roundw
                  case rel => exact ⟨i + 1, by omega, by go_num, by rw [HFT.out, HP.out, HR.out]; simp only [if_true]; congr 1 <;> push_cast <;> omega, hbi⟩
                  case measure => simp [intOf]; omega
                · have hpos : 0 < LL.length := by omega
                  have hpos' : (0 : Int) < (LL.length : Int) := by omega
                  have d0 : (((LL.length : Nat) : Int) == 0) = false := by simp; intro e; exact h0 (by rw [e]; rfl)
                  by_cases h1 : LL.length ≤ a
                  · have d1 : decide ((LL.length : Int) ≤ (a : Int)) = true := decide_eq_true (by omega)
                    have d1' : decide (LL.length ≤ a) = true := decide_eq_true h1
                    obtain ⟨b2, a2, k2, rfl, hbl, hbh, hc2, hoM, -⟩ := hL1.at_ hpos
                    have hgd : LL.getD 0 [] = LL[0] := by simp [List.getD_eq_getElem?_getD, hpos]
                    have hxM := hx2 _ (List.getElem_mem hpos)
                    rw [hgd] at hne
                    obtain ⟨M, hM⟩ : ∃ M, M = LL[0] := ⟨_, rfl⟩
                    rw [← hM] at hc2 hoM hgd hxM hne
                    have hpM : 0 < M.length := by omega
                    have hpM' : (0 : Int) < (M.length : Int) := by omega
                    obtain ⟨b3, o3, rfl, hb3, hc3⟩ := Rd.at_ hoM.rd hpM
                    have hg0 : M.getD 0 0 = M[0] := by simp [List.getD_eq_getElem?_getD, hpM]
                    have HGD := Lib.hid hgd
                    obtain ⟨m, hm⟩ : ∃ m, m = M[0] := ⟨_, rfl⟩
                    rw [← hm] at hc3 hg0
                    have HG0 := Lib.hid hg0
                    have H0 := Lib.hid h0
                    clear hM hm hgd hg0 hoM hne hL1 hx2 h0
                    rw [Nat.add_zero] at hc3
                    by_cases h2 : M.length ≤ b
                    · have d2 : decide ((M.length : Int) ≤ (b : Int)) = true := decide_eq_true (by omega)
                      have d2' : decide (M.length ≤ b) = true := decide_eq_true h2
                      by_cases h3 : m ≤ (c : Int)
                      · have d3 : decide (m ≤ (c : Int)) = true := decide_eq_true h3
                        have HR := Lib.hid (inP_yes (a := a) (b := b) (c := c) HGD.out h1 h2 (by rw [HG0.out]; exact h3))
                        clear h1 h2 h3
                        go_wp2_with fail
                        go_roundw
                        case rel => exact ⟨i + 1, by omega, by go_num, by rw [HFT.out, HP.out, HR.out]; simp only [if_true]; congr 1 <;> push_cast <;> omega, hbi⟩
                        case measure => simp [intOf]; omega
                      · have d3 : decide (m ≤ (c : Int)) = false := decide_eq_false h3
                        have HR := Lib.hid (inP_deep (a := a) (b := b) (c := c) H0.out HGD.out (by rw [HG0.out]; exact h3))
                        clear h1 h2 h3
                        go_wp2_with fail
                        go_roundw
                        case rel => exact ⟨i + 1, by omega, by go_num, by rw [HFT.out, HP.out, HR.out]; simp, hbi⟩
                        case measure => simp [intOf]; omega
                    · have d2 : decide ((M.length : Int) ≤ (b : Int)) = false := decide_eq_false (by omega)
                      have d2' : decide (M.length ≤ b) = false := decide_eq_false h2
                      have HR := Lib.hid (inP_wide (a := a) (b := b) (c := c) H0.out HGD.out h2)
                      clear h1 h2
                      go_wp2_with fail
                      go_roundw
                      case rel => exact ⟨i + 1, by omega, by go_num, by rw [HFT.out, HP.out, HR.out]; simp, hbi⟩
                      case measure => simp [intOf]; omega
                  · have d1 : decide ((LL.length : Int) ≤ (a : Int)) = false := decide_eq_false (by omega)
                    have d1' : decide (LL.length ≤ a) = false := decide_eq_false h1
                    have HR := Lib.hid (inP_tall (a := a) (b := b) (c := c) h0 h1)
                    clear hL1 h0 h1 hne hx2
                    go_wp2_with fail
                    go_roundw
                    case rel => exact ⟨i + 1, by omega, by go_num, by rw [HFT.out, HP.out, HR.out]; simp, hbi⟩
                    case measure => simp [intOf]; omega
              · obtain rfl : i = X.length := by omega
                rw [List.take_length, ← HSN.out]
                have hS2 := cBS_le P (k := k + 1) (by omega)
                go_wp2_with fail
                go_roundw
                case rel => exact ⟨k + 1, by omega, by go_num, rfl, hba.trans (hbi.mono hba.size)⟩
                case measure => simp [intOf]; omega
          · obtain rfl : k = q + 1 := by omega
            have dk : decide (((q + 1 : Nat) : Int) ≤ (q : Int)) = false := decide_eq_false (by omega)
            rw [HV.out]
            have hfin : (v == v) = true := by simp
            replace hA := hA.trans (hbr.mono hA.size)
            clear hbr
            have hw1 := HW1.out
            have hw2 := HW2.out
            have hw3 := HW3.out
            have hw4 := HW4.out
            go_wp2_with fail
            go_ret
            exact ⟨rfl, hA⟩
  · have hl' : 1048576 < bs.length := by omega
    go_enter Try.func7, Try.ntmps7
    go_wp2_with fail
    go_ret
    exact ⟨rfl, Below.refl _ _⟩

theorem own : ownKnob Try.prog.godebug = none := by kernel_rfl
theorem laidOut : laidOutB Try.prog = true := by kernel_rfl

set_option maxRecDepth 100000 in
theorem lifted (os : Os) (started : os.Started) (H : Type) (enc : TypeId × Value → H) :
    ReturnsInHanded {} Try.checked os 7 .any (Rows.fnBoxPilesSpec.pre6 enc Try.prog Try.f7 Rows.fnBoxPilesRow.domain false) (Rows.fnBoxPilesSpec.post enc Try.prog Try.f7 false true false false) := by
  refine returnsInHanded_of_change (C := Try.checked) own started (by kernel_rfl) Try.func7
    (ChangeSpec.witness6 (enc := enc) (C := Try.checked) false ⟨#[], #[.slice none 0 0], []⟩ 8 (by kernel_rfl) (by kernel_rfl) (by kernel_rfl) (by kernel_rfl)) ?_
  intro W base args ds gs before hval0 hW hcnd _
  have hval : ∀ (j : Nat) t v, Try.f7.params[j]? = some t → args[j]? = some v → Value.okWide Try.prog W .any base t v := hval0
  have hW' := hW
  obtain ⟨p, q, hA0, hV, rfl, hfz, hnd⟩ := hW
  have hA : DataW.TrodAll enc Try.prog W 0 (fun _ => true) true Try.f7.params.toList args.toList ds p := hA0
  rw [Try.params7] at hA hval
  obtain ⟨v0, vs0, d0, ds0, p0, q0, hargs, rfl, rfl, h0, r0⟩ := trodAll_cons hA
  obtain ⟨rfl, rfl, rfl⟩ := trodAll_nil r0
  obtain rfl : args = #[v0] := by cases args; simp_all
  obtain ⟨rfl, rfl⟩ := trodVars_none hV
  obtain ⟨a0, len0, cap0, rfl⟩ := okWide_slice Try.underlying27 (hval 0 27 v0 rfl rfl)
  have k0 := h0
  have lt0 : ∀ x ∈ p0, x.block < W.heap.size := by obtain ⟨m, hm⟩ := k0; exact DataW.trod_lt m _ _ _ hm
  obtain ⟨z0, w0⟩ : ∃ zs, IsRow .u8 W a0 len0 cap0 zs := by
    obtain ⟨fuel, hf⟩ := h0
    rcases open_ints Try.underlying27 Try.underlying5 (by kernel_rfl) hf with ⟨hcs, _⟩ | ⟨x, l, c, zs, hcs, _, hl, hm, hz, _, hcell, hwz⟩
    · simp [Value.cells] at hcs
      obtain ⟨rfl, rfl, rfl⟩ := hcs
      exact ⟨[], .inl ⟨rfl, rfl, rfl, rfl⟩⟩
    · simp [Value.cells] at hcs
      obtain ⟨rfl, rfl, rfl⟩ := hcs
      exact ⟨zs, .inr ⟨_, rfl, hl, hm, by simpa using hz, hcell, hwz⟩⟩
  have lc0 := w0.lc
  obtain ⟨L0, rfl, R0, wf0, m0⟩ := w0.rd
  clear hA0 hval0
  refine (walk a0 cap0 L0 W R0 wf0 m0 (by simpa using lc0)).mono fun e W' ⟨he, bel⟩ => ?_
  subst he
  exact ⟨_, rfl, _, _, _, [], _, [], hW', trodAll_mk1 (shut_bool Try.underlying4 _), (trodAll_cons_mk (Below.trod laidOut (by kernel_rfl) (of_decide_eq_true (by kernel_rfl)) k0 bel lt0) trodAll_mk0), rfl, bel.frame _, fun h => by cases h⟩

theorem over : Rows.fnBoxPilesRow.holds Try.pinned (OpenSpec.ofChange Rows.fnBoxPilesSpec) :=
  OpenClaim.holds_of_wide 7 Try.f7 rfl rfl rfl rfl rfl rfl rfl ⟨rfl, rfl, rfl, rfl, rfl⟩ rfl rfl rfl rfl rfl (by kernel_rfl) Try.func7 (by kernel_rfl)
    (of_decide_eq_true (by kernel_rfl)) (by unfold Func.isWrapper; first | (rw [if_pos (by decide +kernel)]; kernel_rfl) | (rw [if_neg (by decide +kernel)]; exact ⟨rfl, rfl⟩))
    (fun os started H enc _ => lifted os started H enc)

/-- the given statement -/
theorem proved : Rows.FnBoxPilesSaid := over
end Go.Proofs.Ytgkghebjaedjmaa.fnBoxPiles
