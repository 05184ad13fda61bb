/-
  'laws.FnOrdersOf' returns true for every code, and the code reads as it did. No condition.
-/
import Derived.Test.YtgbkaahmmpgjfaaRows
import Derived.Test.YtgbkaahmmpgjfaaW78
import Derived.Test.YtgbkaahmmpgjfaaM37
import Derived.Test.YtgbkaahmmpgjfaaD17
import Derived.Test.YtgbkaahmmpgjfaaLL1
import Derived.Test.YtgbkaahmmpgjfaaL1
import Derived.WalkKit
import Derived.ProofKit
import Derived.OpenShut
import Derived.ShutString
import Derived.ChangeOld
import Derived.Below
namespace Go.Proofs.Ytgbkaahmmpgjfaa.fnOrdersOf
open Go.ChangeShapes Go.WideShapes Go.ChangeAt Go.RowKit NP
open Go.ChangeMaps (open_string shut_string)
set_option linter.unusedVariables false

set_option maxHeartbeats 1600000 in
theorem walk (a : Option Addr) (c : Nat) (bs : List Int) (w0 : World) (h : Rd w0 w0.heap.size a (bs.map (Value.int .u8))) (hb : ∀ n ∈ bs, (Lit.int .u8 n).wf = true) (m : bs.length ≤ maxLen) (hc : bs.length ≤ c) :
    Calls Try.prog 11 #[.slice a bs.length c] w0 fun e w' => e = .returned (.bool true) ∧ Below w0.heap.size w0 w' := by
  unfold maxLen at m
  by_cases hl : bs.length ≤ 1048576
  · go_enter Try.func11, Try.ntmps11
    go_wp2_with fail
    refine (DrawOrdersOf_any a c _ bs _ h (Nat.le_refl _) hb hl hc).mono ?_
    rintro e w1 ⟨a1, c1, P, rfl, p, hs1, hA⟩
    have hP := hs1.1
    clear h hb hl hc m hs1
    cases hv : valid P with
    | false =>
      have HF := Lib.hid (ordF_no hv)
      clear hv
      go_wp2_with fail
      refine (iOrdersOf_any _ _ _ P _ p.rd (by omega) (by omega)).mono ?_
      rintro e w2 ⟨rfl, hb⟩
      replace p := p.below (hb.mono p.le)
      replace hA := hA.trans (hb.mono hA.size)
      have hz2 := hb.size
      clear hb
      rw [HF.out]
      go_wp2_with fail
      refine (sOrdersOf_any _ _ _ P _ p.rd (by omega) (by omega)).mono ?_
      rintro e w3 ⟨rfl, hb⟩
      replace p := p.below (hb.mono p.le)
      replace hA := hA.trans (hb.mono hA.size)
      have hz3 := hb.size
      clear hb
      rw [HF.out]
      go_wp2_with fail
      refine (sOrdersOf_any _ _ _ P _ p.rd (by omega) (by omega)).mono ?_
      rintro e w4 ⟨rfl, hb⟩
      replace p := p.below (hb.mono p.le)
      replace hA := hA.trans (hb.mono hA.size)
      have hz4 := hb.size
      clear hb
      rw [HF.out]
      go_wp2_with fail
      go_ret
      exact ⟨rfl, hA⟩
    | true =>
      have HFIT := Lib.hid (valid_fits hv)
      have hv0 := Lib.hid hv
      have h1 := (ord_facts hv).2.2.2.2.2
      have hs0 := (valid_bd hv).1
      obtain ⟨s, hs⟩ : ∃ s, s = sumL P := ⟨_, rfl⟩
      rw [← hs] at hs0
      have HS : Hid (sumL P = s) := Lib.hid hs.symm
      obtain ⟨o, ho⟩ : ∃ o, o = ordP P := ⟨_, rfl⟩
      have HF : Hid (ordF P = (o : Int)) := Lib.hid (by rw [ho]; exact ordF_yes hv)
      have HO : Hid (ordP P = o) := Lib.hid ho.symm
      rw [← ho] at h1
      have g1 : decide ((o : Int) < 0) = false := decide_eq_false (by omega)
      have g0 : ((o : Int) != (o : Int)) = false := by simp
      clear hv hs ho
      go_wp2_with fail
      refine (iOrdersOf_any _ _ _ P _ p.rd (by omega) (by omega)).mono ?_
      rintro e w2 ⟨rfl, hb⟩
      replace p := p.below (hb.mono p.le)
      replace hA := hA.trans (hb.mono hA.size)
      have hz2 := hb.size
      clear hb
      rw [HF.out]
      go_wp2_with fail
      refine (sOrdersOf_any _ _ _ P _ p.rd (by omega) (by omega)).mono ?_
      rintro e w3 ⟨rfl, hb⟩
      replace p := p.below (hb.mono p.le)
      replace hA := hA.trans (hb.mono hA.size)
      have hz3 := hb.size
      clear hb
      rw [HF.out]
      go_wp2_with fail
      refine (total_any _ _ _ P _ p.rd HFIT.out (by omega)).mono ?_
      rintro e w4 ⟨rfl, rfl⟩
      rw [HS.out]
      by_cases hr2 : 8 < s
      · skip
        have g2 : decide (8 < s) = true := decide_eq_true hr2
        have g3 : decide (0 < (o : Int)) = true := decide_eq_true (by omega)
        have g3' : decide (0 < o) = true := decide_eq_true (by omega)
        clear hr2
        go_wp2_with fail
        go_ret
        exact ⟨rfl, hA⟩
      · skip
        have g2 : decide (8 < s) = false := decide_eq_false hr2
        obtain ⟨m, rfl⟩ := Int.eq_ofNat_of_zero_le hs0
        have g2' : decide (8 < m) = false := decide_eq_false (by omega)
        have hm12 : m ≤ 8 := by omega
        have HAF := Lib.hid (asF_yes hm12)
        have HCT := Lib.hid (ord_count hv0.out HS.out hm12)
        have hln := asF_few (m : Int)
        have hil := asF_short (m : Int)
        rw [HAF.out] at hln hil
        clear hr2
        go_wp2_with fail
        refine (total_any _ _ _ P _ p.rd HFIT.out (by omega)).mono ?_
        rintro e w5 ⟨rfl, rfl⟩
        rw [HS.out]
        go_wp2_with fail
        refine (iAllSums_any (m : Int) _).mono ?_
        rintro e w6 ⟨a_g, c_g, vg, rfl, ot, hb⟩
        replace p := p.below (hb.mono p.le)
        replace hA := hA.trans (hb.mono hA.size)
        have hz6 := hb.size
        clear hb
        rw [HAF.out] at ot ⊢
        go_wp2_with fail
        go_loopw [5, 7] (fun vn vi wr => ∃ k : Nat, k ≤ (allS m).length ∧ vi = .int .i64 k ∧ vn = .int .i64 (cntP P ((allS m).take k) : Nat) ∧ Below w6.heap.size w6 wr) (fun _ vi _ => 2000 - (intOf vi).toNat)
        case atStart => exact ⟨0, Nat.zero_le _, rfl, rfl, Below.refl _ _⟩
        case round =>
          obtain ⟨k, hk, rfl, rfl, hbr⟩ := hrel
          have hcb : cntP P ((allS m).take k) ≤ 1000 := Nat.le_trans (cntP_le _ _) (by rw [List.length_take]; omega)
          by_cases hlt : k < (allS m).length
          · have hnx := cntP_take (P := P) hlt
            have llr := ot.below (hbr.mono ot.le)
            have pr := p.below (hbr.mono p.le)
            have hzr := hbr.size
            have hle := ot.le
            obtain ⟨b2, o2, a2, c2, e2, hb2, hc, hx, _⟩ := (llr.rd).at_ hlt
            subst e2
            have hlt' : (k : Int) < ((allS m).length : Int) := by omega
            have hX16 : ((allS m)[k]).length ≤ 4611686018427387904 := hil _ (List.getElem_mem hlt)
            obtain ⟨X, hXX⟩ : ∃ X, X = (allS m)[k] := ⟨_, rfl⟩
            rw [← hXX] at hc hx hX16 hnx
            have hq16 := posF_len X
            obtain ⟨q, hq⟩ : ∃ q, q = cntP P ((allS m).take k) := ⟨_, rfl⟩
            rw [← hq] at hnx hcb ⊢
            clear hXX llr hq
            have hb2' : b2 < wr.heap.size := by omega
            go_wp2_with fail
            refine (iPartsOfSums_any _ _ _ X _ hx (by omega) hX16).mono ?_
            rintro e wr1 ⟨a_q, c_q, rfl, oq, hbb1⟩
            have pr1 := pr.below (hbb1.mono pr.le)
            have hzz1 := hbb1.size
            go_wp2_with fail
            refine (equalInts_any _ _ _ _ _ _ _ _ _ oq.rd pr1.rd (by omega) (by omega)).mono ?_
            rintro e wr2 ⟨rfl, hd⟩
            have hb9 := hbr.trans ((hbb1.trans (Dr.below hd _)).mono hbr.size)
            by_cases hc9 : posF X = P
            · rw [if_pos hc9] at hnx
              have hd9 : decide (posF X = P) = true := decide_eq_true hc9
              rw [hd9]
              clear hd9 hc9 hd oq
              go_wp2_with fail
              go_roundw
              case rel => exact ⟨k + 1, by omega, by go_num, by rw [hnx]; go_num, hb9⟩
              case measure => simp [intOf] <;> omega
            · rw [if_neg hc9] at hnx
              have hd9 : decide (posF X = P) = false := decide_eq_false hc9
              rw [hd9]
              clear hd9 hc9 hd oq
              go_wp2_with fail
              go_roundw
              case rel => exact ⟨k + 1, by omega, by go_num, by rw [hnx]; rfl, hb9⟩
              case measure => simp [intOf] <;> omega
          · obtain rfl : k = (allS m).length := by omega
            rw [List.take_length, ← HCT.out, HO.out]
            replace hA := hA.trans (hbr.mono hA.size)
            clear hbr
            go_wp2_with fail
            go_ret
            exact ⟨rfl, hA⟩
  · have hl' : 1048576 < bs.length := by omega
    go_enter Try.func11, Try.ntmps11
    go_wp2_with fail
    go_ret
    exact ⟨rfl, Below.refl _ _⟩

theorem own : ownKnob Try.prog.godebug = none := by kernel_rfl
theorem laidOut : laidOutB Try.prog = true := by kernel_rfl

set_option maxRecDepth 100000 in
theorem lifted (os : Os) (started : os.Started) (H : Type) (enc : TypeId × Value → H) :
    ReturnsInHanded {} Try.checked os 11 .any (Rows.fnOrdersOfSpec.pre6 enc Try.prog Try.f11 Rows.fnOrdersOfRow.domain false) (Rows.fnOrdersOfSpec.post enc Try.prog Try.f11 false true false false) := by
  refine returnsInHanded_of_change (C := Try.checked) own started (by kernel_rfl) Try.func11
    (ChangeSpec.witness6 (enc := enc) (C := Try.checked) false ⟨#[], #[.slice none 0 0], []⟩ 8 (by kernel_rfl) (by kernel_rfl) (by kernel_rfl) (by kernel_rfl)) ?_
  intro W base args ds gs before hval0 hW hcnd _
  have hval : ∀ (j : Nat) t v, Try.f11.params[j]? = some t → args[j]? = some v → Value.okWide Try.prog W .any base t v := hval0
  have hW' := hW
  obtain ⟨p, q, hA0, hV, rfl, hfz, hnd⟩ := hW
  have hA : DataW.TrodAll enc Try.prog W 0 (fun _ => true) true Try.f11.params.toList args.toList ds p := hA0
  rw [Try.params11] at hA hval
  obtain ⟨v0, vs0, d0, ds0, p0, q0, hargs, rfl, rfl, h0, r0⟩ := trodAll_cons hA
  obtain ⟨rfl, rfl, rfl⟩ := trodAll_nil r0
  obtain rfl : args = #[v0] := by cases args; simp_all
  obtain ⟨rfl, rfl⟩ := trodVars_none hV
  obtain ⟨a0, len0, cap0, rfl⟩ := okWide_slice Try.underlying26 (hval 0 26 v0 rfl rfl)
  have k0 := h0
  have lt0 : ∀ x ∈ p0, x.block < W.heap.size := by obtain ⟨m, hm⟩ := k0; exact DataW.trod_lt m _ _ _ hm
  obtain ⟨z0, w0⟩ : ∃ zs, IsRow .u8 W a0 len0 cap0 zs := by
    obtain ⟨fuel, hf⟩ := h0
    rcases open_ints Try.underlying26 Try.underlying5 (by kernel_rfl) hf with ⟨hcs, _⟩ | ⟨x, l, c, zs, hcs, _, hl, hm, hz, _, hcell, hwz⟩
    · simp [Value.cells] at hcs
      obtain ⟨rfl, rfl, rfl⟩ := hcs
      exact ⟨[], .inl ⟨rfl, rfl, rfl, rfl⟩⟩
    · simp [Value.cells] at hcs
      obtain ⟨rfl, rfl, rfl⟩ := hcs
      exact ⟨zs, .inr ⟨_, rfl, hl, hm, by simpa using hz, hcell, hwz⟩⟩
  have lc0 := w0.lc
  obtain ⟨L0, rfl, R0, wf0, m0⟩ := w0.rd
  clear hA0 hval0
  refine (walk a0 cap0 L0 W R0 wf0 m0 (by simpa using lc0)).mono fun e W' ⟨he, bel⟩ => ?_
  subst he
  exact ⟨_, rfl, _, _, _, [], _, [], hW', trodAll_mk1 (shut_bool Try.underlying4 _), (trodAll_cons_mk (Below.trod laidOut (by kernel_rfl) (of_decide_eq_true (by kernel_rfl)) k0 bel lt0) trodAll_mk0), rfl, bel.frame _, fun h => by cases h⟩

theorem over : Rows.fnOrdersOfRow.holds Try.pinned (OpenSpec.ofChange Rows.fnOrdersOfSpec) :=
  OpenClaim.holds_of_wide 11 Try.f11 rfl rfl rfl rfl rfl rfl rfl ⟨rfl, rfl, rfl, rfl, rfl⟩ rfl rfl rfl rfl rfl (by kernel_rfl) Try.func11 (by kernel_rfl)
    (of_decide_eq_true (by kernel_rfl)) (by unfold Func.isWrapper; first | (rw [if_pos (by decide +kernel)]; kernel_rfl) | (rw [if_neg (by decide +kernel)]; exact ⟨rfl, rfl⟩))
    (fun os started H enc _ => lifted os started H enc)

/-- the given statement -/
theorem proved : Rows.FnOrdersOfSaid := over
end Go.Proofs.Ytgbkaahmmpgjfaa.fnOrdersOf
