/-
  'laws.FnOppositeIn' returns true for every code, and the code reads as it did. No condition.
-/
import Derived.Test.YtgbkaahmmpgjfaaRows
import Derived.Test.YtgbkaahmmpgjfaaW83
import Derived.Test.YtgbkaahmmpgjfaaD19
import Derived.Test.YtgbkaahmmpgjfaaL1
import Derived.WalkKit
import Derived.ProofKit
import Derived.OpenShut
import Derived.ShutString
import Derived.ChangeOld
import Derived.Below
namespace Go.Proofs.Ytgbkaahmmpgjfaa.fnOppositeIn
open Go.ChangeShapes Go.WideShapes Go.ChangeAt Go.RowKit NP
open Go.ChangeMaps (open_string shut_string)
set_option linter.unusedVariables false

set_option maxHeartbeats 1600000 in
theorem walk (pa : Option Addr) (c : Nat) (bs : List Int) (w0 : World) (h : Rd w0 w0.heap.size pa (bs.map (Value.int .u8))) (hb : ∀ n ∈ bs, (Lit.int .u8 n).wf = true) (m : bs.length ≤ maxLen) (hc : bs.length ≤ c) :
    Calls Try.prog 6 #[.slice pa bs.length c] w0 fun e w' => e = .returned (.bool true) ∧ Below w0.heap.size w0 w' := by
  unfold maxLen at m
  by_cases hl : bs.length ≤ 1048576
  · go_enter Try.func6, Try.ntmps6
    go_wp2_with fail
    refine (DrawOppositeIn_any pa c _ bs _ h (Nat.le_refl _) hb hl hc).mono ?_
    rintro e w1 ⟨a1, c1, P, a, b, rfl, p, hs1, hA⟩
    have hP := hs1.1
    clear h hb hl hc m hs1
    have hol := opbF_len P a b
    cases hI : inbF P a b with
    | false =>
      have HR := Lib.hid hI
      clear hI
      go_wp2_with fail
      refine (iOppositeIn_any _ _ _ P a b _ p.rd (by omega) (by omega)).mono ?_
      rintro e w2 ⟨a_o, c_o, rfl, ot, hb⟩
      rw [HR.out]
      replace p := p.below (hb.mono p.le)
      replace hA := hA.trans (hb.mono hA.size)
      have hz2 := hb.size
      clear hb
      go_wp2_with fail
      refine (sOppositeIn_any _ _ _ P a b _ p.rd (by omega) (by omega)).mono ?_
      rintro e w3 ⟨a_s, c_s, rfl, sp, hb⟩
      rw [HR.out]
      replace p := p.below (hb.mono p.le)
      replace ot := ot.below (hb.mono ot.le)
      replace hA := hA.trans (hb.mono hA.size)
      have hz3 := hb.size
      clear hb
      go_wp2_with fail
      refine (equalInts_same _ _ _ _ _ _ _ _ ot.rd sp.rd (by omega)).mono ?_
      rintro e w4 ⟨rfl, hd⟩
      have hb : Below w3.heap.size w3 w4 := Dr.below hd _
      clear hd
      replace p := p.below (hb.mono p.le)
      replace ot := ot.below (hb.mono ot.le)
      replace sp := sp.below (hb.mono sp.le)
      replace hA := hA.trans (hb.mono hA.size)
      have hz4 := hb.size
      clear hb
      go_wp2_with fail
      refine (equalInts_same _ _ _ _ _ _ _ _ ot.rd sp.rd (by omega)).mono ?_
      rintro e w5 ⟨rfl, hd⟩
      have hb : Below w4.heap.size w4 w5 := Dr.below hd _
      clear hd
      replace p := p.below (hb.mono p.le)
      replace hA := hA.trans (hb.mono hA.size)
      have hz5 := hb.size
      clear hb
      go_wp2_with fail
      go_ret
      exact ⟨rfl, hA⟩
    | true =>
      obtain ⟨hv, ha0, ha4, hb0, hb4⟩ := inb_lim hI
      obtain ⟨q, hq⟩ : ∃ q, q = a * b := ⟨_, rfl⟩
      have hm0 : 0 ≤ a * b := Int.mul_nonneg ha0 hb0
      have hm1 : a * b ≤ 4 * 4 := Int.mul_le_mul ha4 hb4 hb0 (by omega)
      obtain ⟨na, hna⟩ := Int.eq_ofNat_of_zero_le ha0
      obtain ⟨nb, hnb⟩ := Int.eq_ofNat_of_zero_le hb0
      have hI' := hI
      rw [hna, hnb] at hI'
      obtain ⟨-, f2, f3, f4⟩ := opp_facts hI'
      obtain ⟨O, hO⟩ : ∃ O, O = oppL P na nb := ⟨_, rfl⟩
      rw [← hO] at f2 f3 f4
      have HO : Hid (opbF P a b = O) := Lib.hid (by rw [hna, hnb, opbF_yes hI', hO])
      have hOl : O.length ≤ 4 := by rw [← HO.out]; exact hol
      have HOO : Hid (opbF O a b = P) := Lib.hid (by rw [hna, hnb, opbF_yes f2, f3])
      have HRO : Hid (inbF O a b = true) := Lib.hid (by rw [hna, hnb]; exact f2)
      rw [← hna, ← hnb, ← hq] at f4
      rw [← hq] at hm0 hm1
      have HFO := Lib.hid (valid_fits (inb_lim f2).1)
      have HFP := Lib.hid (valid_fits hv)
      obtain ⟨sO, hsO⟩ : ∃ s, s = sumL O := ⟨_, rfl⟩
      have HSO : Hid (sumL O = sO) := Lib.hid hsO.symm
      obtain ⟨sP, hsP⟩ : ∃ s, s = sumL P := ⟨_, rfl⟩
      have HSP : Hid (sumL P = sP) := Lib.hid hsP.symm
      rw [← hsO, ← hsP] at f4
      have e1 : wrap64 (a * b) = q := by rw [hq]; exact IntWalk.wrap64_in _ (by omega)
      have e2 : IntKind.i64.wrap (a * b) = q := by rw [hq]; exact IntWalk.i64_in _ (by omega)
      have e3 : IntKind.i64.wrap (sO + sP) = q := by rw [IntWalk.i64_in _ (by omega)]; exact f4
      have e4 : wrap64 (sO + sP) = q := by rw [IntWalk.wrap64_in _ (by omega)]; exact f4
      have e5 : (q == q) = true := by simp
      have HR := Lib.hid hI
      clear hI hI' hv ha0 ha4 hb0 hb4 hna hnb f2 f3 f4 hO hq hsO hsP hm0 hm1
      go_wp2_with fail
      refine (iOppositeIn_any _ _ _ P a b _ p.rd (by omega) (by omega)).mono ?_
      rintro e w2 ⟨a_o, c_o, rfl, ot, hb⟩
      rw [HR.out]
      replace p := p.below (hb.mono p.le)
      replace hA := hA.trans (hb.mono hA.size)
      have hz2 := hb.size
      clear hb
      go_wp2_with fail
      refine (sOppositeIn_any _ _ _ P a b _ p.rd (by omega) (by omega)).mono ?_
      rintro e w3 ⟨a_s, c_s, rfl, sp, hb⟩
      rw [HR.out]
      replace p := p.below (hb.mono p.le)
      replace ot := ot.below (hb.mono ot.le)
      replace hA := hA.trans (hb.mono hA.size)
      have hz3 := hb.size
      clear hb
      go_wp2_with fail
      refine (equalInts_same _ _ _ _ _ _ _ _ ot.rd sp.rd (by omega)).mono ?_
      rintro e w4 ⟨rfl, hd⟩
      have hb : Below w3.heap.size w3 w4 := Dr.below hd _
      clear hd
      replace p := p.below (hb.mono p.le)
      replace ot := ot.below (hb.mono ot.le)
      replace sp := sp.below (hb.mono sp.le)
      replace hA := hA.trans (hb.mono hA.size)
      have hz4 := hb.size
      clear hb
      rw [HO.out] at ot ⊢
      go_wp2_with fail
      refine (iOppositeIn_any _ _ _ O a b _ ot.rd (by omega) (by omega)).mono ?_
      rintro e w5 ⟨a_b, c_b, rfl, bk, hb⟩
      rw [HRO.out]
      replace p := p.below (hb.mono p.le)
      replace ot := ot.below (hb.mono ot.le)
      replace hA := hA.trans (hb.mono hA.size)
      have hz5 := hb.size
      clear hb
      rw [HOO.out] at bk ⊢
      go_wp2_with fail
      refine (equalInts_same _ _ _ _ _ _ _ _ bk.rd p.rd (by omega)).mono ?_
      rintro e w6 ⟨rfl, hd⟩
      have hb : Below w5.heap.size w5 w6 := Dr.below hd _
      clear hd
      replace p := p.below (hb.mono p.le)
      replace ot := ot.below (hb.mono ot.le)
      replace hA := hA.trans (hb.mono hA.size)
      have hz6 := hb.size
      clear hb
      go_wp2_with fail
      refine (total_any _ _ _ O _ ot.rd HFO.out (by omega)).mono ?_
      rintro e w7 ⟨rfl, rfl⟩
      rw [HSO.out]
      go_wp2_with fail
      refine (total_any _ _ _ P _ p.rd HFP.out (by omega)).mono ?_
      rintro e w8 ⟨rfl, rfl⟩
      rw [HSP.out]
      go_wp2_with fail
      go_ret
      exact ⟨rfl, hA⟩
  · have hl' : 1048576 < bs.length := by omega
    go_enter Try.func6, Try.ntmps6
    go_wp2_with fail
    go_ret
    exact ⟨rfl, Below.refl _ _⟩

theorem own : ownKnob Try.prog.godebug = none := by kernel_rfl
theorem laidOut : laidOutB Try.prog = true := by kernel_rfl

set_option maxRecDepth 100000 in
theorem lifted (os : Os) (started : os.Started) (H : Type) (enc : TypeId × Value → H) :
    ReturnsInHanded {} Try.checked os 6 .any (Rows.fnOppositeInSpec.pre6 enc Try.prog Try.f6 Rows.fnOppositeInRow.domain false) (Rows.fnOppositeInSpec.post enc Try.prog Try.f6 false true false false) := by
  refine returnsInHanded_of_change (C := Try.checked) own started (by kernel_rfl) Try.func6
    (ChangeSpec.witness6 (enc := enc) (C := Try.checked) false ⟨#[], #[.slice none 0 0], []⟩ 8 (by kernel_rfl) (by kernel_rfl) (by kernel_rfl) (by kernel_rfl)) ?_
  intro W base args ds gs before hval0 hW hcnd _
  have hval : ∀ (j : Nat) t v, Try.f6.params[j]? = some t → args[j]? = some v → Value.okWide Try.prog W .any base t v := hval0
  have hW' := hW
  obtain ⟨p, q, hA0, hV, rfl, hfz, hnd⟩ := hW
  have hA : DataW.TrodAll enc Try.prog W 0 (fun _ => true) true Try.f6.params.toList args.toList ds p := hA0
  rw [Try.params6] at hA hval
  obtain ⟨v0, vs0, d0, ds0, p0, q0, hargs, rfl, rfl, h0, r0⟩ := trodAll_cons hA
  obtain ⟨rfl, rfl, rfl⟩ := trodAll_nil r0
  obtain rfl : args = #[v0] := by cases args; simp_all
  obtain ⟨rfl, rfl⟩ := trodVars_none hV
  obtain ⟨a0, len0, cap0, rfl⟩ := okWide_slice Try.underlying26 (hval 0 26 v0 rfl rfl)
  have k0 := h0
  have lt0 : ∀ x ∈ p0, x.block < W.heap.size := by obtain ⟨m, hm⟩ := k0; exact DataW.trod_lt m _ _ _ hm
  obtain ⟨z0, w0⟩ : ∃ zs, IsRow .u8 W a0 len0 cap0 zs := by
    obtain ⟨fuel, hf⟩ := h0
    rcases open_ints Try.underlying26 Try.underlying5 (by kernel_rfl) hf with ⟨hcs, _⟩ | ⟨x, l, c, zs, hcs, _, hl, hm, hz, _, hcell, hwz⟩
    · simp [Value.cells] at hcs
      obtain ⟨rfl, rfl, rfl⟩ := hcs
      exact ⟨[], .inl ⟨rfl, rfl, rfl, rfl⟩⟩
    · simp [Value.cells] at hcs
      obtain ⟨rfl, rfl, rfl⟩ := hcs
      exact ⟨zs, .inr ⟨_, rfl, hl, hm, by simpa using hz, hcell, hwz⟩⟩
  have lc0 := w0.lc
  obtain ⟨L0, rfl, R0, wf0, m0⟩ := w0.rd
  clear hA0 hval0
  refine (walk a0 cap0 L0 W R0 wf0 m0 (by simpa using lc0)).mono fun e W' ⟨he, bel⟩ => ?_
  subst he
  exact ⟨_, rfl, _, _, _, [], _, [], hW', trodAll_mk1 (shut_bool Try.underlying4 _), (trodAll_cons_mk (Below.trod laidOut (by kernel_rfl) (of_decide_eq_true (by kernel_rfl)) k0 bel lt0) trodAll_mk0), rfl, bel.frame _, fun h => by cases h⟩

theorem over : Rows.fnOppositeInRow.holds Try.pinned (OpenSpec.ofChange Rows.fnOppositeInSpec) :=
  OpenClaim.holds_of_wide 6 Try.f6 rfl rfl rfl rfl rfl rfl rfl ⟨rfl, rfl, rfl, rfl, rfl⟩ rfl rfl rfl rfl rfl (by kernel_rfl) Try.func6 (by kernel_rfl)
    (of_decide_eq_true (by kernel_rfl)) (by unfold Func.isWrapper; first | (rw [if_pos (by decide +kernel)]; kernel_rfl) | (rw [if_neg (by decide +kernel)]; exact ⟨rfl, rfl⟩))
    (fun os started H enc _ => lifted os started H enc)

/-- the given statement -/
theorem proved : Rows.FnOppositeInSaid := over
end Go.Proofs.Ytgbkaahmmpgjfaa.fnOppositeIn
