/-
  'laws.FnAddParts' returns true for every code, and the code reads as it did. No condition.
-/
import Derived.Test.YtldbjnnolebfbaaRows
import Derived.Test.YtldbjnnolebfbaaW14
import Derived.Test.YtldbjnnolebfbaaD5
import Derived.Test.YtldbjnnolebfbaaL1
import Derived.WalkKit
import Derived.ProofKit
import Derived.OpenShut
import Derived.ShutString
import Derived.ChangeOld
import Derived.Below
namespace Go.Proofs.Ytldbjnnolebfbaa.fnAddParts
open Go.ChangeShapes Go.WideShapes Go.ChangeAt Go.RowKit NP
open Go.ChangeMaps (open_string shut_string)
set_option linter.unusedVariables false

set_option maxHeartbeats 1600000 in
theorem walk (a : Option Addr) (c : Nat) (bs : List Int) (w0 : World) (h : Rd w0 w0.heap.size a (bs.map (Value.int .u8))) (hb : ∀ n ∈ bs, (Lit.int .u8 n).wf = true) (m : bs.length ≤ maxLen) (hc : bs.length ≤ c) :
    Calls Try.prog 6 #[.slice a bs.length c] w0 fun e w' => e = .returned (.bool true) ∧ Below w0.heap.size w0 w' := by
  unfold maxLen at m
  by_cases hl : bs.length ≤ 1048576
  · go_enter Try.func6, Try.ntmps6
    go_wp2_with fail
    refine (DrawAddParts_any a c _ bs _ h (Nat.le_refl _) hb hl hc).mono ?_
    rintro e w1 ⟨a1, c1, P, a2, c2, Q, rfl, p, q, hs1, hs2, hA⟩
    have hP := hs1.1
    have hQ := hs2.1
    clear h hb hl hc m hs1 hs2
    cases ht : two P Q with
    | true =>
      obtain ⟨hvp, hvq, _⟩ := two_out ht
      have HF : Hid (adpF P Q = adp P Q) := Lib.hid (adpF_yes ht)
      have HT := Lib.hid ht
      have HC : Hid (conjF (adp P Q) = uniF (conjF P) (conjF Q)) := Lib.hid (by rw [conjF_yes (valid_adp ht), conjF_yes hvp, conjF_yes hvq, uniF_yes (two_conj ht), conj_adp ht])
      have HTC : Hid (two (conjF P) (conjF Q) = true) := Lib.hid (by rw [conjF_yes hvp, conjF_yes hvq]; exact two_conj ht)
      have HTQ : Hid (two Q P = true) := Lib.hid (by rw [two_comm]; exact ht)
      have HFQ : Hid (adpF Q P = adp P Q) := Lib.hid (by rw [adpF_yes HTQ.out, adp_comm])
      have hal : (adp P Q).length ≤ 16 := (valid_bd (valid_adp ht)).2.2.2
      have hul := uniF_len (conjF P) (conjF Q)
      have hcp := conjF_len P
      have hcq := conjF_len Q
      clear ht hvp hvq
      go_wp2_with fail
      refine (iAddParts_any _ _ _ _ _ _ P Q _ p.rd q.rd (by omega) (by omega) (by omega) (by omega)).mono ?_
      rintro e w2 ⟨a_ot, c_ot, rfl, ot, hb⟩
      replace p := p.below (hb.mono p.le)
      replace q := q.below (hb.mono q.le)
      replace hA := hA.trans (hb.mono hA.size)
      have hz2 := hb.size
      clear hb
      rw [HF.out] at ot ⊢
      rw [HT.out]
      go_wp2_with fail
      refine (sAddParts_any _ _ _ _ _ _ P Q _ p.rd q.rd (by omega) (by omega) (by omega) (by omega)).mono ?_
      rintro e w3 ⟨a_sp, c_sp, rfl, sp, hb⟩
      replace p := p.below (hb.mono p.le)
      replace q := q.below (hb.mono q.le)
      replace ot := ot.below (hb.mono ot.le)
      replace hA := hA.trans (hb.mono hA.size)
      have hz3 := hb.size
      clear hb
      rw [HF.out] at sp ⊢
      rw [HT.out]
      go_wp2_with fail
      refine (equalInts_same _ _ _ _ _ _ _ _ ot.rd sp.rd (by omega)).mono ?_
      rintro e w4 ⟨rfl, hd⟩
      have hb : Below w3.heap.size w3 w4 := Dr.below hd _
      clear hd
      replace p := p.below (hb.mono p.le)
      replace q := q.below (hb.mono q.le)
      replace ot := ot.below (hb.mono ot.le)
      replace sp := sp.below (hb.mono sp.le)
      replace hA := hA.trans (hb.mono hA.size)
      have hz4 := hb.size
      clear hb
      go_wp2_with fail
      refine (iConjugateOf_any _ _ _ P _ p.rd (by omega) (by omega)).mono ?_
      rintro e w5 ⟨a_cp, c_cp, rfl, cp, hb⟩
      replace p := p.below (hb.mono p.le)
      replace q := q.below (hb.mono q.le)
      replace ot := ot.below (hb.mono ot.le)
      replace sp := sp.below (hb.mono sp.le)
      replace hA := hA.trans (hb.mono hA.size)
      have hz5 := hb.size
      clear hb
      go_wp2_with fail
      refine (iConjugateOf_any _ _ _ Q _ q.rd (by omega) (by omega)).mono ?_
      rintro e w6 ⟨a_cq, c_cq, rfl, cq, hb⟩
      replace p := p.below (hb.mono p.le)
      replace q := q.below (hb.mono q.le)
      replace ot := ot.below (hb.mono ot.le)
      replace sp := sp.below (hb.mono sp.le)
      replace cp := cp.below (hb.mono cp.le)
      replace hA := hA.trans (hb.mono hA.size)
      have hz6 := hb.size
      clear hb
      go_wp2_with fail
      refine (iUniteParts_any _ _ _ _ _ _ (conjF P) (conjF Q) _ cp.rd cq.rd (by omega) (by omega) (by omega) (by omega)).mono ?_
      rintro e w7 ⟨a_al, c_al, rfl, al, hb⟩
      replace p := p.below (hb.mono p.le)
      replace q := q.below (hb.mono q.le)
      replace ot := ot.below (hb.mono ot.le)
      replace sp := sp.below (hb.mono sp.le)
      replace cp := cp.below (hb.mono cp.le)
      replace cq := cq.below (hb.mono cq.le)
      replace hA := hA.trans (hb.mono hA.size)
      have hz7 := hb.size
      clear hb
      rw [HTC.out]
      go_wp2_with fail
      refine (iAddParts_any _ _ _ _ _ _ Q P _ q.rd p.rd (by omega) (by omega) (by omega) (by omega)).mono ?_
      rintro e w8 ⟨a_oo, c_oo, rfl, oo, hb⟩
      replace p := p.below (hb.mono p.le)
      replace q := q.below (hb.mono q.le)
      replace ot := ot.below (hb.mono ot.le)
      replace sp := sp.below (hb.mono sp.le)
      replace cp := cp.below (hb.mono cp.le)
      replace cq := cq.below (hb.mono cq.le)
      replace al := al.below (hb.mono al.le)
      replace hA := hA.trans (hb.mono hA.size)
      have hz8 := hb.size
      clear hb
      rw [HFQ.out] at oo ⊢
      rw [HTQ.out]
      go_wp2_with fail
      refine (iConjugateOf_any _ _ _ (adp P Q) _ ot.rd (by omega) (by omega)).mono ?_
      rintro e w9 ⟨a_cn, c_cn, rfl, cn, hb⟩
      replace p := p.below (hb.mono p.le)
      replace q := q.below (hb.mono q.le)
      replace ot := ot.below (hb.mono ot.le)
      replace sp := sp.below (hb.mono sp.le)
      replace cp := cp.below (hb.mono cp.le)
      replace cq := cq.below (hb.mono cq.le)
      replace al := al.below (hb.mono al.le)
      replace oo := oo.below (hb.mono oo.le)
      replace hA := hA.trans (hb.mono hA.size)
      have hz9 := hb.size
      clear hb
      rw [HC.out] at cn ⊢
      go_wp2_with fail
      refine (equalInts_same _ _ _ _ _ _ _ _ cn.rd al.rd (by omega)).mono ?_
      rintro e w10 ⟨rfl, hd⟩
      have hb : Below w9.heap.size w9 w10 := Dr.below hd _
      clear hd
      replace p := p.below (hb.mono p.le)
      replace q := q.below (hb.mono q.le)
      replace ot := ot.below (hb.mono ot.le)
      replace sp := sp.below (hb.mono sp.le)
      replace cp := cp.below (hb.mono cp.le)
      replace cq := cq.below (hb.mono cq.le)
      replace al := al.below (hb.mono al.le)
      replace oo := oo.below (hb.mono oo.le)
      replace cn := cn.below (hb.mono cn.le)
      replace hA := hA.trans (hb.mono hA.size)
      have hz10 := hb.size
      clear hb
      go_wp2_with fail
      refine (equalInts_same _ _ _ _ _ _ _ _ oo.rd ot.rd (by omega)).mono ?_
      rintro e w11 ⟨rfl, hd⟩
      have hb : Below w10.heap.size w10 w11 := Dr.below hd _
      clear hd
      replace p := p.below (hb.mono p.le)
      replace q := q.below (hb.mono q.le)
      replace ot := ot.below (hb.mono ot.le)
      replace sp := sp.below (hb.mono sp.le)
      replace cp := cp.below (hb.mono cp.le)
      replace cq := cq.below (hb.mono cq.le)
      replace al := al.below (hb.mono al.le)
      replace oo := oo.below (hb.mono oo.le)
      replace cn := cn.below (hb.mono cn.le)
      replace hA := hA.trans (hb.mono hA.size)
      have hz11 := hb.size
      clear hb
      go_wp2_with fail
      go_ret
      exact ⟨rfl, hA⟩
    | false =>
      have HF : Hid (adpF P Q = []) := Lib.hid (adpF_no ht)
      have HT := Lib.hid ht
      clear ht
      go_wp2_with fail
      refine (iAddParts_any _ _ _ _ _ _ P Q _ p.rd q.rd (by omega) (by omega) (by omega) (by omega)).mono ?_
      rintro e w2 ⟨a_ot, c_ot, rfl, ot, hb⟩
      replace p := p.below (hb.mono p.le)
      replace q := q.below (hb.mono q.le)
      replace hA := hA.trans (hb.mono hA.size)
      have hz2 := hb.size
      clear hb
      rw [HF.out] at ot ⊢
      rw [HT.out]
      go_wp2_with fail
      refine (sAddParts_any _ _ _ _ _ _ P Q _ p.rd q.rd (by omega) (by omega) (by omega) (by omega)).mono ?_
      rintro e w3 ⟨a_sp, c_sp, rfl, sp, hb⟩
      replace p := p.below (hb.mono p.le)
      replace q := q.below (hb.mono q.le)
      replace ot := ot.below (hb.mono ot.le)
      replace hA := hA.trans (hb.mono hA.size)
      have hz3 := hb.size
      clear hb
      rw [HF.out] at sp ⊢
      rw [HT.out]
      have hnl : ([] : List Int).length ≤ 4611686018427387904 := by simp
      go_wp2_with fail
      refine (equalInts_same _ _ _ _ _ _ _ _ ot.rd sp.rd hnl).mono ?_
      rintro e w4 ⟨rfl, hd⟩
      have hb : Below w3.heap.size w3 w4 := Dr.below hd _
      clear hd
      replace p := p.below (hb.mono p.le)
      replace q := q.below (hb.mono q.le)
      replace ot := ot.below (hb.mono ot.le)
      replace sp := sp.below (hb.mono sp.le)
      replace hA := hA.trans (hb.mono hA.size)
      have hz4 := hb.size
      clear hb
      go_wp2_with fail
      refine (equalInts_same _ _ _ _ _ _ _ _ ot.rd sp.rd hnl).mono ?_
      rintro e w5 ⟨rfl, hd⟩
      have hb : Below w4.heap.size w4 w5 := Dr.below hd _
      clear hd
      replace p := p.below (hb.mono p.le)
      replace q := q.below (hb.mono q.le)
      replace ot := ot.below (hb.mono ot.le)
      replace sp := sp.below (hb.mono sp.le)
      replace hA := hA.trans (hb.mono hA.size)
      have hz5 := hb.size
      clear hb
      go_wp2_with fail
      go_ret
      exact ⟨rfl, hA⟩
  · have hl' : 1048576 < bs.length := by omega
    go_enter Try.func6, Try.ntmps6
    go_wp2_with fail
    go_ret
    exact ⟨rfl, Below.refl _ _⟩

theorem own : ownKnob Try.prog.godebug = none := by kernel_rfl
theorem laidOut : laidOutB Try.prog = true := by kernel_rfl

set_option maxRecDepth 100000 in
theorem lifted (os : Os) (started : os.Started) (H : Type) (enc : TypeId × Value → H) :
    ReturnsInHanded {} Try.checked os 6 .any (Rows.fnAddPartsSpec.pre6 enc Try.prog Try.f6 Rows.fnAddPartsRow.domain false) (Rows.fnAddPartsSpec.post enc Try.prog Try.f6 false true false false) := by
  refine returnsInHanded_of_change (C := Try.checked) own started (by kernel_rfl) Try.func6
    (ChangeSpec.witness6 (enc := enc) (C := Try.checked) false ⟨#[], #[.slice none 0 0], []⟩ 8 (by kernel_rfl) (by kernel_rfl) (by kernel_rfl) (by kernel_rfl)) ?_
  intro W base args ds gs before hval0 hW hcnd _
  have hval : ∀ (j : Nat) t v, Try.f6.params[j]? = some t → args[j]? = some v → Value.okWide Try.prog W .any base t v := hval0
  have hW' := hW
  obtain ⟨p, q, hA0, hV, rfl, hfz, hnd⟩ := hW
  have hA : DataW.TrodAll enc Try.prog W 0 (fun _ => true) true Try.f6.params.toList args.toList ds p := hA0
  rw [Try.params6] at hA hval
  obtain ⟨v0, vs0, d0, ds0, p0, q0, hargs, rfl, rfl, h0, r0⟩ := trodAll_cons hA
  obtain ⟨rfl, rfl, rfl⟩ := trodAll_nil r0
  obtain rfl : args = #[v0] := by cases args; simp_all
  obtain ⟨rfl, rfl⟩ := trodVars_none hV
  obtain ⟨a0, len0, cap0, rfl⟩ := okWide_slice Try.underlying28 (hval 0 28 v0 rfl rfl)
  have k0 := h0
  have lt0 : ∀ x ∈ p0, x.block < W.heap.size := by obtain ⟨m, hm⟩ := k0; exact DataW.trod_lt m _ _ _ hm
  obtain ⟨z0, w0⟩ : ∃ zs, IsRow .u8 W a0 len0 cap0 zs := by
    obtain ⟨fuel, hf⟩ := h0
    rcases open_ints Try.underlying28 Try.underlying5 (by kernel_rfl) hf with ⟨hcs, _⟩ | ⟨x, l, c, zs, hcs, _, hl, hm, hz, _, hcell, hwz⟩
    · simp [Value.cells] at hcs
      obtain ⟨rfl, rfl, rfl⟩ := hcs
      exact ⟨[], .inl ⟨rfl, rfl, rfl, rfl⟩⟩
    · simp [Value.cells] at hcs
      obtain ⟨rfl, rfl, rfl⟩ := hcs
      exact ⟨zs, .inr ⟨_, rfl, hl, hm, by simpa using hz, hcell, hwz⟩⟩
  have lc0 := w0.lc
  obtain ⟨L0, rfl, R0, wf0, m0⟩ := w0.rd
  clear hA0 hval0
  refine (walk a0 cap0 L0 W R0 wf0 m0 (by simpa using lc0)).mono fun e W' ⟨he, bel⟩ => ?_
  subst he
  exact ⟨_, rfl, _, _, _, [], _, [], hW', trodAll_mk1 (shut_bool Try.underlying4 _), (trodAll_cons_mk (Below.trod laidOut (by kernel_rfl) (of_decide_eq_true (by kernel_rfl)) k0 bel lt0) trodAll_mk0), rfl, bel.frame _, fun h => by cases h⟩

theorem over : Rows.fnAddPartsRow.holds Try.pinned (OpenSpec.ofChange Rows.fnAddPartsSpec) :=
  OpenClaim.holds_of_wide 6 Try.f6 rfl rfl rfl rfl rfl rfl rfl ⟨rfl, rfl, rfl, rfl, rfl⟩ rfl rfl rfl rfl rfl (by kernel_rfl) Try.func6 (by kernel_rfl)
    (of_decide_eq_true (by kernel_rfl)) (by unfold Func.isWrapper; first | (rw [if_pos (by decide +kernel)]; kernel_rfl) | (rw [if_neg (by decide +kernel)]; exact ⟨rfl, rfl⟩))
    (fun os started H enc _ => lifted os started H enc)

/-- the given statement -/
theorem proved : Rows.FnAddPartsSaid := over
end Go.Proofs.Ytldbjnnolebfbaa.fnAddParts
