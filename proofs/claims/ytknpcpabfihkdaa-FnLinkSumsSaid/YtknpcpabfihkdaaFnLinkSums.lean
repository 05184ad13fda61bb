/-
  'laws.FnLinkSums' returns true for every code, and the code reads as it did. No condition.
-/
import Derived.Test.YtknpcpabfihkdaaRows
import Derived.Test.YtknpcpabfihkdaaW67
import Derived.Test.YtknpcpabfihkdaaW70
import Derived.Test.YtknpcpabfihkdaaD15
import Derived.Test.YtknpcpabfihkdaaL1
import Derived.WalkKit
import Derived.ProofKit
import Derived.OpenShut
import Derived.ShutString
import Derived.ChangeOld
import Derived.Below
namespace Go.Proofs.Ytknpcpabfihkdaa.fnLinkSums
open Go.ChangeShapes Go.WideShapes Go.ChangeAt Go.RowKit NP
open Go.ChangeMaps (open_string shut_string)
set_option linter.unusedVariables false

set_option maxHeartbeats 1600000 in
theorem walk (a : Option Addr) (c : Nat) (bs : List Int) (w0 : World) (h : Rd w0 w0.heap.size a (bs.map (Value.int .u8))) (hb : ∀ n ∈ bs, (Lit.int .u8 n).wf = true) (m : bs.length ≤ maxLen) (hc : bs.length ≤ c) :
    Calls Try.prog 16 #[.slice a bs.length c] w0 fun e w' => e = .returned (.bool true) ∧ Below w0.heap.size w0 w' := by
  unfold maxLen at m
  by_cases hl : bs.length ≤ 1048576
  · go_enter Try.func16, Try.ntmps16
    go_wp2_with fail
    refine (DrawLinkSums_any a c _ bs _ h (Nat.le_refl _) hb hl hc).mono ?_
    rintro e w1 ⟨a1, c1, P, a2, c2, Q, near, rfl, p, q, hs1, hs2, hA⟩
    have hP := hs1.1
    have hQ := hs2.1
    clear hs1 hs2
    clear h hb hl hc m
    cases ht : lnkOk P Q with
    | true =>
      obtain ⟨hvp, hvq, hs⟩ := lnkOk_iff.1 ht
      have bp := vsm_bd hvp
      have bq := vsm_bd hvq
      have HT := Lib.hid ht
      have HFIT := Lib.hid (vsm_sumFits hvp)
      have HFITQ := Lib.hid (vsm_sumFits hvq)
      have HFITL := Lib.hid (vsm_sumFits (lnk_ok ht near))
      have HF : Hid (lnkF P Q near = lnk P Q near) := Lib.hid (lnkF_yes ht near)
      have HOP : Hid (oppF P = opp P) := Lib.hid (oppF_yes hvp)
      have HOQ : Hid (oppF Q = opp Q) := Lib.hid (oppF_yes hvq)
      have HT2 := Lib.hid (lnkOk_opp ht)
      have HL2 : Hid (lnkF (opp P) (opp Q) (!near) = oppF (lnk P Q near)) := Lib.hid (by rw [lnkF_yes (lnkOk_opp ht), oppF_yes (lnk_ok ht near), opp_lnk (vsm_iff.1 hvp).1 (vsm_iff.1 hvq).1])
      have HSUM : Hid (sumL (lnk P Q near) = sumL P + sumL Q) := Lib.hid (lnk_sum P Q near)
      have hll := (vsm_bd (lnk_ok ht near)).2.2.2
      have hop := (vsm_bd (opp_ok hvp)).2.2.2
      have hoq := (vsm_bd (opp_ok hvq)).2.2.2
      have hxl := oppF_len (lnk P Q near)
      have s1 := bp.1
      have s2 := bp.2.1
      have s3 := bq.1
      have s4 := bq.2.1
      obtain ⟨LK, hLK⟩ : ∃ LK, LK = lnk P Q near := ⟨_, rfl⟩
      rw [← hLK] at HF HL2 HSUM HFITL hll hxl
      clear ht hvp hvq bp bq hLK
      go_wp2_with fail
      refine (iLinkSums_any _ _ _ _ _ _ P Q near _ p.rd q.rd (by omega) (by omega) (by omega) (by omega)).mono ?_
      rintro e w2 ⟨a_ot, c_ot, rfl, ot, hb⟩
      replace p := p.below (hb.mono p.le)
      replace q := q.below (hb.mono q.le)
      replace hA := hA.trans (hb.mono hA.size)
      have hz2 := hb.size
      clear hb
      rw [HF.out] at ot ⊢
      rw [HT.out]
      go_wp2_with fail
      refine (sLinkSums_any _ _ _ _ _ _ P Q near _ p.rd q.rd (by omega) (by omega) (by omega) (by omega)).mono ?_
      rintro e w3 ⟨a_sp, c_sp, rfl, sp, hb⟩
      replace p := p.below (hb.mono p.le)
      replace q := q.below (hb.mono q.le)
      replace ot := ot.below (hb.mono ot.le)
      replace hA := hA.trans (hb.mono hA.size)
      have hz3 := hb.size
      clear hb
      rw [HF.out] at sp ⊢
      rw [HT.out]
      go_wp2_with fail
      refine (equalInts_same _ _ _ _ _ _ _ _ ot.rd sp.rd (by omega)).mono ?_
      rintro e w4 ⟨rfl, hd⟩
      have hb : Below w3.heap.size w3 w4 := Dr.below hd _
      clear hd
      replace p := p.below (hb.mono p.le)
      replace q := q.below (hb.mono q.le)
      replace ot := ot.below (hb.mono ot.le)
      replace sp := sp.below (hb.mono sp.le)
      replace hA := hA.trans (hb.mono hA.size)
      have hz4 := hb.size
      clear hb
      go_wp2_with fail
      refine (iOppositeSums_any _ _ _ P _ p.rd (by omega) (by omega)).mono ?_
      rintro e w5 ⟨a_op, c_op, rfl, op, hb⟩
      replace p := p.below (hb.mono p.le)
      replace q := q.below (hb.mono q.le)
      replace ot := ot.below (hb.mono ot.le)
      replace sp := sp.below (hb.mono sp.le)
      replace hA := hA.trans (hb.mono hA.size)
      have hz5 := hb.size
      clear hb
      rw [HOP.out] at op ⊢
      go_wp2_with fail
      refine (iOppositeSums_any _ _ _ Q _ q.rd (by omega) (by omega)).mono ?_
      rintro e w6 ⟨a_oq, c_oq, rfl, oq, hb⟩
      replace p := p.below (hb.mono p.le)
      replace q := q.below (hb.mono q.le)
      replace ot := ot.below (hb.mono ot.le)
      replace sp := sp.below (hb.mono sp.le)
      replace op := op.below (hb.mono op.le)
      replace hA := hA.trans (hb.mono hA.size)
      have hz6 := hb.size
      clear hb
      rw [HOQ.out] at oq ⊢
      go_wp2_with fail
      refine (iLinkSums_any _ _ _ _ _ _ (opp P) (opp Q) (!near) _ op.rd oq.rd (by omega) (by omega) (by omega) (by omega)).mono ?_
      rintro e w7 ⟨a_lk, c_lk, rfl, lk, hb⟩
      replace p := p.below (hb.mono p.le)
      replace q := q.below (hb.mono q.le)
      replace ot := ot.below (hb.mono ot.le)
      replace sp := sp.below (hb.mono sp.le)
      replace op := op.below (hb.mono op.le)
      replace oq := oq.below (hb.mono oq.le)
      replace hA := hA.trans (hb.mono hA.size)
      have hz7 := hb.size
      clear hb
      rw [HL2.out] at lk ⊢
      rw [HT2.out]
      go_wp2_with fail
      refine (iOppositeSums_any _ _ _ LK _ ot.rd (by omega) (by omega)).mono ?_
      rintro e w8 ⟨a_ol, c_ol, rfl, ol, hb⟩
      replace p := p.below (hb.mono p.le)
      replace q := q.below (hb.mono q.le)
      replace ot := ot.below (hb.mono ot.le)
      replace sp := sp.below (hb.mono sp.le)
      replace op := op.below (hb.mono op.le)
      replace oq := oq.below (hb.mono oq.le)
      replace lk := lk.below (hb.mono lk.le)
      replace hA := hA.trans (hb.mono hA.size)
      have hz8 := hb.size
      clear hb
      go_wp2_with fail
      refine (equalInts_same _ _ _ _ _ _ _ _ ol.rd lk.rd (by omega)).mono ?_
      rintro e w9 ⟨rfl, hd⟩
      have hb : Below w8.heap.size w8 w9 := Dr.below hd _
      clear hd
      replace p := p.below (hb.mono p.le)
      replace q := q.below (hb.mono q.le)
      replace ot := ot.below (hb.mono ot.le)
      replace sp := sp.below (hb.mono sp.le)
      replace op := op.below (hb.mono op.le)
      replace oq := oq.below (hb.mono oq.le)
      replace lk := lk.below (hb.mono lk.le)
      replace ol := ol.below (hb.mono ol.le)
      replace hA := hA.trans (hb.mono hA.size)
      have hz9 := hb.size
      clear hb
      go_wp2_with fail
      refine (total_any _ _ _ LK _ ot.rd HFITL.out (by omega)).mono ?_
      rintro e w' ⟨rfl, rfl⟩
      rw [HSUM.out]
      go_wp2_with fail
      refine (total_any _ _ _ P _ p.rd HFIT.out (by omega)).mono ?_
      rintro e w' ⟨rfl, rfl⟩
      go_wp2_with fail
      refine (total_any _ _ _ Q _ q.rd HFITQ.out (by omega)).mono ?_
      rintro e w' ⟨rfl, rfl⟩
      go_wp2_with fail
      go_ret
      exact ⟨rfl, hA⟩
    | false =>
      have HT := Lib.hid ht
      have HF : Hid (lnkF P Q near = []) := Lib.hid (lnkF_no ht near)
      have hnl : ([] : List Int).length ≤ 4611686018427387904 := by simp
      clear ht
      go_wp2_with fail
      refine (iLinkSums_any _ _ _ _ _ _ P Q near _ p.rd q.rd (by omega) (by omega) (by omega) (by omega)).mono ?_
      rintro e w2 ⟨a_ot, c_ot, rfl, ot, hb⟩
      replace p := p.below (hb.mono p.le)
      replace q := q.below (hb.mono q.le)
      replace hA := hA.trans (hb.mono hA.size)
      have hz2 := hb.size
      clear hb
      rw [HF.out] at ot ⊢
      rw [HT.out]
      go_wp2_with fail
      refine (sLinkSums_any _ _ _ _ _ _ P Q near _ p.rd q.rd (by omega) (by omega) (by omega) (by omega)).mono ?_
      rintro e w3 ⟨a_sp, c_sp, rfl, sp, hb⟩
      replace p := p.below (hb.mono p.le)
      replace q := q.below (hb.mono q.le)
      replace ot := ot.below (hb.mono ot.le)
      replace hA := hA.trans (hb.mono hA.size)
      have hz3 := hb.size
      clear hb
      rw [HF.out] at sp ⊢
      rw [HT.out]
      go_wp2_with fail
      refine (equalInts_same _ _ _ _ _ _ _ _ ot.rd sp.rd hnl).mono ?_
      rintro e w4 ⟨rfl, hd⟩
      have hb : Below w3.heap.size w3 w4 := Dr.below hd _
      clear hd
      replace p := p.below (hb.mono p.le)
      replace q := q.below (hb.mono q.le)
      replace ot := ot.below (hb.mono ot.le)
      replace sp := sp.below (hb.mono sp.le)
      replace hA := hA.trans (hb.mono hA.size)
      have hz4 := hb.size
      clear hb
      go_wp2_with fail
      refine (equalInts_same _ _ _ _ _ _ _ _ ot.rd sp.rd hnl).mono ?_
      rintro e w5 ⟨rfl, hd⟩
      have hb : Below w4.heap.size w4 w5 := Dr.below hd _
      clear hd
      replace p := p.below (hb.mono p.le)
      replace q := q.below (hb.mono q.le)
      replace ot := ot.below (hb.mono ot.le)
      replace sp := sp.below (hb.mono sp.le)
      replace hA := hA.trans (hb.mono hA.size)
      have hz5 := hb.size
      clear hb
      go_wp2_with fail
      go_ret
      exact ⟨rfl, hA⟩
  · have hl' : 1048576 < bs.length := by omega
    go_enter Try.func16, Try.ntmps16
    go_wp2_with fail
    go_ret
    exact ⟨rfl, Below.refl _ _⟩

theorem own : ownKnob Try.prog.godebug = none := by kernel_rfl
theorem laidOut : laidOutB Try.prog = true := by kernel_rfl

set_option maxRecDepth 100000 in
theorem lifted (os : Os) (started : os.Started) (H : Type) (enc : TypeId × Value → H) :
    ReturnsInHanded {} Try.checked os 16 .any (Rows.fnLinkSumsSpec.pre6 enc Try.prog Try.f16 Rows.fnLinkSumsRow.domain false) (Rows.fnLinkSumsSpec.post enc Try.prog Try.f16 false true false false) := by
  refine returnsInHanded_of_change (C := Try.checked) own started (by kernel_rfl) Try.func16
    (ChangeSpec.witness6 (enc := enc) (C := Try.checked) false ⟨#[], #[.slice none 0 0], []⟩ 8 (by kernel_rfl) (by kernel_rfl) (by kernel_rfl) (by kernel_rfl)) ?_
  intro W base args ds gs before hval0 hW hcnd _
  have hval : ∀ (j : Nat) t v, Try.f16.params[j]? = some t → args[j]? = some v → Value.okWide Try.prog W .any base t v := hval0
  have hW' := hW
  obtain ⟨p, q, hA0, hV, rfl, hfz, hnd⟩ := hW
  have hA : DataW.TrodAll enc Try.prog W 0 (fun _ => true) true Try.f16.params.toList args.toList ds p := hA0
  rw [Try.params16] at hA hval
  obtain ⟨v0, vs0, d0, ds0, p0, q0, hargs, rfl, rfl, h0, r0⟩ := trodAll_cons hA
  obtain ⟨rfl, rfl, rfl⟩ := trodAll_nil r0
  obtain rfl : args = #[v0] := by cases args; simp_all
  obtain ⟨rfl, rfl⟩ := trodVars_none hV
  obtain ⟨a0, len0, cap0, rfl⟩ := okWide_slice Try.underlying38 (hval 0 38 v0 rfl rfl)
  have k0 := h0
  have lt0 : ∀ x ∈ p0, x.block < W.heap.size := by obtain ⟨m, hm⟩ := k0; exact DataW.trod_lt m _ _ _ hm
  obtain ⟨z0, w0⟩ : ∃ zs, IsRow .u8 W a0 len0 cap0 zs := by
    obtain ⟨fuel, hf⟩ := h0
    rcases open_ints Try.underlying38 Try.underlying5 (by kernel_rfl) hf with ⟨hcs, _⟩ | ⟨x, l, c, zs, hcs, _, hl, hm, hz, _, hcell, hwz⟩
    · simp [Value.cells] at hcs
      obtain ⟨rfl, rfl, rfl⟩ := hcs
      exact ⟨[], .inl ⟨rfl, rfl, rfl, rfl⟩⟩
    · simp [Value.cells] at hcs
      obtain ⟨rfl, rfl, rfl⟩ := hcs
      exact ⟨zs, .inr ⟨_, rfl, hl, hm, by simpa using hz, hcell, hwz⟩⟩
  have lc0 := w0.lc
  obtain ⟨L0, rfl, R0, wf0, m0⟩ := w0.rd
  clear hA0 hval0
  refine (walk a0 cap0 L0 W R0 wf0 m0 (by simpa using lc0)).mono fun e W' ⟨he, bel⟩ => ?_
  subst he
  exact ⟨_, rfl, _, _, _, [], _, [], hW', trodAll_mk1 (shut_bool Try.underlying4 _), (trodAll_cons_mk (Below.trod laidOut (by kernel_rfl) (of_decide_eq_true (by kernel_rfl)) k0 bel lt0) trodAll_mk0), rfl, bel.frame _, fun h => by cases h⟩

theorem over : Rows.fnLinkSumsRow.holds Try.pinned (OpenSpec.ofChange Rows.fnLinkSumsSpec) :=
  OpenClaim.holds_of_wide 16 Try.f16 rfl rfl rfl rfl rfl rfl rfl ⟨rfl, rfl, rfl, rfl, rfl⟩ rfl rfl rfl rfl rfl (by kernel_rfl) Try.func16 (by kernel_rfl)
    (of_decide_eq_true (by kernel_rfl)) (by unfold Func.isWrapper; first | (rw [if_pos (by decide +kernel)]; kernel_rfl) | (rw [if_neg (by decide +kernel)]; exact ⟨rfl, rfl⟩))
    (fun os started H enc _ => lifted os started H enc)

/-- the given statement -/
theorem proved : Rows.FnLinkSumsSaid := over
end Go.Proofs.Ytknpcpabfihkdaa.fnLinkSums
