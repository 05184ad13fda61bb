/-
  'laws.FnSquareCut' returns true for every code, and the code reads as it did. No condition.
-/
import Derived.Test.YtemkchihbnneeaaRows
import Derived.Test.YtemkchihbnneeaaW28
import Derived.Test.YtemkchihbnneeaaL1
import Derived.Test.YtemkchihbnneeaaD9
import Derived.WalkKit
import Derived.ProofKit
import Derived.OpenShut
import Derived.ShutString
import Derived.ChangeOld
import Derived.Below
namespace Go.Proofs.Ytemkchihbnneeaa.fnSquareCut
open Go.ChangeShapes Go.WideShapes Go.ChangeAt Go.RowKit NP
open Go.ChangeMaps (open_string shut_string)
set_option linter.unusedVariables false

set_option maxHeartbeats 1600000 in
theorem walk (a : Option Addr) (c : Nat) (bs : List Int) (w0 : World) (h : Rd w0 w0.heap.size a (bs.map (Value.int .u8))) (hb : ∀ n ∈ bs, (Lit.int .u8 n).wf = true) (m : bs.length ≤ maxLen) (hc : bs.length ≤ c) :
    Calls Try.prog 10 #[.slice a bs.length c] w0 fun e w' => e = .returned (.bool true) ∧ Below w0.heap.size w0 w' := by
  unfold maxLen at m
  by_cases hl : bs.length ≤ 1048576
  · go_enter Try.func10, Try.ntmps10
    go_wp2_with fail
    refine (DrawSquareCut_any a c _ bs _ h (Nat.le_refl _) hb hl hc).mono ?_
    rintro e w1 ⟨a1, c1, P, rfl, p, hs1, hA⟩
    have hP := hs1.1
    clear h hb hl hc m hs1
    cases hv : valid P with
    | true =>
      have HV := Lib.hid hv
      obtain ⟨hvR, hvB, -, hcR, hcB, hok, hput⟩ := sq_facts hv
      have HA : Hid (sqRF P = sqR P) := Lib.hid (sqRF_yes hv)
      have HB : Hid (sqBF P = sqB P) := Lib.hid (sqBF_yes hv)
      have HDD : Hid (sqD P = (durS P : Int)) := Lib.hid (sqD_yes hv)
      have HC : Hid (conjF P = conj P) := Lib.hid (conjF_yes hv)
      have HOK := Lib.hid hok
      have HPF : Hid (sqPutF (durS P) (sqR P) (sqB P) = P) := Lib.hid (by rw [sqPutF_yes hok, hput])
      have HD2 : Hid (sqD (conj P) = (durS P : Int)) := Lib.hid (by rw [sqD_yes (valid_conj hv), durS_conj hv])
      have HA2 : Hid (sqRF (conj P) = conj (sqB P)) := Lib.hid (by rw [sqRF_yes (valid_conj hv), hcR])
      have HB2 : Hid (sqBF (conj P) = conj (sqR P)) := Lib.hid (by rw [sqBF_yes (valid_conj hv), hcB])
      have HCB : Hid (conjF (sqB P) = conj (sqB P)) := Lib.hid (conjF_yes hvB)
      have HCA : Hid (conjF (sqR P) = conj (sqR P)) := Lib.hid (conjF_yes hvR)
      have l1 : (conj P).length ≤ 16 := (valid_bd (valid_conj hv)).2.2.2
      have l2 : (sqR P).length ≤ 16 := (valid_bd hvR).2.2.2
      have l3 : (sqB P).length ≤ 16 := (valid_bd hvB).2.2.2
      have l4 : (conj (sqR P)).length ≤ 16 := (valid_bd (valid_conj hvR)).2.2.2
      have l5 : (conj (sqB P)).length ≤ 16 := (valid_bd (valid_conj hvB)).2.2.2
      clear hv hvR hvB hcR hcB hok hput
      go_wp2_with fail
      refine (iSquareCut_any _ _ _ P _ p.rd (by omega) (by omega)).mono ?_
      rintro e w2 ⟨a_ra, c_ra, a_rb, c_rb, md_ra, rfl, ra, rb, -, -, hb⟩
      replace ra := ra.more
      replace p := p.below (hb.mono p.le)
      replace hA := hA.trans (hb.mono hA.size)
      have hz2 := hb.size
      clear hb
      rw [HA.out] at ra ⊢
      rw [HB.out] at rb ⊢
      rw [HDD.out]
      go_wp2_with fail
      refine (sSquareCut_any _ _ _ P _ p.rd (by omega) (by omega) p.cap).mono ?_
      rintro e w3 ⟨a_sa, c_sa, a_sb, c_sb, rfl, sa, sb, hb⟩
      replace p := p.below (hb.mono p.le)
      replace ra := ra.below (hb.mono ra.le)
      replace rb := rb.below (hb.mono rb.le)
      replace hA := hA.trans (hb.mono hA.size)
      have hz3 := hb.size
      clear hb
      rw [HA.out] at sa ⊢
      rw [HB.out] at sb ⊢
      rw [HDD.out]
      go_wp2_with fail
      refine (equalInts_same _ _ _ _ _ _ _ _ ra.rd sa.rd (by omega)).mono ?_
      rintro e w4 ⟨rfl, hd⟩
      have hb : Below w3.heap.size w3 w4 := Dr.below hd _
      clear hd
      replace p := p.below (hb.mono p.le)
      replace ra := ra.below (hb.mono ra.le)
      replace rb := rb.below (hb.mono rb.le)
      replace sa := sa.below (hb.mono sa.le)
      replace sb := sb.below (hb.mono sb.le)
      replace hA := hA.trans (hb.mono hA.size)
      have hz4 := hb.size
      clear hb
      go_wp2_with fail
      refine (equalInts_same _ _ _ _ _ _ _ _ rb.rd sb.rd (by omega)).mono ?_
      rintro e w5 ⟨rfl, hd⟩
      have hb : Below w4.heap.size w4 w5 := Dr.below hd _
      clear hd
      replace p := p.below (hb.mono p.le)
      replace ra := ra.below (hb.mono ra.le)
      replace rb := rb.below (hb.mono rb.le)
      replace sa := sa.below (hb.mono sa.le)
      replace sb := sb.below (hb.mono sb.le)
      replace hA := hA.trans (hb.mono hA.size)
      have hz5 := hb.size
      clear hb
      go_wp2_with fail
      refine (iValidParts_any _ _ _ P _ p.rd (by omega) (by omega)).mono ?_
      rintro e w6 ⟨rfl, hb⟩
      replace p := p.below (hb.mono p.le)
      replace ra := ra.below (hb.mono ra.le)
      replace rb := rb.below (hb.mono rb.le)
      replace sa := sa.below (hb.mono sa.le)
      replace sb := sb.below (hb.mono sb.le)
      replace hA := hA.trans (hb.mono hA.size)
      have hz6 := hb.size
      clear hb
      rw [HV.out]
      go_wp2_with fail
      refine (iSquarePut_any _ _ _ _ _ _ _ (sqR P) (sqB P) _ ra.rd rb.rd (by omega) (by omega) (by omega) (by omega)).mono ?_
      rintro e w7 ⟨a_bk, c_bk, rfl, bk, hb⟩
      replace p := p.below (hb.mono p.le)
      replace ra := ra.below (hb.mono ra.le)
      replace rb := rb.below (hb.mono rb.le)
      replace sa := sa.below (hb.mono sa.le)
      replace sb := sb.below (hb.mono sb.le)
      replace hA := hA.trans (hb.mono hA.size)
      have hz7 := hb.size
      clear hb
      rw [HPF.out] at bk ⊢
      rw [HOK.out]
      go_wp2_with fail
      refine (iConjugateOf_any _ _ _ P _ p.rd (by omega) (by omega)).mono ?_
      rintro e w8 ⟨a_cq, c_cq, rfl, cq, hb⟩
      replace p := p.below (hb.mono p.le)
      replace ra := ra.below (hb.mono ra.le)
      replace rb := rb.below (hb.mono rb.le)
      replace sa := sa.below (hb.mono sa.le)
      replace sb := sb.below (hb.mono sb.le)
      replace bk := bk.below (hb.mono bk.le)
      replace hA := hA.trans (hb.mono hA.size)
      have hz8 := hb.size
      clear hb
      rw [HC.out] at cq ⊢
      go_wp2_with fail
      refine (iSquareCut_any _ _ _ (conj P) _ cq.rd (by omega) (by omega)).mono ?_
      rintro e w9 ⟨a_ca, c_ca, a_cb, c_cb, md_ca, rfl, ca, cb, -, -, hb⟩
      replace ca := ca.more
      replace p := p.below (hb.mono p.le)
      replace ra := ra.below (hb.mono ra.le)
      replace rb := rb.below (hb.mono rb.le)
      replace sa := sa.below (hb.mono sa.le)
      replace sb := sb.below (hb.mono sb.le)
      replace bk := bk.below (hb.mono bk.le)
      replace cq := cq.below (hb.mono cq.le)
      replace hA := hA.trans (hb.mono hA.size)
      have hz9 := hb.size
      clear hb
      rw [HA2.out] at ca ⊢
      rw [HB2.out] at cb ⊢
      rw [HD2.out]
      go_wp2_with fail
      refine (equalInts_same _ _ _ _ _ _ _ _ bk.rd p.rd (by omega)).mono ?_
      rintro e w10 ⟨rfl, hd⟩
      have hb : Below w9.heap.size w9 w10 := Dr.below hd _
      clear hd
      replace p := p.below (hb.mono p.le)
      replace ra := ra.below (hb.mono ra.le)
      replace rb := rb.below (hb.mono rb.le)
      replace sa := sa.below (hb.mono sa.le)
      replace sb := sb.below (hb.mono sb.le)
      replace bk := bk.below (hb.mono bk.le)
      replace cq := cq.below (hb.mono cq.le)
      replace ca := ca.below (hb.mono ca.le)
      replace cb := cb.below (hb.mono cb.le)
      replace hA := hA.trans (hb.mono hA.size)
      have hz10 := hb.size
      clear hb
      go_wp2_with fail
      refine (iConjugateOf_any _ _ _ (sqB P) _ rb.rd (by omega) (by omega)).mono ?_
      rintro e w11 ⟨a_xb, c_xb, rfl, xb, hb⟩
      replace p := p.below (hb.mono p.le)
      replace ra := ra.below (hb.mono ra.le)
      replace rb := rb.below (hb.mono rb.le)
      replace sa := sa.below (hb.mono sa.le)
      replace sb := sb.below (hb.mono sb.le)
      replace bk := bk.below (hb.mono bk.le)
      replace cq := cq.below (hb.mono cq.le)
      replace ca := ca.below (hb.mono ca.le)
      replace cb := cb.below (hb.mono cb.le)
      replace hA := hA.trans (hb.mono hA.size)
      have hz11 := hb.size
      clear hb
      rw [HCB.out] at xb ⊢
      go_wp2_with fail
      refine (equalInts_same _ _ _ _ _ _ _ _ ca.rd xb.rd (by omega)).mono ?_
      rintro e w12 ⟨rfl, hd⟩
      have hb : Below w11.heap.size w11 w12 := Dr.below hd _
      clear hd
      replace p := p.below (hb.mono p.le)
      replace ra := ra.below (hb.mono ra.le)
      replace rb := rb.below (hb.mono rb.le)
      replace sa := sa.below (hb.mono sa.le)
      replace sb := sb.below (hb.mono sb.le)
      replace bk := bk.below (hb.mono bk.le)
      replace cq := cq.below (hb.mono cq.le)
      replace ca := ca.below (hb.mono ca.le)
      replace cb := cb.below (hb.mono cb.le)
      replace xb := xb.below (hb.mono xb.le)
      replace hA := hA.trans (hb.mono hA.size)
      have hz12 := hb.size
      clear hb
      go_wp2_with fail
      refine (iConjugateOf_any _ _ _ (sqR P) _ ra.rd (by omega) (by omega)).mono ?_
      rintro e w13 ⟨a_xa, c_xa, rfl, xa, hb⟩
      replace p := p.below (hb.mono p.le)
      replace ra := ra.below (hb.mono ra.le)
      replace rb := rb.below (hb.mono rb.le)
      replace sa := sa.below (hb.mono sa.le)
      replace sb := sb.below (hb.mono sb.le)
      replace bk := bk.below (hb.mono bk.le)
      replace cq := cq.below (hb.mono cq.le)
      replace ca := ca.below (hb.mono ca.le)
      replace cb := cb.below (hb.mono cb.le)
      replace xb := xb.below (hb.mono xb.le)
      replace hA := hA.trans (hb.mono hA.size)
      have hz13 := hb.size
      clear hb
      rw [HCA.out] at xa ⊢
      go_wp2_with fail
      refine (equalInts_same _ _ _ _ _ _ _ _ cb.rd xa.rd (by omega)).mono ?_
      rintro e w14 ⟨rfl, hd⟩
      have hb : Below w13.heap.size w13 w14 := Dr.below hd _
      clear hd
      replace p := p.below (hb.mono p.le)
      replace ra := ra.below (hb.mono ra.le)
      replace rb := rb.below (hb.mono rb.le)
      replace sa := sa.below (hb.mono sa.le)
      replace sb := sb.below (hb.mono sb.le)
      replace bk := bk.below (hb.mono bk.le)
      replace cq := cq.below (hb.mono cq.le)
      replace ca := ca.below (hb.mono ca.le)
      replace cb := cb.below (hb.mono cb.le)
      replace xb := xb.below (hb.mono xb.le)
      replace xa := xa.below (hb.mono xa.le)
      replace hA := hA.trans (hb.mono hA.size)
      have hz14 := hb.size
      clear hb
      go_wp2_with fail
      go_ret
      exact ⟨rfl, hA⟩
    | false =>
      have HV := Lib.hid hv
      have HA : Hid (sqRF P = []) := Lib.hid (sqRF_no hv)
      have HB : Hid (sqBF P = []) := Lib.hid (sqBF_no hv)
      have HDD : Hid (sqD P = 0) := Lib.hid (sqD_no hv)
      have hnl : ([] : List Int).length ≤ 4611686018427387904 := by simp
      clear hv
      go_wp2_with fail
      refine (iSquareCut_any _ _ _ P _ p.rd (by omega) (by omega)).mono ?_
      rintro e w2 ⟨a_ra, c_ra, a_rb, c_rb, md_ra, rfl, ra, rb, -, -, hb⟩
      replace ra := ra.more
      replace p := p.below (hb.mono p.le)
      replace hA := hA.trans (hb.mono hA.size)
      have hz2 := hb.size
      clear hb
      rw [HA.out] at ra ⊢
      rw [HB.out] at rb ⊢
      rw [HDD.out]
      go_wp2_with fail
      refine (sSquareCut_any _ _ _ P _ p.rd (by omega) (by omega) p.cap).mono ?_
      rintro e w3 ⟨a_sa, c_sa, a_sb, c_sb, rfl, sa, sb, hb⟩
      replace p := p.below (hb.mono p.le)
      replace ra := ra.below (hb.mono ra.le)
      replace rb := rb.below (hb.mono rb.le)
      replace hA := hA.trans (hb.mono hA.size)
      have hz3 := hb.size
      clear hb
      rw [HA.out] at sa ⊢
      rw [HB.out] at sb ⊢
      rw [HDD.out]
      go_wp2_with fail
      refine (equalInts_same _ _ _ _ _ _ _ _ ra.rd sa.rd hnl).mono ?_
      rintro e w4 ⟨rfl, hd⟩
      have hb : Below w3.heap.size w3 w4 := Dr.below hd _
      clear hd
      replace p := p.below (hb.mono p.le)
      replace ra := ra.below (hb.mono ra.le)
      replace rb := rb.below (hb.mono rb.le)
      replace sa := sa.below (hb.mono sa.le)
      replace sb := sb.below (hb.mono sb.le)
      replace hA := hA.trans (hb.mono hA.size)
      have hz4 := hb.size
      clear hb
      go_wp2_with fail
      refine (equalInts_same _ _ _ _ _ _ _ _ rb.rd sb.rd hnl).mono ?_
      rintro e w5 ⟨rfl, hd⟩
      have hb : Below w4.heap.size w4 w5 := Dr.below hd _
      clear hd
      replace p := p.below (hb.mono p.le)
      replace ra := ra.below (hb.mono ra.le)
      replace rb := rb.below (hb.mono rb.le)
      replace sa := sa.below (hb.mono sa.le)
      replace sb := sb.below (hb.mono sb.le)
      replace hA := hA.trans (hb.mono hA.size)
      have hz5 := hb.size
      clear hb
      go_wp2_with fail
      refine (iValidParts_any _ _ _ P _ p.rd (by omega) (by omega)).mono ?_
      rintro e w6 ⟨rfl, hb⟩
      replace p := p.below (hb.mono p.le)
      replace ra := ra.below (hb.mono ra.le)
      replace rb := rb.below (hb.mono rb.le)
      replace sa := sa.below (hb.mono sa.le)
      replace sb := sb.below (hb.mono sb.le)
      replace hA := hA.trans (hb.mono hA.size)
      have hz6 := hb.size
      clear hb
      rw [HV.out]
      go_wp2_with fail
      refine (equalInts_same _ _ _ _ _ _ _ _ ra.rd sa.rd hnl).mono ?_
      rintro e w7 ⟨rfl, hd⟩
      have hb : Below w6.heap.size w6 w7 := Dr.below hd _
      clear hd
      replace p := p.below (hb.mono p.le)
      replace ra := ra.below (hb.mono ra.le)
      replace rb := rb.below (hb.mono rb.le)
      replace sa := sa.below (hb.mono sa.le)
      replace sb := sb.below (hb.mono sb.le)
      replace hA := hA.trans (hb.mono hA.size)
      have hz7 := hb.size
      clear hb
      go_wp2_with fail
      refine (equalInts_same _ _ _ _ _ _ _ _ rb.rd sb.rd hnl).mono ?_
      rintro e w8 ⟨rfl, hd⟩
      have hb : Below w7.heap.size w7 w8 := Dr.below hd _
      clear hd
      replace p := p.below (hb.mono p.le)
      replace ra := ra.below (hb.mono ra.le)
      replace rb := rb.below (hb.mono rb.le)
      replace sa := sa.below (hb.mono sa.le)
      replace sb := sb.below (hb.mono sb.le)
      replace hA := hA.trans (hb.mono hA.size)
      have hz8 := hb.size
      clear hb
      go_wp2_with fail
      go_ret
      exact ⟨rfl, hA⟩
  · have hl' : 1048576 < bs.length := by omega
    go_enter Try.func10, Try.ntmps10
    go_wp2_with fail
    go_ret
    exact ⟨rfl, Below.refl _ _⟩

theorem own : ownKnob Try.prog.godebug = none := by kernel_rfl
theorem laidOut : laidOutB Try.prog = true := by kernel_rfl

set_option maxRecDepth 100000 in
theorem lifted (os : Os) (started : os.Started) (H : Type) (enc : TypeId × Value → H) :
    ReturnsInHanded {} Try.checked os 10 .any (Rows.fnSquareCutSpec.pre6 enc Try.prog Try.f10 Rows.fnSquareCutRow.domain false) (Rows.fnSquareCutSpec.post enc Try.prog Try.f10 false true false false) := by
  refine returnsInHanded_of_change (C := Try.checked) own started (by kernel_rfl) Try.func10
    (ChangeSpec.witness6 (enc := enc) (C := Try.checked) false ⟨#[], #[.slice none 0 0], []⟩ 8 (by kernel_rfl) (by kernel_rfl) (by kernel_rfl) (by kernel_rfl)) ?_
  intro W base args ds gs before hval0 hW hcnd _
  have hval : ∀ (j : Nat) t v, Try.f10.params[j]? = some t → args[j]? = some v → Value.okWide Try.prog W .any base t v := hval0
  have hW' := hW
  obtain ⟨p, q, hA0, hV, rfl, hfz, hnd⟩ := hW
  have hA : DataW.TrodAll enc Try.prog W 0 (fun _ => true) true Try.f10.params.toList args.toList ds p := hA0
  rw [Try.params10] at hA hval
  obtain ⟨v0, vs0, d0, ds0, p0, q0, hargs, rfl, rfl, h0, r0⟩ := trodAll_cons hA
  obtain ⟨rfl, rfl, rfl⟩ := trodAll_nil r0
  obtain rfl : args = #[v0] := by cases args; simp_all
  obtain ⟨rfl, rfl⟩ := trodVars_none hV
  obtain ⟨a0, len0, cap0, rfl⟩ := okWide_slice Try.underlying28 (hval 0 28 v0 rfl rfl)
  have k0 := h0
  have lt0 : ∀ x ∈ p0, x.block < W.heap.size := by obtain ⟨m, hm⟩ := k0; exact DataW.trod_lt m _ _ _ hm
  obtain ⟨z0, w0⟩ : ∃ zs, IsRow .u8 W a0 len0 cap0 zs := by
    obtain ⟨fuel, hf⟩ := h0
    rcases open_ints Try.underlying28 Try.underlying5 (by kernel_rfl) hf with ⟨hcs, _⟩ | ⟨x, l, c, zs, hcs, _, hl, hm, hz, _, hcell, hwz⟩
    · simp [Value.cells] at hcs
      obtain ⟨rfl, rfl, rfl⟩ := hcs
      exact ⟨[], .inl ⟨rfl, rfl, rfl, rfl⟩⟩
    · simp [Value.cells] at hcs
      obtain ⟨rfl, rfl, rfl⟩ := hcs
      exact ⟨zs, .inr ⟨_, rfl, hl, hm, by simpa using hz, hcell, hwz⟩⟩
  have lc0 := w0.lc
  obtain ⟨L0, rfl, R0, wf0, m0⟩ := w0.rd
  clear hA0 hval0
  refine (walk a0 cap0 L0 W R0 wf0 m0 (by simpa using lc0)).mono fun e W' ⟨he, bel⟩ => ?_
  subst he
  exact ⟨_, rfl, _, _, _, [], _, [], hW', trodAll_mk1 (shut_bool Try.underlying4 _), (trodAll_cons_mk (Below.trod laidOut (by kernel_rfl) (of_decide_eq_true (by kernel_rfl)) k0 bel lt0) trodAll_mk0), rfl, bel.frame _, fun h => by cases h⟩

theorem over : Rows.fnSquareCutRow.holds Try.pinned (OpenSpec.ofChange Rows.fnSquareCutSpec) :=
  OpenClaim.holds_of_wide 10 Try.f10 rfl rfl rfl rfl rfl rfl rfl ⟨rfl, rfl, rfl, rfl, rfl⟩ rfl rfl rfl rfl rfl (by kernel_rfl) Try.func10 (by kernel_rfl)
    (of_decide_eq_true (by kernel_rfl)) (by unfold Func.isWrapper; first | (rw [if_pos (by decide +kernel)]; kernel_rfl) | (rw [if_neg (by decide +kernel)]; exact ⟨rfl, rfl⟩))
    (fun os started H enc _ => lifted os started H enc)

/-- the given statement -/
theorem proved : Rows.FnSquareCutSaid := over
end Go.Proofs.Ytemkchihbnneeaa.fnSquareCut
