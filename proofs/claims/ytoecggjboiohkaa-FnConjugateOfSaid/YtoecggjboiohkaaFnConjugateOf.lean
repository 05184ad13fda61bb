/-
  'laws.FnConjugateOf' returns true for every code, and the code reads as it did. No condition.
-/
import Derived.Test.YtoecggjboiohkaaRows
import Derived.Test.YtoecggjboiohkaaW4
import Derived.Test.YtoecggjboiohkaaD3
import Derived.WalkKit
import Derived.ProofKit
import Derived.OpenShut
import Derived.ShutString
import Derived.ChangeOld
import Derived.Below
namespace Go.Proofs.Ytoecggjboiohkaa.fnConjugateOf
open Go.ChangeShapes Go.WideShapes Go.ChangeAt Go.RowKit NP
open Go.ChangeMaps (open_string shut_string)
set_option linter.unusedVariables false

theorem walk (a : Option Addr) (c : Nat) (bs : List Int) (w0 : World) (h : Rd w0 w0.heap.size a (bs.map (Value.int .u8))) (hb : ∀ n ∈ bs, (Lit.int .u8 n).wf = true) (m : bs.length ≤ maxLen) (hc : bs.length ≤ c) :
    Calls Try.prog 7 #[.slice a bs.length c] w0 fun e w' => e = .returned (.bool true) ∧ Below w0.heap.size w0 w' := by
  unfold maxLen at m
  by_cases hl : bs.length ≤ 1048576
  · go_enter Try.func7, Try.ntmps7
    go_wp2_with fail
    refine (DrawConjugateOf_any a c _ bs _ h (Nat.le_refl _) hb hl hc).mono ?_
    rintro e w1 ⟨a1, c1, M, rfl, ho, hs, hA⟩
    have hM := hs.1
    clear h hb hl hc m
    cases hv : valid M with
    | true =>
      have hCC : conjF (conjF M) = M := by rw [conjF_yes hv, conjF_yes (valid_conj hv), conj_conj hv]
      have hCl := conjF_len M
      have hC1 := conjF_yes hv
      have HV := Lib.hid hv
      have HC1 := Lib.hid hC1
      clear hC1
      go_wp2_with fail
      refine (iConjugateOf_any _ _ _ _ _ ho.rd (by omega) (by omega)).mono ?_
      rintro e w2 ⟨a_ot, c_ot, rfl, ot, hb⟩
      replace ho := ho.below (hb.mono ho.le)
      replace hA := hA.trans (hb.mono hA.size)
      have hz2 := hb.size
      clear hb
      go_wp2_with fail
      refine (sConjugateOf_any _ _ _ _ _ ho.rd (by omega) (by omega)).mono ?_
      rintro e w3 ⟨a_sp, c_sp, rfl, sp, hb⟩
      replace ho := ho.below (hb.mono ho.le)
      replace ot := ot.below (hb.mono ot.le)
      replace hA := hA.trans (hb.mono hA.size)
      have hz3 := hb.size
      clear hb
      go_wp2_with fail
      refine (equalInts_same _ _ _ _ _ _ _ _ ot.rd sp.rd (by omega)).mono ?_
      rintro e w4 ⟨rfl, hd⟩
      have hb : Below w3.heap.size w3 w4 := Dr.below hd _
      clear hd
      replace ho := ho.below (hb.mono ho.le)
      replace ot := ot.below (hb.mono ot.le)
      replace sp := sp.below (hb.mono sp.le)
      replace hA := hA.trans (hb.mono hA.size)
      have hz4 := hb.size
      clear hb
      go_wp2_with fail
      refine (iValidParts_any _ _ _ _ _ ho.rd (by omega) (by omega)).mono ?_
      rintro e w5 ⟨rfl, hb⟩
      replace ho := ho.below (hb.mono ho.le)
      replace ot := ot.below (hb.mono ot.le)
      replace sp := sp.below (hb.mono sp.le)
      replace hA := hA.trans (hb.mono hA.size)
      have hz5 := hb.size
      clear hb
      go_wp2_with fail
      refine (iConjugateOf_any _ _ _ _ _ ot.rd (by omega) (by omega)).mono ?_
      rintro e w6 ⟨a_bk, c_bk, rfl, bk, hb⟩
      replace ho := ho.below (hb.mono ho.le)
      replace ot := ot.below (hb.mono ot.le)
      replace sp := sp.below (hb.mono sp.le)
      replace hA := hA.trans (hb.mono hA.size)
      have hz6 := hb.size
      clear hb
      rw [hCC] at bk ⊢
      clear hCC
      go_wp2_with fail
      refine (equalInts_same _ _ _ _ _ _ _ _ bk.rd ho.rd (by omega)).mono ?_
      rintro e w7 ⟨rfl, hd⟩
      have hb : Below w6.heap.size w6 w7 := Dr.below hd _
      clear hd
      replace ho := ho.below (hb.mono ho.le)
      replace ot := ot.below (hb.mono ot.le)
      replace sp := sp.below (hb.mono sp.le)
      replace bk := bk.below (hb.mono bk.le)
      replace hA := hA.trans (hb.mono hA.size)
      have hz7 := hb.size
      clear hb
      by_cases hM0 : M.length = 0
      · have hc0 : (conjF M).length = 0 := by rw [HC1.out, conj_nil_iff HV.out]; exact hM0
        have e1 : ((M.length : Int) == 0) = true := by simp [hM0]
        have e2 : (((conjF M).length : Int) == 0) = true := by simp [hc0]
        clear hM0 hc0 hv
        go_wp2_with fail
        go_ret
        exact ⟨rfl, hA⟩
      · have hM1 : 0 < M.length := by omega
        have hc0 : 0 < (conjF M).length := by rw [HC1.out]; have := conj_nil_iff HV.out; omega
        obtain ⟨g1, rfl, hcell1⟩ := ho.read (k := 0) (by simpa using hM1)
        obtain ⟨g2, rfl, hcell2⟩ := ot.read (k := 0) (by simpa using hc0)
        have hv1 : (ints M)[0]'(by simpa using hM1) = .int .i64 ((conjF M).length : Int) := by
          rw [List.getElem_map]
          congr 1
          rw [HC1.out, conj_len, headD_get M hM1]
          have := preS_of_valid HV.out 0 hM1 hM1
          omega
        have hv2 : (ints (conjF M))[0]'(by simpa using hc0) = .int .i64 (M.length : Int) := by
          rw [List.getElem_map]
          congr 1
          have h3 : (conjF M)[0] = cnt 1 M := by
            have e : ∀ (X : List Int) (h : 0 < X.length), X = conj M → X[0] = cnt 1 M := by
              rintro X h rfl
              rw [conj_get]; simp
            exact e _ hc0 HC1.out
          rw [h3, cnt_one HV.out]
        rw [hv1] at hcell1
        rw [hv2] at hcell2
        have e1 : ((M.length : Int) == 0) = false := beq_eq_false_iff_ne.2 (by omega)
        have e2 : decide (0 < M.length) = true := decide_eq_true hM1
        clear hM0 hv hv1 hv2
        go_wp2_with fail
        go_ret
        exact ⟨rfl, hA⟩
    | false =>
      have hCl := conjF_len M
      go_wp2_with fail
      refine (iConjugateOf_any _ _ _ _ _ ho.rd (by omega) (by omega)).mono ?_
      rintro e w2 ⟨a_ot, c_ot, rfl, ot, hb⟩
      replace ho := ho.below (hb.mono ho.le)
      replace hA := hA.trans (hb.mono hA.size)
      have hz2 := hb.size
      clear hb
      go_wp2_with fail
      refine (sConjugateOf_any _ _ _ _ _ ho.rd (by omega) (by omega)).mono ?_
      rintro e w3 ⟨a_sp, c_sp, rfl, sp, hb⟩
      replace ho := ho.below (hb.mono ho.le)
      replace ot := ot.below (hb.mono ot.le)
      replace hA := hA.trans (hb.mono hA.size)
      have hz3 := hb.size
      clear hb
      go_wp2_with fail
      refine (equalInts_same _ _ _ _ _ _ _ _ ot.rd sp.rd (by omega)).mono ?_
      rintro e w4 ⟨rfl, hd⟩
      have hb : Below w3.heap.size w3 w4 := Dr.below hd _
      clear hd
      replace ho := ho.below (hb.mono ho.le)
      replace ot := ot.below (hb.mono ot.le)
      replace sp := sp.below (hb.mono sp.le)
      replace hA := hA.trans (hb.mono hA.size)
      have hz4 := hb.size
      clear hb
      go_wp2_with fail
      refine (iValidParts_any _ _ _ _ _ ho.rd (by omega) (by omega)).mono ?_
      rintro e w5 ⟨rfl, hb⟩
      replace ho := ho.below (hb.mono ho.le)
      replace ot := ot.below (hb.mono ot.le)
      replace sp := sp.below (hb.mono sp.le)
      replace hA := hA.trans (hb.mono hA.size)
      have hz5 := hb.size
      clear hb
      go_wp2_with fail
      refine (sConjugateOf_any _ _ _ _ _ ho.rd (by omega) (by omega)).mono ?_
      rintro e w6 ⟨a_s2, c_s2, rfl, s2, hb⟩
      replace ho := ho.below (hb.mono ho.le)
      replace ot := ot.below (hb.mono ot.le)
      replace sp := sp.below (hb.mono sp.le)
      replace hA := hA.trans (hb.mono hA.size)
      have hz6 := hb.size
      clear hb
      go_wp2_with fail
      refine (equalInts_same _ _ _ _ _ _ _ _ ot.rd s2.rd (by omega)).mono ?_
      rintro e w7 ⟨rfl, hd⟩
      have hb : Below w6.heap.size w6 w7 := Dr.below hd _
      clear hd
      replace ho := ho.below (hb.mono ho.le)
      replace ot := ot.below (hb.mono ot.le)
      replace sp := sp.below (hb.mono sp.le)
      replace s2 := s2.below (hb.mono s2.le)
      replace hA := hA.trans (hb.mono hA.size)
      have hz7 := hb.size
      clear hb
      go_wp2_with fail
      go_ret
      exact ⟨rfl, hA⟩
  · have hl' : 1048576 < bs.length := by omega
    go_enter Try.func7, Try.ntmps7
    go_wp2_with fail
    go_ret
    exact ⟨rfl, Below.refl _ _⟩

theorem own : ownKnob Try.prog.godebug = none := by kernel_rfl
theorem laidOut : laidOutB Try.prog = true := by kernel_rfl

set_option maxRecDepth 100000 in
theorem lifted (os : Os) (started : os.Started) (H : Type) (enc : TypeId × Value → H) :
    ReturnsInHanded {} Try.checked os 7 .any (Rows.fnConjugateOfSpec.pre6 enc Try.prog Try.f7 Rows.fnConjugateOfRow.domain false) (Rows.fnConjugateOfSpec.post enc Try.prog Try.f7 false true false false) := by
  refine returnsInHanded_of_change (C := Try.checked) own started (by kernel_rfl) Try.func7
    (ChangeSpec.witness6 (enc := enc) (C := Try.checked) false ⟨#[], #[.slice none 0 0], []⟩ 8 (by kernel_rfl) (by kernel_rfl) (by kernel_rfl) (by kernel_rfl)) ?_
  intro W base args ds gs before hval0 hW hcnd _
  have hval : ∀ (j : Nat) t v, Try.f7.params[j]? = some t → args[j]? = some v → Value.okWide Try.prog W .any base t v := hval0
  have hW' := hW
  obtain ⟨p, q, hA0, hV, rfl, hfz, hnd⟩ := hW
  have hA : DataW.TrodAll enc Try.prog W 0 (fun _ => true) true Try.f7.params.toList args.toList ds p := hA0
  rw [Try.params7] at hA hval
  obtain ⟨v0, vs0, d0, ds0, p0, q0, hargs, rfl, rfl, h0, r0⟩ := trodAll_cons hA
  obtain ⟨rfl, rfl, rfl⟩ := trodAll_nil r0
  obtain rfl : args = #[v0] := by cases args; simp_all
  obtain ⟨rfl, rfl⟩ := trodVars_none hV
  obtain ⟨a0, len0, cap0, rfl⟩ := okWide_slice Try.underlying22 (hval 0 22 v0 rfl rfl)
  have k0 := h0
  have lt0 : ∀ x ∈ p0, x.block < W.heap.size := by obtain ⟨m, hm⟩ := k0; exact DataW.trod_lt m _ _ _ hm
  obtain ⟨z0, w0⟩ : ∃ zs, IsRow .u8 W a0 len0 cap0 zs := by
    obtain ⟨fuel, hf⟩ := h0
    rcases open_ints Try.underlying22 Try.underlying5 (by kernel_rfl) hf with ⟨hcs, _⟩ | ⟨x, l, c, zs, hcs, _, hl, hm, hz, _, hcell, hwz⟩
    · simp [Value.cells] at hcs
      obtain ⟨rfl, rfl, rfl⟩ := hcs
      exact ⟨[], .inl ⟨rfl, rfl, rfl, rfl⟩⟩
    · simp [Value.cells] at hcs
      obtain ⟨rfl, rfl, rfl⟩ := hcs
      exact ⟨zs, .inr ⟨_, rfl, hl, hm, by simpa using hz, hcell, hwz⟩⟩
  have lc0 := w0.lc
  obtain ⟨L0, rfl, R0, wf0, m0⟩ := w0.rd
  clear hA0 hval0
  refine (walk a0 cap0 L0 W R0 wf0 m0 (by simpa using lc0)).mono fun e W' ⟨he, bel⟩ => ?_
  subst he
  exact ⟨_, rfl, _, _, _, [], _, [], hW', trodAll_mk1 (shut_bool Try.underlying4 _), (trodAll_cons_mk (Below.trod laidOut (by kernel_rfl) (of_decide_eq_true (by kernel_rfl)) k0 bel lt0) trodAll_mk0), rfl, bel.frame _, fun h => by cases h⟩

theorem over : Rows.fnConjugateOfRow.holds Try.pinned (OpenSpec.ofChange Rows.fnConjugateOfSpec) :=
  OpenClaim.holds_of_wide 7 Try.f7 rfl rfl rfl rfl rfl rfl rfl ⟨rfl, rfl, rfl, rfl, rfl⟩ rfl rfl rfl rfl rfl (by kernel_rfl) Try.func7 (by kernel_rfl)
    (of_decide_eq_true (by kernel_rfl)) (by unfold Func.isWrapper; first | (rw [if_pos (by decide +kernel)]; kernel_rfl) | (rw [if_neg (by decide +kernel)]; exact ⟨rfl, rfl⟩))
    (fun os started H enc _ => lifted os started H enc)

/-- the given statement -/
theorem proved : Rows.FnConjugateOfSaid := over
end Go.Proofs.Ytoecggjboiohkaa.fnConjugateOf
