/-
  'laws.FnPartsAt' returns true for every code, and the code reads as it did. No condition.
-/
import Derived.Test.YteglcoalfgjjiaaRows
import Derived.Test.YteglcoalfgjjiaaW19
import Derived.Test.YteglcoalfgjjiaaD7
import Derived.Test.YteglcoalfgjjiaaL1
import Derived.WalkKit
import Derived.ProofKit
import Derived.OpenShut
import Derived.ShutString
import Derived.ChangeOld
import Derived.Below
namespace Go.Proofs.Yteglcoalfgjjiaa.fnPartsAt
open Go.ChangeShapes Go.WideShapes Go.ChangeAt Go.RowKit NP
open Go.ChangeMaps (open_string shut_string)
set_option linter.unusedVariables false

set_option maxHeartbeats 1600000 in
theorem walk (a : Option Addr) (c : Nat) (bs : List Int) (w0 : World) (h : Rd w0 w0.heap.size a (bs.map (Value.int .u8))) (hb : ∀ n ∈ bs, (Lit.int .u8 n).wf = true) (m : bs.length ≤ maxLen) (hc : bs.length ≤ c) :
    Calls Try.prog 6 #[.slice a bs.length c] w0 fun e w' => e = .returned (.bool true) ∧ Below w0.heap.size w0 w' := by
  unfold maxLen at m
  by_cases hl : bs.length ≤ 1048576
  · go_enter Try.func6, Try.ntmps6
    go_wp2_with fail
    refine (DrawPartsAt_any a c _ bs _ h (Nat.le_refl _) hb hl hc).mono ?_
    rintro e w1 ⟨n, k, rfl, hn, hk, hA⟩
    clear h hb hl hc m
    cases ht : patOk n k with
    | true =>
      have HT := Lib.hid ht
      have hpv := pat_valid ht
      have HP : Hid (plcF (patF n k) = k) := Lib.hid (plcF_patF ht)
      have HS : Hid (sumF (patF n k) = n) := Lib.hid (by rw [patF_yes ht, sumF_yes hpv.1, hpv.2.1])
      have hRl := patF_len n k
      obtain ⟨R, hR⟩ : ∃ R, R = patF n k := ⟨_, rfl⟩
      rw [← hR] at HP HS hRl
      have HR := Lib.hid hR
      clear ht hpv hR
      go_wp2_with fail
      refine (iPartsAt_any n k _).mono ?_
      rintro e w2 ⟨a_ot, c_ot, rfl, ot, hb⟩
      replace hA := hA.trans (hb.mono hA.size)
      have hz2 := hb.size
      clear hb
      rw [← HR.out] at ot ⊢
      rw [HT.out]
      go_wp2_with fail
      refine (sPartsAt_any n k _).mono ?_
      rintro e w3 ⟨a_sp, c_sp, rfl, sp, hb⟩
      replace ot := ot.below (hb.mono ot.le)
      replace hA := hA.trans (hb.mono hA.size)
      have hz3 := hb.size
      clear hb
      rw [← HR.out] at sp ⊢
      rw [HT.out]
      go_wp2_with fail
      refine (equalInts_same _ _ _ _ _ _ _ _ ot.rd sp.rd (by omega)).mono ?_
      rintro e w4 ⟨rfl, hd⟩
      have hb : Below w3.heap.size w3 w4 := Dr.below hd _
      clear hd
      replace ot := ot.below (hb.mono ot.le)
      replace sp := sp.below (hb.mono sp.le)
      replace hA := hA.trans (hb.mono hA.size)
      have hz4 := hb.size
      clear hb
      go_wp2_with fail
      refine (iPlaceOf_any _ _ _ R _ ot.rd (by omega) (by omega)).mono ?_
      rintro e w5 ⟨rfl, hb⟩
      replace ot := ot.below (hb.mono ot.le)
      replace sp := sp.below (hb.mono sp.le)
      replace hA := hA.trans (hb.mono hA.size)
      have hz5 := hb.size
      clear hb
      rw [HP.out]
      go_wp2_with fail
      refine (iSumOf_any _ _ _ R _ ot.rd (by omega) (by omega)).mono ?_
      rintro e w6 ⟨rfl, hb⟩
      replace ot := ot.below (hb.mono ot.le)
      replace sp := sp.below (hb.mono sp.le)
      replace hA := hA.trans (hb.mono hA.size)
      have hz6 := hb.size
      clear hb
      rw [HS.out]
      go_wp2_with fail
      go_ret
      exact ⟨rfl, hA⟩
    | false =>
      have HT := Lib.hid ht
      have HR : Hid (patF n k = []) := Lib.hid (patF_no ht)
      have hnl : ([] : List Int).length ≤ 4611686018427387904 := by simp
      clear ht
      go_wp2_with fail
      refine (iPartsAt_any n k _).mono ?_
      rintro e w2 ⟨a_ot, c_ot, rfl, ot, hb⟩
      replace hA := hA.trans (hb.mono hA.size)
      have hz2 := hb.size
      clear hb
      rw [HR.out] at ot ⊢
      rw [HT.out]
      go_wp2_with fail
      refine (sPartsAt_any n k _).mono ?_
      rintro e w3 ⟨a_sp, c_sp, rfl, sp, hb⟩
      replace ot := ot.below (hb.mono ot.le)
      replace hA := hA.trans (hb.mono hA.size)
      have hz3 := hb.size
      clear hb
      rw [HR.out] at sp ⊢
      rw [HT.out]
      go_wp2_with fail
      refine (equalInts_same _ _ _ _ _ _ _ _ ot.rd sp.rd hnl).mono ?_
      rintro e w4 ⟨rfl, hd⟩
      have hb : Below w3.heap.size w3 w4 := Dr.below hd _
      clear hd
      replace ot := ot.below (hb.mono ot.le)
      replace sp := sp.below (hb.mono sp.le)
      replace hA := hA.trans (hb.mono hA.size)
      have hz4 := hb.size
      clear hb
      go_wp2_with fail
      refine (equalInts_same _ _ _ _ _ _ _ _ ot.rd sp.rd hnl).mono ?_
      rintro e w5 ⟨rfl, hd⟩
      have hb : Below w4.heap.size w4 w5 := Dr.below hd _
      clear hd
      replace ot := ot.below (hb.mono ot.le)
      replace sp := sp.below (hb.mono sp.le)
      replace hA := hA.trans (hb.mono hA.size)
      have hz5 := hb.size
      clear hb
      go_wp2_with fail
      go_ret
      exact ⟨rfl, hA⟩
  · have hl' : 1048576 < bs.length := by omega
    go_enter Try.func6, Try.ntmps6
    go_wp2_with fail
    go_ret
    exact ⟨rfl, Below.refl _ _⟩

theorem own : ownKnob Try.prog.godebug = none := by kernel_rfl
theorem laidOut : laidOutB Try.prog = true := by kernel_rfl

set_option maxRecDepth 100000 in
theorem lifted (os : Os) (started : os.Started) (H : Type) (enc : TypeId × Value → H) :
    ReturnsInHanded {} Try.checked os 6 .any (Rows.fnPartsAtSpec.pre6 enc Try.prog Try.f6 Rows.fnPartsAtRow.domain false) (Rows.fnPartsAtSpec.post enc Try.prog Try.f6 false true false false) := by
  refine returnsInHanded_of_change (C := Try.checked) own started (by kernel_rfl) Try.func6
    (ChangeSpec.witness6 (enc := enc) (C := Try.checked) false ⟨#[], #[.slice none 0 0], []⟩ 8 (by kernel_rfl) (by kernel_rfl) (by kernel_rfl) (by kernel_rfl)) ?_
  intro W base args ds gs before hval0 hW hcnd _
  have hval : ∀ (j : Nat) t v, Try.f6.params[j]? = some t → args[j]? = some v → Value.okWide Try.prog W .any base t v := hval0
  have hW' := hW
  obtain ⟨p, q, hA0, hV, rfl, hfz, hnd⟩ := hW
  have hA : DataW.TrodAll enc Try.prog W 0 (fun _ => true) true Try.f6.params.toList args.toList ds p := hA0
  rw [Try.params6] at hA hval
  obtain ⟨v0, vs0, d0, ds0, p0, q0, hargs, rfl, rfl, h0, r0⟩ := trodAll_cons hA
  obtain ⟨rfl, rfl, rfl⟩ := trodAll_nil r0
  obtain rfl : args = #[v0] := by cases args; simp_all
  obtain ⟨rfl, rfl⟩ := trodVars_none hV
  obtain ⟨a0, len0, cap0, rfl⟩ := okWide_slice Try.underlying27 (hval 0 27 v0 rfl rfl)
  have k0 := h0
  have lt0 : ∀ x ∈ p0, x.block < W.heap.size := by obtain ⟨m, hm⟩ := k0; exact DataW.trod_lt m _ _ _ hm
  obtain ⟨z0, w0⟩ : ∃ zs, IsRow .u8 W a0 len0 cap0 zs := by
    obtain ⟨fuel, hf⟩ := h0
    rcases open_ints Try.underlying27 Try.underlying5 (by kernel_rfl) hf with ⟨hcs, _⟩ | ⟨x, l, c, zs, hcs, _, hl, hm, hz, _, hcell, hwz⟩
    · simp [Value.cells] at hcs
      obtain ⟨rfl, rfl, rfl⟩ := hcs
      exact ⟨[], .inl ⟨rfl, rfl, rfl, rfl⟩⟩
    · simp [Value.cells] at hcs
      obtain ⟨rfl, rfl, rfl⟩ := hcs
      exact ⟨zs, .inr ⟨_, rfl, hl, hm, by simpa using hz, hcell, hwz⟩⟩
  have lc0 := w0.lc
  obtain ⟨L0, rfl, R0, wf0, m0⟩ := w0.rd
  clear hA0 hval0
  refine (walk a0 cap0 L0 W R0 wf0 m0 (by simpa using lc0)).mono fun e W' ⟨he, bel⟩ => ?_
  subst he
  exact ⟨_, rfl, _, _, _, [], _, [], hW', trodAll_mk1 (shut_bool Try.underlying4 _), (trodAll_cons_mk (Below.trod laidOut (by kernel_rfl) (of_decide_eq_true (by kernel_rfl)) k0 bel lt0) trodAll_mk0), rfl, bel.frame _, fun h => by cases h⟩

theorem over : Rows.fnPartsAtRow.holds Try.pinned (OpenSpec.ofChange Rows.fnPartsAtSpec) :=
  OpenClaim.holds_of_wide 6 Try.f6 rfl rfl rfl rfl rfl rfl rfl ⟨rfl, rfl, rfl, rfl, rfl⟩ rfl rfl rfl rfl rfl (by kernel_rfl) Try.func6 (by kernel_rfl)
    (of_decide_eq_true (by kernel_rfl)) (by unfold Func.isWrapper; first | (rw [if_pos (by decide +kernel)]; kernel_rfl) | (rw [if_neg (by decide +kernel)]; exact ⟨rfl, rfl⟩))
    (fun os started H enc _ => lifted os started H enc)

/-- the given statement -/
theorem proved : Rows.FnPartsAtSaid := over
end Go.Proofs.Yteglcoalfgjjiaa.fnPartsAt
