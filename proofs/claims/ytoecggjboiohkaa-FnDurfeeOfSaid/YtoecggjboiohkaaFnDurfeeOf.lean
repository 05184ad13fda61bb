/-
  'laws.FnDurfeeOf' returns true for every code, and the code reads as it did. No condition.
-/
import Derived.Test.YtoecggjboiohkaaRows
import Derived.Test.YtoecggjboiohkaaW4
import Derived.Test.YtoecggjboiohkaaD3
import Derived.WalkKit
import Derived.ProofKit
import Derived.OpenShut
import Derived.ShutString
import Derived.ChangeOld
import Derived.Below
namespace Go.Proofs.Ytoecggjboiohkaa.fnDurfeeOf
open Go.ChangeShapes Go.WideShapes Go.ChangeAt Go.RowKit NP
open Go.ChangeMaps (open_string shut_string)
set_option linter.unusedVariables false

theorem walk (a : Option Addr) (c : Nat) (bs : List Int) (w0 : World) (h : Rd w0 w0.heap.size a (bs.map (Value.int .u8))) (hb : ∀ n ∈ bs, (Lit.int .u8 n).wf = true) (m : bs.length ≤ maxLen) (hc : bs.length ≤ c) :
    Calls Try.prog 9 #[.slice a bs.length c] w0 fun e w' => e = .returned (.bool true) ∧ Below w0.heap.size w0 w' := by
  unfold maxLen at m
  by_cases hl : bs.length ≤ 1048576
  · go_enter Try.func9, Try.ntmps9
    go_wp2_with fail
    refine (DrawDurfeeOf_any a c _ bs _ h (Nat.le_refl _) hb hl hc).mono ?_
    rintro e w1 ⟨a1, c1, M, rfl, ho, hs, hA⟩
    have hM := hs.1
    clear h hb hl hc m
    cases hv : valid M with
    | true =>
      have hE : durF (conjF M) = durF M := by rw [conjF_yes hv, durF_yes (valid_conj hv), durF_yes hv, durS_conj hv]
      have hCl := conjF_len M
      have hF := valid_fits hv
      have hb := valid_bd hv
      have hd1 := durF_yes hv
      have hsq := durS_sq hv
      have hpos := durS_pos hv
      have hds := (durS_spec M).1
      obtain ⟨sq, hsq0, hsq1, e1, e2⟩ : ∃ sq : Int, (0 ≤ sq ∧ sq ≤ 16) ∧ sq ≤ sumL M ∧ wrap64 (durF M * durF M) = sq ∧ IntKind.i64.wrap (durF M * durF M) = sq := by
        have h0 : 0 ≤ durF M * durF M := by rw [hd1]; exact Int.mul_nonneg (by omega) (by omega)
        rw [← hd1] at hsq
        refine ⟨durF M * durF M, by omega, hsq, ?_, ?_⟩
        · exact IntWalk.wrap64_in _ (by omega)
        · exact IntWalk.i64_in _ (by omega)
      have hd16 : 0 ≤ durF M ∧ durF M ≤ 16 := by rw [hd1]; omega
      have hpos' : Hid (0 < durF M ↔ 0 < M.length) := Lib.hid (by rw [hd1]; omega)
      have HV := Lib.hid hv
      clear hd1 hpos hsq hds hb
      go_wp2_with fail
      refine (iDurfeeOf_any _ _ _ _ _ ho.rd (by omega) (by omega)).mono ?_
      rintro e w2 ⟨rfl, hb⟩
      replace ho := ho.below (hb.mono ho.le)
      replace hA := hA.trans (hb.mono hA.size)
      have hz2 := hb.size
      clear hb
      go_wp2_with fail
      refine (sDurfeeOf_any _ _ _ _ _ ho.rd (by omega)).mono ?_
      rintro e w3 ⟨rfl, hd⟩
      have hb : Below w2.heap.size w2 w3 := Dr.below hd _
      clear hd
      replace ho := ho.below (hb.mono ho.le)
      replace hA := hA.trans (hb.mono hA.size)
      have hz3 := hb.size
      clear hb
      go_wp2_with fail
      refine (iValidParts_any _ _ _ _ _ ho.rd (by omega) (by omega)).mono ?_
      rintro e w4 ⟨rfl, hb⟩
      replace ho := ho.below (hb.mono ho.le)
      replace hA := hA.trans (hb.mono hA.size)
      have hz4 := hb.size
      clear hb
      go_wp2_with fail
      refine (iConjugateOf_any _ _ _ _ _ ho.rd (by omega) (by omega)).mono ?_
      rintro e w5 ⟨a_cj, c_cj, rfl, cj, hb⟩
      replace ho := ho.below (hb.mono ho.le)
      replace hA := hA.trans (hb.mono hA.size)
      have hz5 := hb.size
      clear hb
      go_wp2_with fail
      refine (iDurfeeOf_any _ _ _ _ _ cj.rd (by omega) (by omega)).mono ?_
      rintro e w6 ⟨rfl, hb⟩
      replace ho := ho.below (hb.mono ho.le)
      replace cj := cj.below (hb.mono cj.le)
      replace hA := hA.trans (hb.mono hA.size)
      have hz6 := hb.size
      clear hb
      rw [hE]
      clear hE
      by_cases hM1 : 0 < M.length
      · have hp : 0 < durF M := hpos'.out.2 hM1
        have e3 : decide (0 < durF M) = true := decide_eq_true hp
        have e4 : decide (0 < M.length) = true := decide_eq_true hM1
        clear hv
        go_wp2_with fail
        refine (total_any _ _ _ _ _ ho.rd hF (by omega)).mono ?_
        rintro e w' ⟨rfl, rfl⟩
        go_wp2_with fail
        go_ret
        exact ⟨rfl, hA⟩
      · have hp : ¬ 0 < durF M := fun h => hM1 (hpos'.out.1 h)
        have hp' : durF M ≤ 0 := by omega
        have e3 : decide (0 < durF M) = false := decide_eq_false hp
        have e4 : decide (0 < M.length) = false := decide_eq_false hM1
        clear hv
        go_wp2_with fail
        refine (total_any _ _ _ _ _ ho.rd hF (by omega)).mono ?_
        rintro e w' ⟨rfl, rfl⟩
        go_wp2_with fail
        go_ret
        exact ⟨rfl, hA⟩
    | false =>
      go_wp2_with fail
      refine (iDurfeeOf_any _ _ _ _ _ ho.rd (by omega) (by omega)).mono ?_
      rintro e w2 ⟨rfl, hb⟩
      replace ho := ho.below (hb.mono ho.le)
      replace hA := hA.trans (hb.mono hA.size)
      have hz2 := hb.size
      clear hb
      go_wp2_with fail
      refine (sDurfeeOf_any _ _ _ _ _ ho.rd (by omega)).mono ?_
      rintro e w3 ⟨rfl, hd⟩
      have hb : Below w2.heap.size w2 w3 := Dr.below hd _
      clear hd
      replace ho := ho.below (hb.mono ho.le)
      replace hA := hA.trans (hb.mono hA.size)
      have hz3 := hb.size
      clear hb
      go_wp2_with fail
      refine (iValidParts_any _ _ _ _ _ ho.rd (by omega) (by omega)).mono ?_
      rintro e w4 ⟨rfl, hb⟩
      replace ho := ho.below (hb.mono ho.le)
      replace hA := hA.trans (hb.mono hA.size)
      have hz4 := hb.size
      clear hb
      go_wp2_with fail
      refine (sDurfeeOf_any _ _ _ _ _ ho.rd (by omega)).mono ?_
      rintro e w5 ⟨rfl, hd⟩
      have hb : Below w4.heap.size w4 w5 := Dr.below hd _
      clear hd
      replace ho := ho.below (hb.mono ho.le)
      replace hA := hA.trans (hb.mono hA.size)
      have hz5 := hb.size
      clear hb
      go_wp2_with fail
      go_ret
      exact ⟨rfl, hA⟩
  · have hl' : 1048576 < bs.length := by omega
    go_enter Try.func9, Try.ntmps9
    go_wp2_with fail
    go_ret
    exact ⟨rfl, Below.refl _ _⟩

theorem own : ownKnob Try.prog.godebug = none := by kernel_rfl
theorem laidOut : laidOutB Try.prog = true := by kernel_rfl

set_option maxRecDepth 100000 in
theorem lifted (os : Os) (started : os.Started) (H : Type) (enc : TypeId × Value → H) :
    ReturnsInHanded {} Try.checked os 9 .any (Rows.fnDurfeeOfSpec.pre6 enc Try.prog Try.f9 Rows.fnDurfeeOfRow.domain false) (Rows.fnDurfeeOfSpec.post enc Try.prog Try.f9 false true false false) := by
  refine returnsInHanded_of_change (C := Try.checked) own started (by kernel_rfl) Try.func9
    (ChangeSpec.witness6 (enc := enc) (C := Try.checked) false ⟨#[], #[.slice none 0 0], []⟩ 8 (by kernel_rfl) (by kernel_rfl) (by kernel_rfl) (by kernel_rfl)) ?_
  intro W base args ds gs before hval0 hW hcnd _
  have hval : ∀ (j : Nat) t v, Try.f9.params[j]? = some t → args[j]? = some v → Value.okWide Try.prog W .any base t v := hval0
  have hW' := hW
  obtain ⟨p, q, hA0, hV, rfl, hfz, hnd⟩ := hW
  have hA : DataW.TrodAll enc Try.prog W 0 (fun _ => true) true Try.f9.params.toList args.toList ds p := hA0
  rw [Try.params9] at hA hval
  obtain ⟨v0, vs0, d0, ds0, p0, q0, hargs, rfl, rfl, h0, r0⟩ := trodAll_cons hA
  obtain ⟨rfl, rfl, rfl⟩ := trodAll_nil r0
  obtain rfl : args = #[v0] := by cases args; simp_all
  obtain ⟨rfl, rfl⟩ := trodVars_none hV
  obtain ⟨a0, len0, cap0, rfl⟩ := okWide_slice Try.underlying22 (hval 0 22 v0 rfl rfl)
  have k0 := h0
  have lt0 : ∀ x ∈ p0, x.block < W.heap.size := by obtain ⟨m, hm⟩ := k0; exact DataW.trod_lt m _ _ _ hm
  obtain ⟨z0, w0⟩ : ∃ zs, IsRow .u8 W a0 len0 cap0 zs := by
    obtain ⟨fuel, hf⟩ := h0
    rcases open_ints Try.underlying22 Try.underlying5 (by kernel_rfl) hf with ⟨hcs, _⟩ | ⟨x, l, c, zs, hcs, _, hl, hm, hz, _, hcell, hwz⟩
    · simp [Value.cells] at hcs
      obtain ⟨rfl, rfl, rfl⟩ := hcs
      exact ⟨[], .inl ⟨rfl, rfl, rfl, rfl⟩⟩
    · simp [Value.cells] at hcs
      obtain ⟨rfl, rfl, rfl⟩ := hcs
      exact ⟨zs, .inr ⟨_, rfl, hl, hm, by simpa using hz, hcell, hwz⟩⟩
  have lc0 := w0.lc
  obtain ⟨L0, rfl, R0, wf0, m0⟩ := w0.rd
  clear hA0 hval0
  refine (walk a0 cap0 L0 W R0 wf0 m0 (by simpa using lc0)).mono fun e W' ⟨he, bel⟩ => ?_
  subst he
  exact ⟨_, rfl, _, _, _, [], _, [], hW', trodAll_mk1 (shut_bool Try.underlying4 _), (trodAll_cons_mk (Below.trod laidOut (by kernel_rfl) (of_decide_eq_true (by kernel_rfl)) k0 bel lt0) trodAll_mk0), rfl, bel.frame _, fun h => by cases h⟩

theorem over : Rows.fnDurfeeOfRow.holds Try.pinned (OpenSpec.ofChange Rows.fnDurfeeOfSpec) :=
  OpenClaim.holds_of_wide 9 Try.f9 rfl rfl rfl rfl rfl rfl rfl ⟨rfl, rfl, rfl, rfl, rfl⟩ rfl rfl rfl rfl rfl (by kernel_rfl) Try.func9 (by kernel_rfl)
    (of_decide_eq_true (by kernel_rfl)) (by unfold Func.isWrapper; first | (rw [if_pos (by decide +kernel)]; kernel_rfl) | (rw [if_neg (by decide +kernel)]; exact ⟨rfl, rfl⟩))
    (fun os started H enc _ => lifted os started H enc)

/-- the given statement -/
theorem proved : Rows.FnDurfeeOfSaid := over
end Go.Proofs.Ytoecggjboiohkaa.fnDurfeeOf
