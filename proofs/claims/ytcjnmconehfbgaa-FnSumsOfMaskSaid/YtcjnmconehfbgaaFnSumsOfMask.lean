/-
  'laws.FnSumsOfMask' returns true for every code, and the code reads as it did. No condition.
-/
import Derived.Test.YtcjnmconehfbgaaRows
import Derived.Test.YtcjnmconehfbgaaD29
import Derived.Test.YtcjnmconehfbgaaW67
import Derived.Test.YtcjnmconehfbgaaW69
import Derived.Test.YtcjnmconehfbgaaM34
import Derived.WalkKit
import Derived.ProofKit
import Derived.OpenShut
import Derived.ShutString
import Derived.ChangeOld
import Derived.Below
namespace Go.Proofs.Ytcjnmconehfbgaa.fnSumsOfMask
open Go.ChangeShapes Go.WideShapes Go.ChangeAt Go.RowKit NP
open Go.ChangeMaps (open_string shut_string)
set_option linter.unusedVariables false

set_option linter.unusedSimpArgs false
set_option maxRecDepth 100000 in
set_option maxHeartbeats 4000000 in
theorem walk (a : Option Addr) (c : Nat) (bs : List Int) (w0 : World) (h : Rd w0 w0.heap.size a (bs.map (Value.int .u8))) (hb : ∀ n ∈ bs, (Lit.int .u8 n).wf = true) (m : bs.length ≤ maxLen) (hc : bs.length ≤ c) :
    Calls Try.prog 12 #[.slice a bs.length c] w0 fun e w' => e = .returned (.bool true) ∧ Below w0.heap.size w0 w' := by
  unfold maxLen at m
  by_cases hl : bs.length ≤ 1048576
  · go_enter Try.func12, Try.ntmps12
    go_wp2_with fail
    refine (DrawSumsOfMask_any a c _ bs _ h (Nat.le_refl _) hb hl hc).mono ?_
    rintro e w1 ⟨nn, mm, rfl, hn, hm, hA⟩
    clear h hb hl hc m
    obtain ⟨R, hR⟩ : ∃ R, smkF nn mm = R := ⟨_, rfl⟩
    have hRl : R.length ≤ 16 := hR ▸ smkF_len nn mm
    have HR := Lib.hid hR
    clear hR
    cases hok : smOk nn mm with
    | false =>
      have HOK := Lib.hid hok
      clear hok
      go_wp2_with fail
      refine (iSumsOfMask_any nn mm _).mono ?_
      rintro e w2 ⟨ag, cg, rfl, g0, hb⟩
      replace hA := hA.trans (hb.mono hA.size)
      have hz2 := hb.size
      clear hb
      rw [HR.out] at g0 ⊢
      rw [HOK.out]
      go_wp2_with fail
      refine (sSumsOfMask_any nn mm _).mono ?_
      rintro e w3 ⟨ar, cr, rfl, s0, hb⟩
      replace g0 := g0.below (hb.mono g0.le)
      replace hA := hA.trans (hb.mono hA.size)
      have hz3 := hb.size
      clear hb
      rw [HR.out] at s0 ⊢
      rw [HOK.out]
      go_wp2_with fail
      refine (equalInts_same _ _ _ _ _ _ _ _ g0.rd s0.rd (by omega)).mono ?_
      rintro e w4 ⟨rfl, hd⟩
      have hb : Below w3.heap.size w3 w4 := hd.below _
      clear hd
      replace g0 := g0.below (hb.mono g0.le)
      replace s0 := s0.below (hb.mono s0.le)
      replace hA := hA.trans (hb.mono hA.size)
      have hz4 := hb.size
      clear hb
      go_wp2_with fail
      refine (equalInts_same _ _ _ _ _ _ _ _ g0.rd s0.rd (by omega)).mono ?_
      rintro e w5 ⟨rfl, hd⟩
      have hb : Below w4.heap.size w4 w5 := hd.below _
      clear hd
      replace g0 := g0.below (hb.mono g0.le)
      replace s0 := s0.below (hb.mono s0.le)
      replace hA := hA.trans (hb.mono hA.size)
      have hz5 := hb.size
      clear hb
      go_wp2_with fail
      go_ret
      exact ⟨rfl, hA⟩
    | true =>
      have HOK := Lib.hid hok
      obtain ⟨k1, k2, k3, k4⟩ := smOk_iff.1 hok
      have hRe : smk nn.toNat mm.toNat = R := by rw [← HR.out, smkF_yes hok]
      have hv : vsm R = true := by rw [← hRe]; exact smk_ok _ (by omega)
      have hmk : mkF R = mm := by
        rw [mkF_yes hv, ← hRe, mkN_smk (by omega)]
        omega
      have hsu : sumL R = nn := by rw [← hRe, smk_sum]; omega
      have HF := Lib.hid (vsm_sumFits hv)
      have HMK := Lib.hid hmk
      have HSU := Lib.hid hsu
      clear hok k1 k2 k3 k4 hRe hv hmk hsu
      go_wp2_with fail
      refine (iSumsOfMask_any nn mm _).mono ?_
      rintro e w2 ⟨ag, cg, rfl, g0, hb⟩
      replace hA := hA.trans (hb.mono hA.size)
      have hz2 := hb.size
      clear hb
      rw [HR.out] at g0 ⊢
      rw [HOK.out]
      go_wp2_with fail
      refine (sSumsOfMask_any nn mm _).mono ?_
      rintro e w3 ⟨ar, cr, rfl, s0, hb⟩
      replace g0 := g0.below (hb.mono g0.le)
      replace hA := hA.trans (hb.mono hA.size)
      have hz3 := hb.size
      clear hb
      rw [HR.out] at s0 ⊢
      rw [HOK.out]
      go_wp2_with fail
      refine (equalInts_same _ _ _ _ _ _ _ _ g0.rd s0.rd (by omega)).mono ?_
      rintro e w4 ⟨rfl, hd⟩
      have hb : Below w3.heap.size w3 w4 := hd.below _
      clear hd
      replace g0 := g0.below (hb.mono g0.le)
      replace s0 := s0.below (hb.mono s0.le)
      replace hA := hA.trans (hb.mono hA.size)
      have hz4 := hb.size
      clear hb
      go_wp2_with fail
      refine (iMaskOf_any _ _ _ R _ g0.rd g0.le (by omega)).mono ?_
      rintro e w5 ⟨rfl, hb⟩
      replace g0 := g0.below (hb.mono g0.le)
      replace s0 := s0.below (hb.mono s0.le)
      replace hA := hA.trans (hb.mono hA.size)
      have hz5 := hb.size
      clear hb
      rw [HMK.out]
      go_wp2_with fail
      refine (total_any _ _ _ R _ g0.rd HF.out (by omega)).mono ?_
      rintro e w' ⟨rfl, rfl⟩
      rw [HSU.out]
      go_wp2_with fail
      go_ret
      exact ⟨rfl, hA⟩
  · have hl' : 1048576 < bs.length := by omega
    go_enter Try.func12, Try.ntmps12
    go_wp2_with fail
    go_ret
    exact ⟨rfl, Below.refl _ _⟩

theorem own : ownKnob Try.prog.godebug = none := by kernel_rfl
theorem laidOut : laidOutB Try.prog = true := by kernel_rfl

set_option maxRecDepth 100000 in
theorem lifted (os : Os) (started : os.Started) (H : Type) (enc : TypeId × Value → H) :
    ReturnsInHanded {} Try.checked os 12 .any (Rows.fnSumsOfMaskSpec.pre6 enc Try.prog Try.f12 Rows.fnSumsOfMaskRow.domain false) (Rows.fnSumsOfMaskSpec.post enc Try.prog Try.f12 false true false false) := by
  refine returnsInHanded_of_change (C := Try.checked) own started (by kernel_rfl) Try.func12
    (ChangeSpec.witness6 (enc := enc) (C := Try.checked) false ⟨#[], #[.slice none 0 0], []⟩ 8 (by kernel_rfl) (by kernel_rfl) (by kernel_rfl) (by kernel_rfl)) ?_
  intro W base args ds gs before hval0 hW hcnd _
  have hval : ∀ (j : Nat) t v, Try.f12.params[j]? = some t → args[j]? = some v → Value.okWide Try.prog W .any base t v := hval0
  have hW' := hW
  obtain ⟨p, q, hA0, hV, rfl, hfz, hnd⟩ := hW
  have hA : DataW.TrodAll enc Try.prog W 0 (fun _ => true) true Try.f12.params.toList args.toList ds p := hA0
  rw [Try.params12] at hA hval
  obtain ⟨v0, vs0, d0, ds0, p0, q0, hargs, rfl, rfl, h0, r0⟩ := trodAll_cons hA
  obtain ⟨rfl, rfl, rfl⟩ := trodAll_nil r0
  obtain rfl : args = #[v0] := by cases args; simp_all
  obtain ⟨rfl, rfl⟩ := trodVars_none hV
  obtain ⟨a0, len0, cap0, rfl⟩ := okWide_slice Try.underlying27 (hval 0 27 v0 rfl rfl)
  have k0 := h0
  have lt0 : ∀ x ∈ p0, x.block < W.heap.size := by obtain ⟨m, hm⟩ := k0; exact DataW.trod_lt m _ _ _ hm
  obtain ⟨z0, w0⟩ : ∃ zs, IsRow .u8 W a0 len0 cap0 zs := by
    obtain ⟨fuel, hf⟩ := h0
    rcases open_ints Try.underlying27 Try.underlying5 (by kernel_rfl) hf with ⟨hcs, _⟩ | ⟨x, l, c, zs, hcs, _, hl, hm, hz, _, hcell, hwz⟩
    · simp [Value.cells] at hcs
      obtain ⟨rfl, rfl, rfl⟩ := hcs
      exact ⟨[], .inl ⟨rfl, rfl, rfl, rfl⟩⟩
    · simp [Value.cells] at hcs
      obtain ⟨rfl, rfl, rfl⟩ := hcs
      exact ⟨zs, .inr ⟨_, rfl, hl, hm, by simpa using hz, hcell, hwz⟩⟩
  have lc0 := w0.lc
  obtain ⟨L0, rfl, R0, wf0, m0⟩ := w0.rd
  clear hA0 hval0
  refine (walk a0 cap0 L0 W R0 wf0 m0 (by simpa using lc0)).mono fun e W' ⟨he, bel⟩ => ?_
  subst he
  exact ⟨_, rfl, _, _, _, [], _, [], hW', trodAll_mk1 (shut_bool Try.underlying4 _), (trodAll_cons_mk (Below.trod laidOut (by kernel_rfl) (of_decide_eq_true (by kernel_rfl)) k0 bel lt0) trodAll_mk0), rfl, bel.frame _, fun h => by cases h⟩

theorem over : Rows.fnSumsOfMaskRow.holds Try.pinned (OpenSpec.ofChange Rows.fnSumsOfMaskSpec) :=
  OpenClaim.holds_of_wide 12 Try.f12 rfl rfl rfl rfl rfl rfl rfl ⟨rfl, rfl, rfl, rfl, rfl⟩ rfl rfl rfl rfl rfl (by kernel_rfl) Try.func12 (by kernel_rfl)
    (of_decide_eq_true (by kernel_rfl)) (by unfold Func.isWrapper; first | (rw [if_pos (by decide +kernel)]; kernel_rfl) | (rw [if_neg (by decide +kernel)]; exact ⟨rfl, rfl⟩))
    (fun os started H enc _ => lifted os started H enc)

/-- the given statement -/
theorem proved : Rows.FnSumsOfMaskSaid := over
end Go.Proofs.Ytcjnmconehfbgaa.fnSumsOfMask
