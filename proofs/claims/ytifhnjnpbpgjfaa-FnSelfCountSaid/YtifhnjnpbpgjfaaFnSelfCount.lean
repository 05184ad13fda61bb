/-
  'laws.FnSelfCount' returns true for every code, and the code reads as it did. No condition.
-/
import Derived.Test.YtifhnjnpbpgjfaaRows
import Derived.Test.YtifhnjnpbpgjfaaZk1
import Derived.Test.YtifhnjnpbpgjfaaZk2
import Derived.Test.YtifhnjnpbpgjfaaZk3
import Derived.Test.YtifhnjnpbpgjfaaZk4
import Derived.Test.YtifhnjnpbpgjfaaZk5
import Derived.Test.YtifhnjnpbpgjfaaZk6
import Derived.Test.YtifhnjnpbpgjfaaZk7
import Derived.Test.YtifhnjnpbpgjfaaZk8
import Derived.Test.YtifhnjnpbpgjfaaZk9
import Derived.WalkKit
import Derived.ProofKit
import Derived.OpenShut
import Derived.ShutString
import Derived.ChangeOld
import Derived.Below
namespace Go.Proofs.Ytifhnjnpbpgjfaa.fnSelfCount
open Go.ChangeShapes Go.WideShapes Go.ChangeAt Go.RowKit NP
open Go.ChangeMaps (open_string shut_string)
set_option linter.unusedVariables false

set_option linter.unusedSimpArgs false
set_option maxRecDepth 100000 in
set_option maxHeartbeats 4000000 in
theorem walk (a : Option Addr) (c : Nat) (bs : List Int) (w0 : World) (h : Rd w0 w0.heap.size a (bs.map (Value.int .u8))) (hb : ∀ n ∈ bs, (Lit.int .u8 n).wf = true) (m : bs.length ≤ maxLen) (hc : bs.length ≤ c) :
    Calls Try.prog 4 #[.slice a bs.length c] w0 fun e w' => e = .returned (.bool true) ∧ Below w0.heap.size w0 w' := by
  unfold maxLen at m
  by_cases hl : bs.length ≤ 1048576
  · go_enter Try.func4, Try.ntmps4
    go_wp2_with fail
    refine (DrawSelfCount_any a c _ bs _ h (Nat.le_refl _) hb hl hc).mono ?_
    rintro e w1 ⟨n, rfl, hn, hA⟩
    clear h hb hl hc m
    by_cases hin : 0 ≤ n ∧ n ≤ 40
    · obtain ⟨m, rfl⟩ := Int.eq_ofNat_of_zero_le hin.1
      have hm : m ≤ 40 := by omega
      obtain ⟨s, hs⟩ : ∃ s, scF (m : Int) = s := ⟨_, rfl⟩
      have hs0 : 0 ≤ s := by rw [← hs, scF_T m hm]; omega
      have g0 : decide (s < 0) = false := decide_eq_false (by omega)
      have HS := Lib.hid hs
      clear hin hs
      go_wp2_with fail
      refine (iSelfCount_any (m : Int) _).mono ?_
      rintro e w2 ⟨rfl, hb⟩
      replace hA := hA.trans (hb.mono hA.size)
      have hz2 := hb.size
      clear hb
      rw [HS.out]
      go_wp2_with fail
      refine (sSelfCount_any (m : Int) _).mono ?_
      rintro e w' ⟨rfl, rfl⟩
      rw [HS.out]
      have HQ : Hid (cntF true (rsL 2 ((m + 1) / 2)) (m : Int) = s) := Lib.hid ((sc_cnt m hm).trans HS.out)
      have hrl := rsL_len 2 ((m + 1) / 2)
      have hr40 : (rsL 2 ((m + 1) / 2)).length ≤ 40 := by omega
      clear hrl
      by_cases h12 : 12 < m
      · have d12 : decide (12 < m) = true := decide_eq_true h12
        have d12i : (12 : Int) < (m : Int) := by omega
        clear h12
        go_wp2_with fail
        refine (rising2_any m ((m + 1) / 2) hm rfl _).mono ?_
        rintro e w3 ⟨aS, cS, rfl, oS, hb⟩
        replace hA := hA.trans (hb.mono hA.size)
        have hz3 := hb.size
        clear hb
        go_wp2_with fail
        refine (iCountOnce_any aS cS _ (rsL 2 ((m + 1) / 2)) (m : Int) _ oS.rd oS.le (by omega)).mono ?_
        rintro e w4 ⟨rfl, hb⟩
        replace oS := oS.below (hb.mono oS.le)
        replace hA := hA.trans (hb.mono hA.size)
        have hz4 := hb.size
        clear hb
        rw [HQ.out]
        go_wp2_with fail
        go_ret
        exact ⟨rfl, hA⟩
      · have d12 : decide (12 < m) = false := decide_eq_false h12
        have d12i : ¬ (12 : Int) < (m : Int) := by omega
        have HKC : Hid (kcF (⟨#[115, 101, 108, 102]⟩ : ByteArray).data.toList (m : Int) = s) := Lib.hid ((self_cnt m (by omega)).trans HS.out)
        clear h12
        go_wp2_with fail
        refine (rising2_any m ((m + 1) / 2) hm rfl _).mono ?_
        rintro e w3 ⟨aS, cS, rfl, oS, hb⟩
        replace hA := hA.trans (hb.mono hA.size)
        have hz3 := hb.size
        clear hb
        go_wp2_with fail
        refine (iCountOnce_any aS cS _ (rsL 2 ((m + 1) / 2)) (m : Int) _ oS.rd oS.le (by omega)).mono ?_
        rintro e w4 ⟨rfl, hb⟩
        replace oS := oS.below (hb.mono oS.le)
        replace hA := hA.trans (hb.mono hA.size)
        have hz4 := hb.size
        clear hb
        rw [HQ.out]
        go_wp2_with fail
        refine (iKindCount_any ⟨#[115, 101, 108, 102]⟩ (by decide) (m : Int) _).mono ?_
        rintro e w5 ⟨rfl, hb⟩
        replace oS := oS.below (hb.mono oS.le)
        replace hA := hA.trans (hb.mono hA.size)
        have hz5 := hb.size
        clear hb
        rw [HKC.out]
        go_wp2_with fail
        go_ret
        exact ⟨rfl, hA⟩
    · have hF : scF n = -1 := by unfold scF; rw [if_neg hin]
      have HF := Lib.hid hF
      have g0 : decide ((-1 : Int) < 0) = true := by decide
      clear hin hF
      go_wp2_with fail
      refine (iSelfCount_any n _).mono ?_
      rintro e w2 ⟨rfl, hb⟩
      replace hA := hA.trans (hb.mono hA.size)
      have hz2 := hb.size
      clear hb
      rw [HF.out]
      go_wp2_with fail
      refine (sSelfCount_any n _).mono ?_
      rintro e w' ⟨rfl, rfl⟩
      rw [HF.out]
      go_wp2_with fail
      refine (sSelfCount_any n _).mono ?_
      rintro e w' ⟨rfl, rfl⟩
      rw [HF.out]
      go_wp2_with fail
      go_ret
      exact ⟨rfl, hA⟩
  · have hl' : 1048576 < bs.length := by omega
    go_enter Try.func4, Try.ntmps4
    go_wp2_with fail
    go_ret
    exact ⟨rfl, Below.refl _ _⟩

theorem own : ownKnob Try.prog.godebug = none := by kernel_rfl
theorem laidOut : laidOutB Try.prog = true := by kernel_rfl

set_option maxRecDepth 100000 in
theorem lifted (os : Os) (started : os.Started) (H : Type) (enc : TypeId × Value → H) :
    ReturnsInHanded {} Try.checked os 4 .any (Rows.fnSelfCountSpec.pre6 enc Try.prog Try.f4 Rows.fnSelfCountRow.domain false) (Rows.fnSelfCountSpec.post enc Try.prog Try.f4 false true false false) := by
  refine returnsInHanded_of_change (C := Try.checked) own started (by kernel_rfl) Try.func4
    (ChangeSpec.witness6 (enc := enc) (C := Try.checked) false ⟨#[], #[.slice none 0 0], []⟩ 8 (by kernel_rfl) (by kernel_rfl) (by kernel_rfl) (by kernel_rfl)) ?_
  intro W base args ds gs before hval0 hW hcnd _
  have hval : ∀ (j : Nat) t v, Try.f4.params[j]? = some t → args[j]? = some v → Value.okWide Try.prog W .any base t v := hval0
  have hW' := hW
  obtain ⟨p, q, hA0, hV, rfl, hfz, hnd⟩ := hW
  have hA : DataW.TrodAll enc Try.prog W 0 (fun _ => true) true Try.f4.params.toList args.toList ds p := hA0
  rw [Try.params4] at hA hval
  obtain ⟨v0, vs0, d0, ds0, p0, q0, hargs, rfl, rfl, h0, r0⟩ := trodAll_cons hA
  obtain ⟨rfl, rfl, rfl⟩ := trodAll_nil r0
  obtain rfl : args = #[v0] := by cases args; simp_all
  obtain ⟨rfl, rfl⟩ := trodVars_none hV
  obtain ⟨a0, len0, cap0, rfl⟩ := okWide_slice Try.underlying22 (hval 0 22 v0 rfl rfl)
  have k0 := h0
  have lt0 : ∀ x ∈ p0, x.block < W.heap.size := by obtain ⟨m, hm⟩ := k0; exact DataW.trod_lt m _ _ _ hm
  obtain ⟨z0, w0⟩ : ∃ zs, IsRow .u8 W a0 len0 cap0 zs := by
    obtain ⟨fuel, hf⟩ := h0
    rcases open_ints Try.underlying22 Try.underlying5 (by kernel_rfl) hf with ⟨hcs, _⟩ | ⟨x, l, c, zs, hcs, _, hl, hm, hz, _, hcell, hwz⟩
    · simp [Value.cells] at hcs
      obtain ⟨rfl, rfl, rfl⟩ := hcs
      exact ⟨[], .inl ⟨rfl, rfl, rfl, rfl⟩⟩
    · simp [Value.cells] at hcs
      obtain ⟨rfl, rfl, rfl⟩ := hcs
      exact ⟨zs, .inr ⟨_, rfl, hl, hm, by simpa using hz, hcell, hwz⟩⟩
  have lc0 := w0.lc
  obtain ⟨L0, rfl, R0, wf0, m0⟩ := w0.rd
  clear hA0 hval0
  refine (walk a0 cap0 L0 W R0 wf0 m0 (by simpa using lc0)).mono fun e W' ⟨he, bel⟩ => ?_
  subst he
  exact ⟨_, rfl, _, _, _, [], _, [], hW', trodAll_mk1 (shut_bool Try.underlying4 _), (trodAll_cons_mk (Below.trod laidOut (by kernel_rfl) (of_decide_eq_true (by kernel_rfl)) k0 bel lt0) trodAll_mk0), rfl, bel.frame _, fun h => by cases h⟩

theorem over : Rows.fnSelfCountRow.holds Try.pinned (OpenSpec.ofChange Rows.fnSelfCountSpec) :=
  OpenClaim.holds_of_wide 4 Try.f4 rfl rfl rfl rfl rfl rfl rfl ⟨rfl, rfl, rfl, rfl, rfl⟩ rfl rfl rfl rfl rfl (by kernel_rfl) Try.func4 (by kernel_rfl)
    (of_decide_eq_true (by kernel_rfl)) (by unfold Func.isWrapper; first | (rw [if_pos (by decide +kernel)]; kernel_rfl) | (rw [if_neg (by decide +kernel)]; exact ⟨rfl, rfl⟩))
    (fun os started H enc _ => lifted os started H enc)

/-- the given statement -/
theorem proved : Rows.FnSelfCountSaid := over
end Go.Proofs.Ytifhnjnpbpgjfaa.fnSelfCount
