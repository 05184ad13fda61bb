/-
  'laws.FnJustParts' returns true for every code, and the code reads as it did. No condition.
-/
import Derived.Test.YtmdalnkjpbjcdaaRows
import Derived.Test.YtmdalnkjpbjcdaaC5
import Derived.Test.YtmdalnkjpbjcdaaM13
import Derived.WalkKit
import Derived.ProofKit
import Derived.OpenShut
import Derived.ShutString
import Derived.ChangeOld
import Derived.Below
namespace Go.Proofs.Ytmdalnkjpbjcdaa.fnJustParts
open Go.ChangeShapes Go.WideShapes Go.ChangeAt Go.RowKit NP
open Go.ChangeMaps (open_string shut_string)
set_option linter.unusedVariables false

set_option maxHeartbeats 800000 in
theorem walk (a : Option Addr) (c : Nat) (bs : List Int) (w0 : World) (h : Rd w0 w0.heap.size a (bs.map (Value.int .u8))) (hb : ∀ n ∈ bs, (Lit.int .u8 n).wf = true) (m : bs.length ≤ maxLen) (hc : bs.length ≤ c) :
    Calls Try.prog 8 #[.slice a bs.length c] w0 fun e w' => e = .returned (.bool true) ∧ Below w0.heap.size w0 w' := by
  unfold maxLen at m
  by_cases hl : bs.length ≤ 1048576
  · go_enter Try.func8, Try.ntmps8
    go_wp2_with fail
    refine (DrawJustParts_any a c _ bs _ h (Nat.le_refl _) hb hl hc).mono ?_
    rintro e w1 ⟨n, k, rfl, hn, hk, hA⟩
    clear h hb hl hc m
    by_cases hin : (0 ≤ n ∧ n ≤ 40) ∧ (0 ≤ k ∧ k ≤ 40)
    · have hF := jpF_in hin.1 hin.2
      have hb := ctZ_bd (n - k) k (by omega)
      have g0 : decide (jpF n k < 0) = false := decide_eq_false (by rw [hF]; omega)
      by_cases hn0 : n = 0
      · have b0 : (n == 0) = true := beq_iff_eq.2 hn0
        by_cases hk0 : k = 0
        · have b1 : (k == 0) = true := beq_iff_eq.2 hk0
          have hv : jpF n k = 1 := by rw [hF, hn0, hk0]; exact ctZ_zero 0
          have e1 : (jpF n k == 1) = true := beq_iff_eq.2 hv
          have e2 : decide (jpF n k ≤ 1) = true := decide_eq_true (by omega)
          clear hF hb hn0 hk0 hin hv
          go_wp2_with fail
          refine (iJustParts_any n k _).mono ?_
          rintro e w2 ⟨rfl, hb⟩
          replace hA := hA.trans (hb.mono hA.size)
          clear hb
          go_wp2_with fail
          refine (sJustParts_any n k _).mono ?_
          rintro e w' ⟨rfl, rfl⟩
          go_wp2_with fail
          go_ret
          exact ⟨rfl, hA⟩
        · have b1 : (k == 0) = false := beq_eq_false_iff_ne.2 hk0
          have hv : jpF n k = 0 := by rw [hF]; exact ctZ_neg _ _ (by omega)
          have e1 : (jpF n k == 1) = false := beq_eq_false_iff_ne.2 (by omega)
          have e2 : decide (jpF n k ≤ 1) = true := decide_eq_true (by omega)
          clear hF hb hn0 hk0 hin hv
          go_wp2_with fail
          refine (iJustParts_any n k _).mono ?_
          rintro e w2 ⟨rfl, hb⟩
          replace hA := hA.trans (hb.mono hA.size)
          clear hb
          go_wp2_with fail
          refine (sJustParts_any n k _).mono ?_
          rintro e w' ⟨rfl, rfl⟩
          go_wp2_with fail
          go_ret
          exact ⟨rfl, hA⟩
      · have b0 : (n == 0) = false := beq_eq_false_iff_ne.2 hn0
        by_cases hk0 : k = 0
        · have b1 : (k == 0) = true := beq_iff_eq.2 hk0
          have hv : jpF n k = 0 := by rw [hF, hk0, Int.sub_zero]; exact ctZ_none _ (by omega)
          have e1 : (jpF n k == 1) = false := beq_eq_false_iff_ne.2 (by omega)
          have e2 : decide (jpF n k ≤ 1) = true := decide_eq_true (by omega)
          clear hF hb hn0 hk0 hin hv
          go_wp2_with fail
          refine (iJustParts_any n k _).mono ?_
          rintro e w2 ⟨rfl, hb⟩
          replace hA := hA.trans (hb.mono hA.size)
          clear hb
          go_wp2_with fail
          refine (sJustParts_any n k _).mono ?_
          rintro e w' ⟨rfl, rfl⟩
          go_wp2_with fail
          go_ret
          exact ⟨rfl, hA⟩
        · have b1 : (k == 0) = false := beq_eq_false_iff_ne.2 hk0
          have hj1 : jpF (n - 1) (k - 1) = ctZ (n - k) (k - 1) := by
            rw [jpF_in ⟨by omega, by omega⟩ ⟨by omega, by omega⟩]
            congr 1; omega
          have hmx : max (jpF (n - k) k) 0 = ctZ (n - k - k) k := by
            by_cases hnk : 0 ≤ n - k
            · rw [jpF_in ⟨hnk, by omega⟩ hin.2]
              have := ctZ_bd (n - k - k) k (by omega)
              omega
            · rw [jpF_out (by omega), ctZ_neg _ _ (by omega)]; rfl
          have hs : jpF n k = jpF (n - 1) (k - 1) + max (jpF (n - k) k) 0 := by
            rw [hF, hj1, hmx]
            by_cases hnk : 1 ≤ n - k
            · exact ctZ_rec (n - k) k hnk (by omega)
            · by_cases h0 : n - k = 0
              · rw [h0, ctZ_zero, ctZ_zero, ctZ_neg _ _ (by omega)]; rfl
              · rw [ctZ_neg _ _ (by omega), ctZ_neg _ _ (by omega), ctZ_neg _ _ (by omega)]; rfl
          have hb1 : 0 ≤ jpF (n - 1) (k - 1) ∧ jpF (n - 1) (k - 1) ≤ 1099511627776 := by rw [hj1]; exact ctZ_bd _ _ (by omega)
          have hb2 : -1 ≤ jpF (n - k) k ∧ jpF (n - k) k ≤ 1099511627776 := by
            by_cases hnk : 0 ≤ n - k
            · rw [jpF_in ⟨hnk, by omega⟩ hin.2]
              have := ctZ_bd (n - k - k) k (by omega)
              omega
            · rw [jpF_out (by omega)]; omega
          by_cases hz : jpF (n - k) k < 0
          · have hz2 : max (jpF (n - k) k) 0 = 0 := by omega
            rw [hz2] at hs
            have e1 : (jpF n k == jpF (n - 1) (k - 1)) = true := beq_iff_eq.2 (by omega)
            have z1 : decide (jpF (n - k) k < 0) = true := decide_eq_true hz
            clear hF hb hn0 hk0 hin hj1 hmx hs hz2
            go_wp2_with fail
            refine (iJustParts_any n k _).mono ?_
            rintro e w2 ⟨rfl, hb⟩
            replace hA := hA.trans (hb.mono hA.size)
            clear hb
            go_wp2_with fail
            refine (sJustParts_any n k _).mono ?_
            rintro e w' ⟨rfl, rfl⟩
            go_wp2_with fail
            refine (iJustParts_any _ _ _).mono ?_
            rintro e w3 ⟨rfl, hb⟩
            replace hA := hA.trans (hb.mono hA.size)
            clear hb
            go_wp2_with fail
            refine (iJustParts_any _ _ _).mono ?_
            rintro e w4 ⟨rfl, hb⟩
            replace hA := hA.trans (hb.mono hA.size)
            clear hb
            go_wp2_with fail
            go_ret
            exact ⟨rfl, hA⟩
          · have hz2 : max (jpF (n - k) k) 0 = jpF (n - k) k := by omega
            rw [hz2] at hs
            have e1 : (jpF n k == jpF (n - 1) (k - 1) + jpF (n - k) k) = true := beq_iff_eq.2 (by omega)
            have z1 : decide (jpF (n - k) k < 0) = false := decide_eq_false hz
            have z2 : 0 ≤ jpF (n - k) k := by omega
            clear hF hb hn0 hk0 hin hj1 hmx hs hz2 hz
            go_wp2_with fail
            refine (iJustParts_any n k _).mono ?_
            rintro e w2 ⟨rfl, hb⟩
            replace hA := hA.trans (hb.mono hA.size)
            clear hb
            go_wp2_with fail
            refine (sJustParts_any n k _).mono ?_
            rintro e w' ⟨rfl, rfl⟩
            go_wp2_with fail
            refine (iJustParts_any _ _ _).mono ?_
            rintro e w3 ⟨rfl, hb⟩
            replace hA := hA.trans (hb.mono hA.size)
            clear hb
            go_wp2_with fail
            refine (iJustParts_any _ _ _).mono ?_
            rintro e w4 ⟨rfl, hb⟩
            replace hA := hA.trans (hb.mono hA.size)
            clear hb
            go_wp2_with fail
            go_ret
            exact ⟨rfl, hA⟩
    · have hF : jpF n k = -1 := jpF_out hin
      have g0 : decide (jpF n k < 0) = true := decide_eq_true (by rw [hF]; omega)
      clear hin hF
      go_wp2_with fail
      refine (iJustParts_any n k _).mono ?_
      rintro e w2 ⟨rfl, hb⟩
      replace hA := hA.trans (hb.mono hA.size)
      clear hb
      go_wp2_with fail
      refine (sJustParts_any n k _).mono ?_
      rintro e w' ⟨rfl, rfl⟩
      go_wp2_with fail
      refine (sJustParts_any n k _).mono ?_
      rintro e w' ⟨rfl, rfl⟩
      go_wp2_with fail
      go_ret
      exact ⟨rfl, hA⟩
  · have hl' : 1048576 < bs.length := by omega
    go_enter Try.func8, Try.ntmps8
    go_wp2_with fail
    go_ret
    exact ⟨rfl, Below.refl _ _⟩

theorem own : ownKnob Try.prog.godebug = none := by kernel_rfl
theorem laidOut : laidOutB Try.prog = true := by kernel_rfl

set_option maxRecDepth 100000 in
theorem lifted (os : Os) (started : os.Started) (H : Type) (enc : TypeId × Value → H) :
    ReturnsInHanded {} Try.checked os 8 .any (Rows.fnJustPartsSpec.pre6 enc Try.prog Try.f8 Rows.fnJustPartsRow.domain false) (Rows.fnJustPartsSpec.post enc Try.prog Try.f8 false true false false) := by
  refine returnsInHanded_of_change (C := Try.checked) own started (by kernel_rfl) Try.func8
    (ChangeSpec.witness6 (enc := enc) (C := Try.checked) false ⟨#[], #[.slice none 0 0], []⟩ 8 (by kernel_rfl) (by kernel_rfl) (by kernel_rfl) (by kernel_rfl)) ?_
  intro W base args ds gs before hval0 hW hcnd _
  have hval : ∀ (j : Nat) t v, Try.f8.params[j]? = some t → args[j]? = some v → Value.okWide Try.prog W .any base t v := hval0
  have hW' := hW
  obtain ⟨p, q, hA0, hV, rfl, hfz, hnd⟩ := hW
  have hA : DataW.TrodAll enc Try.prog W 0 (fun _ => true) true Try.f8.params.toList args.toList ds p := hA0
  rw [Try.params8] at hA hval
  obtain ⟨v0, vs0, d0, ds0, p0, q0, hargs, rfl, rfl, h0, r0⟩ := trodAll_cons hA
  obtain ⟨rfl, rfl, rfl⟩ := trodAll_nil r0
  obtain rfl : args = #[v0] := by cases args; simp_all
  obtain ⟨rfl, rfl⟩ := trodVars_none hV
  obtain ⟨a0, len0, cap0, rfl⟩ := okWide_slice Try.underlying24 (hval 0 24 v0 rfl rfl)
  have k0 := h0
  have lt0 : ∀ x ∈ p0, x.block < W.heap.size := by obtain ⟨m, hm⟩ := k0; exact DataW.trod_lt m _ _ _ hm
  obtain ⟨z0, w0⟩ : ∃ zs, IsRow .u8 W a0 len0 cap0 zs := by
    obtain ⟨fuel, hf⟩ := h0
    rcases open_ints Try.underlying24 Try.underlying5 (by kernel_rfl) hf with ⟨hcs, _⟩ | ⟨x, l, c, zs, hcs, _, hl, hm, hz, _, hcell, hwz⟩
    · simp [Value.cells] at hcs
      obtain ⟨rfl, rfl, rfl⟩ := hcs
      exact ⟨[], .inl ⟨rfl, rfl, rfl, rfl⟩⟩
    · simp [Value.cells] at hcs
      obtain ⟨rfl, rfl, rfl⟩ := hcs
      exact ⟨zs, .inr ⟨_, rfl, hl, hm, by simpa using hz, hcell, hwz⟩⟩
  have lc0 := w0.lc
  obtain ⟨L0, rfl, R0, wf0, m0⟩ := w0.rd
  clear hA0 hval0
  refine (walk a0 cap0 L0 W R0 wf0 m0 (by simpa using lc0)).mono fun e W' ⟨he, bel⟩ => ?_
  subst he
  exact ⟨_, rfl, _, _, _, [], _, [], hW', trodAll_mk1 (shut_bool Try.underlying4 _), (trodAll_cons_mk (Below.trod laidOut (by kernel_rfl) (of_decide_eq_true (by kernel_rfl)) k0 bel lt0) trodAll_mk0), rfl, bel.frame _, fun h => by cases h⟩

theorem over : Rows.fnJustPartsRow.holds Try.pinned (OpenSpec.ofChange Rows.fnJustPartsSpec) :=
  OpenClaim.holds_of_wide 8 Try.f8 rfl rfl rfl rfl rfl rfl rfl ⟨rfl, rfl, rfl, rfl, rfl⟩ rfl rfl rfl rfl rfl (by kernel_rfl) Try.func8 (by kernel_rfl)
    (of_decide_eq_true (by kernel_rfl)) (by unfold Func.isWrapper; first | (rw [if_pos (by decide +kernel)]; kernel_rfl) | (rw [if_neg (by decide +kernel)]; exact ⟨rfl, rfl⟩))
    (fun os started H enc _ => lifted os started H enc)

/-- the given statement -/
theorem proved : Rows.FnJustPartsSaid := over
end Go.Proofs.Ytmdalnkjpbjcdaa.fnJustParts
