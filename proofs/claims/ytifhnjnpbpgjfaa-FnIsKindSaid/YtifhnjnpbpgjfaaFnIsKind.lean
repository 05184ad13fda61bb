/-
  'laws.FnIsKind' returns true for every code, and the code reads as it did. No condition.
-/
import Derived.Test.YtifhnjnpbpgjfaaRows
import Derived.Test.YtifhnjnpbpgjfaaZk1
import Derived.Test.YtifhnjnpbpgjfaaZk2
import Derived.Test.YtifhnjnpbpgjfaaZk3
import Derived.Test.YtifhnjnpbpgjfaaZk4
import Derived.Test.YtifhnjnpbpgjfaaZk5
import Derived.Test.YtifhnjnpbpgjfaaZk6
import Derived.Test.YtifhnjnpbpgjfaaZk7
import Derived.Test.YtifhnjnpbpgjfaaZk8
import Derived.Test.YtifhnjnpbpgjfaaZk9
import Derived.WalkKit
import Derived.ProofKit
import Derived.OpenShut
import Derived.ShutString
import Derived.ChangeOld
import Derived.Below
namespace Go.Proofs.Ytifhnjnpbpgjfaa.fnIsKind
open Go.ChangeShapes Go.WideShapes Go.ChangeAt Go.RowKit NP
open Go.ChangeMaps (open_string shut_string)
set_option linter.unusedVariables false

theorem kind_mem {l : List UInt8} {L : List Int} (hv : valid L = true) {n : Nat} (hn : n ≤ 12) (hs : sumL L = (n : Int)) : decide (L ∈ kpF l (n : Int)) = kindF l L := by
  cases hk : kindOf l with
  | none => rw [kpF_none hk, kindF_none hk]; simp
  | some K =>
    rw [kpF_some hk hn, kindF_some hk, hv, Bool.true_and]
    have hm := mem_allQn hv hs
    cases hK : K L with
    | true => exact decide_eq_true (List.mem_filter.2 ⟨hm, hK⟩)
    | false => exact decide_eq_false fun h => by have := (List.mem_filter.1 h).2; rw [hK] at this; cases this

set_option linter.unusedSimpArgs false
set_option maxRecDepth 100000 in
set_option maxHeartbeats 4000000 in
theorem walk (a : Option Addr) (c : Nat) (bs : List Int) (w0 : World) (h : Rd w0 w0.heap.size a (bs.map (Value.int .u8))) (hb : ∀ n ∈ bs, (Lit.int .u8 n).wf = true) (m : bs.length ≤ maxLen) (hc : bs.length ≤ c) :
    Calls Try.prog 6 #[.slice a bs.length c] w0 fun e w' => e = .returned (.bool true) ∧ Below w0.heap.size w0 w' := by
  unfold maxLen at m
  by_cases hl : bs.length ≤ 1048576
  · go_enter Try.func6, Try.ntmps6
    go_wp2_with fail
    refine (DrawIsKind_any a c _ bs _ h (Nat.le_refl _) hb hl hc).mono ?_
    rintro e w1 ⟨s, L, aL, cL, rfl, hnm, p, hsm, hA⟩
    clear h hb hl hc m
    have hs11 := hnm.small
    have hsz : s.size ≤ maxLen := by unfold maxLen; omega
    have hL40 := hsm.1
    obtain ⟨E, hE⟩ : ∃ E, kindF s.data.toList L = E := ⟨_, rfl⟩
    have HE := Lib.hid hE
    clear hnm hs11 hsm hE
    cases hv : valid L with
    | false =>
      have HV := Lib.hid hv
      clear hv
      go_wp2_with fail
      refine (iIsKind_any s hsz aL cL _ L _ p.rd p.le (by omega)).mono ?_
      rintro e w2 ⟨rfl, hb⟩
      replace p := p.below (hb.mono p.le)
      replace hA := hA.trans (hb.mono hA.size)
      have hz2 := hb.size
      clear hb
      rw [HE.out]
      go_wp2_with fail
      refine (sIsKind_any s aL cL _ L _ p.rd p.le (by omega)).mono ?_
      rintro e w3 ⟨rfl, hb⟩
      replace p := p.below (hb.mono p.le)
      replace hA := hA.trans (hb.mono hA.size)
      have hz3 := hb.size
      clear hb
      rw [HE.out]
      go_wp2_with fail
      refine (iValidParts_any aL cL _ L _ p.rd p.le (by omega)).mono ?_
      rintro e w4 ⟨rfl, hb⟩
      replace p := p.below (hb.mono p.le)
      replace hA := hA.trans (hb.mono hA.size)
      have hz4 := hb.size
      clear hb
      rw [HV.out]
      go_wp2_with fail
      refine (sIsKind_any s aL cL _ L _ p.rd p.le (by omega)).mono ?_
      rintro e w5 ⟨rfl, hb⟩
      replace p := p.below (hb.mono p.le)
      replace hA := hA.trans (hb.mono hA.size)
      have hz5 := hb.size
      clear hb
      rw [HE.out]
      go_wp2_with fail
      go_ret
      exact ⟨rfl, hA⟩
    | true =>
      have HV := Lib.hid hv
      have hsb := valid_bd hv
      have hsf := valid_fits hv
      obtain ⟨n, hn⟩ := Int.eq_ofNat_of_zero_le hsb.1
      have HN := Lib.hid hn
      clear hv
      by_cases h12 : 12 < n
      · have d12 : decide (12 < n) = true := decide_eq_true h12
        have d12i : (12 : Int) < (n : Int) := by omega
        clear h12 hsb hn
        go_wp2_with fail
        refine (iIsKind_any s hsz aL cL _ L _ p.rd p.le (by omega)).mono ?_
        rintro e w2 ⟨rfl, hb⟩
        replace p := p.below (hb.mono p.le)
        replace hA := hA.trans (hb.mono hA.size)
        have hz2 := hb.size
        clear hb
        rw [HE.out]
        go_wp2_with fail
        refine (sIsKind_any s aL cL _ L _ p.rd p.le (by omega)).mono ?_
        rintro e w3 ⟨rfl, hb⟩
        replace p := p.below (hb.mono p.le)
        replace hA := hA.trans (hb.mono hA.size)
        have hz3 := hb.size
        clear hb
        rw [HE.out]
        go_wp2_with fail
        refine (iValidParts_any aL cL _ L _ p.rd p.le (by omega)).mono ?_
        rintro e w4 ⟨rfl, hb⟩
        replace p := p.below (hb.mono p.le)
        replace hA := hA.trans (hb.mono hA.size)
        have hz4 := hb.size
        clear hb
        rw [HV.out]
        go_wp2_with fail
        refine (total_any aL cL _ L _ p.rd hsf (by omega)).mono ?_
        rintro e w' ⟨rfl, rfl⟩
        rw [HN.out]
        go_wp2_with fail
        refine (sIsKind_any s aL cL _ L _ p.rd p.le (by omega)).mono ?_
        rintro e w5 ⟨rfl, hb⟩
        replace p := p.below (hb.mono p.le)
        replace hA := hA.trans (hb.mono hA.size)
        have hz5 := hb.size
        clear hb
        rw [HE.out]
        go_wp2_with fail
        go_ret
        exact ⟨rfl, hA⟩
      · have d12 : decide (12 < n) = false := decide_eq_false h12
        have d12i : ¬ (12 : Int) < (n : Int) := by omega
        have HM : Hid (decide (L ∈ kpF s.data.toList (n : Int)) = E) := Lib.hid ((kind_mem HV.out (by omega) HN.out).trans HE.out)
        clear h12 hsb hn
        go_wp2_with fail
        refine (iIsKind_any s hsz aL cL _ L _ p.rd p.le (by omega)).mono ?_
        rintro e w2 ⟨rfl, hb⟩
        replace p := p.below (hb.mono p.le)
        replace hA := hA.trans (hb.mono hA.size)
        have hz2 := hb.size
        clear hb
        rw [HE.out]
        go_wp2_with fail
        refine (sIsKind_any s aL cL _ L _ p.rd p.le (by omega)).mono ?_
        rintro e w3 ⟨rfl, hb⟩
        replace p := p.below (hb.mono p.le)
        replace hA := hA.trans (hb.mono hA.size)
        have hz3 := hb.size
        clear hb
        rw [HE.out]
        go_wp2_with fail
        refine (iValidParts_any aL cL _ L _ p.rd p.le (by omega)).mono ?_
        rintro e w4 ⟨rfl, hb⟩
        replace p := p.below (hb.mono p.le)
        replace hA := hA.trans (hb.mono hA.size)
        have hz4 := hb.size
        clear hb
        rw [HV.out]
        go_wp2_with fail
        refine (total_any aL cL _ L _ p.rd hsf (by omega)).mono ?_
        rintro e w' ⟨rfl, rfl⟩
        rw [HN.out]
        go_wp2_with fail
        refine (total_any aL cL _ L _ p.rd hsf (by omega)).mono ?_
        rintro e w' ⟨rfl, rfl⟩
        rw [HN.out]
        go_wp2_with fail
        refine (iKindParts_any s hsz (n : Int) _).mono ?_
        rintro e w5 ⟨aO, cO, uO, rfl, oO, hb⟩
        replace p := p.below (hb.mono p.le)
        replace hA := hA.trans (hb.mono hA.size)
        have hz5 := hb.size
        clear hb
        go_wp2_with fail
        refine (holdsList_any aO aL cO cL _ _ (kpF s.data.toList (n : Int)) L _ oO.rd p.rd (by have := kpF_few s.data.toList (n : Int); omega) (kpF_short s.data.toList (n : Int)) (by omega)).mono ?_
        rintro e w6 ⟨rfl, hd⟩
        have hb : Below w5.heap.size w5 w6 := hd.below _
        clear hd
        replace p := p.below (hb.mono p.le)
        replace oO := oO.below (hb.mono oO.le)
        replace hA := hA.trans (hb.mono hA.size)
        have hz6 := hb.size
        clear hb
        rw [HM.out]
        go_wp2_with fail
        go_ret
        exact ⟨rfl, hA⟩
  · have hl' : 1048576 < bs.length := by omega
    go_enter Try.func6, Try.ntmps6
    go_wp2_with fail
    go_ret
    exact ⟨rfl, Below.refl _ _⟩

theorem own : ownKnob Try.prog.godebug = none := by kernel_rfl
theorem laidOut : laidOutB Try.prog = true := by kernel_rfl

set_option maxRecDepth 100000 in
theorem lifted (os : Os) (started : os.Started) (H : Type) (enc : TypeId × Value → H) :
    ReturnsInHanded {} Try.checked os 6 .any (Rows.fnIsKindSpec.pre6 enc Try.prog Try.f6 Rows.fnIsKindRow.domain false) (Rows.fnIsKindSpec.post enc Try.prog Try.f6 false true false false) := by
  refine returnsInHanded_of_change (C := Try.checked) own started (by kernel_rfl) Try.func6
    (ChangeSpec.witness6 (enc := enc) (C := Try.checked) false ⟨#[], #[.slice none 0 0], []⟩ 8 (by kernel_rfl) (by kernel_rfl) (by kernel_rfl) (by kernel_rfl)) ?_
  intro W base args ds gs before hval0 hW hcnd _
  have hval : ∀ (j : Nat) t v, Try.f6.params[j]? = some t → args[j]? = some v → Value.okWide Try.prog W .any base t v := hval0
  have hW' := hW
  obtain ⟨p, q, hA0, hV, rfl, hfz, hnd⟩ := hW
  have hA : DataW.TrodAll enc Try.prog W 0 (fun _ => true) true Try.f6.params.toList args.toList ds p := hA0
  rw [Try.params6] at hA hval
  obtain ⟨v0, vs0, d0, ds0, p0, q0, hargs, rfl, rfl, h0, r0⟩ := trodAll_cons hA
  obtain ⟨rfl, rfl, rfl⟩ := trodAll_nil r0
  obtain rfl : args = #[v0] := by cases args; simp_all
  obtain ⟨rfl, rfl⟩ := trodVars_none hV
  obtain ⟨a0, len0, cap0, rfl⟩ := okWide_slice Try.underlying22 (hval 0 22 v0 rfl rfl)
  have k0 := h0
  have lt0 : ∀ x ∈ p0, x.block < W.heap.size := by obtain ⟨m, hm⟩ := k0; exact DataW.trod_lt m _ _ _ hm
  obtain ⟨z0, w0⟩ : ∃ zs, IsRow .u8 W a0 len0 cap0 zs := by
    obtain ⟨fuel, hf⟩ := h0
    rcases open_ints Try.underlying22 Try.underlying5 (by kernel_rfl) hf with ⟨hcs, _⟩ | ⟨x, l, c, zs, hcs, _, hl, hm, hz, _, hcell, hwz⟩
    · simp [Value.cells] at hcs
      obtain ⟨rfl, rfl, rfl⟩ := hcs
      exact ⟨[], .inl ⟨rfl, rfl, rfl, rfl⟩⟩
    · simp [Value.cells] at hcs
      obtain ⟨rfl, rfl, rfl⟩ := hcs
      exact ⟨zs, .inr ⟨_, rfl, hl, hm, by simpa using hz, hcell, hwz⟩⟩
  have lc0 := w0.lc
  obtain ⟨L0, rfl, R0, wf0, m0⟩ := w0.rd
  clear hA0 hval0
  refine (walk a0 cap0 L0 W R0 wf0 m0 (by simpa using lc0)).mono fun e W' ⟨he, bel⟩ => ?_
  subst he
  exact ⟨_, rfl, _, _, _, [], _, [], hW', trodAll_mk1 (shut_bool Try.underlying4 _), (trodAll_cons_mk (Below.trod laidOut (by kernel_rfl) (of_decide_eq_true (by kernel_rfl)) k0 bel lt0) trodAll_mk0), rfl, bel.frame _, fun h => by cases h⟩

theorem over : Rows.fnIsKindRow.holds Try.pinned (OpenSpec.ofChange Rows.fnIsKindSpec) :=
  OpenClaim.holds_of_wide 6 Try.f6 rfl rfl rfl rfl rfl rfl rfl ⟨rfl, rfl, rfl, rfl, rfl⟩ rfl rfl rfl rfl rfl (by kernel_rfl) Try.func6 (by kernel_rfl)
    (of_decide_eq_true (by kernel_rfl)) (by unfold Func.isWrapper; first | (rw [if_pos (by decide +kernel)]; kernel_rfl) | (rw [if_neg (by decide +kernel)]; exact ⟨rfl, rfl⟩))
    (fun os started H enc _ => lifted os started H enc)

/-- the given statement -/
theorem proved : Rows.FnIsKindSaid := over
end Go.Proofs.Ytifhnjnpbpgjfaa.fnIsKind
