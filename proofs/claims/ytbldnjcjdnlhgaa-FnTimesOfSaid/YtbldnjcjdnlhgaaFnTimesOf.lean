/-
  'laws.FnTimesOf' returns true for every code, and the code reads as it did. No condition.
-/
import Derived.Test.YtbldnjcjdnlhgaaRows
import Derived.Test.YtbldnjcjdnlhgaaW4
import Derived.Test.YtbldnjcjdnlhgaaD3
import Derived.Test.YtbldnjcjdnlhgaaW5
import Derived.Test.YtbldnjcjdnlhgaaW9
import Derived.WalkKit
import Derived.ProofKit
import Derived.OpenShut
import Derived.ShutString
import Derived.ChangeOld
import Derived.Below
namespace Go.Proofs.Ytbldnjcjdnlhgaa.fnTimesOf
open Go.ChangeShapes Go.WideShapes Go.ChangeAt Go.RowKit NP
open Go.ChangeMaps (open_string shut_string)
set_option linter.unusedVariables false

theorem walk (a : Option Addr) (c : Nat) (bs : List Int) (w0 : World) (h : Rd w0 w0.heap.size a (bs.map (Value.int .u8))) (hb : ∀ n ∈ bs, (Lit.int .u8 n).wf = true) (m : bs.length ≤ maxLen) (hc : bs.length ≤ c) :
    Calls Try.prog 3 #[.slice a bs.length c] w0 fun e w' => e = .returned (.bool true) ∧ Below w0.heap.size w0 w' := by
  unfold maxLen at m
  by_cases hl : bs.length ≤ 1048576
  · go_enter Try.func3, Try.ntmps3
    go_wp2_with fail
    refine (DrawTimesOf_any a c _ bs _ h (Nat.le_refl _) hb hl hc).mono ?_
    rintro e w1 ⟨a1, c1, M, rfl, ho, hs, hA⟩
    have hM := hs.1
    clear h hb hl hc m
    cases hv : valid M with
    | true =>
      have hTl := timF_len M
      have hJl := conjF_len M
      have hFt : sumFits (timF M) := fits_bd (fun x hx => by
        rw [timF_yes hv] at hx
        obtain ⟨k, hk, e⟩ := List.mem_iff_getElem.1 hx
        rw [tim_get] at e
        have := eqc_bd ((k : Int) + 1) M
        have := (valid_bd hv).2.2.2
        omega) (by omega)
      have hFit := valid_fits hv
      have hf1 : (wti M (timF M).length == sumL M) = true := by rw [timF_yes hv, tim_len, wti_sum M _ (valid_mem hv)]; simp
      have hf2 : (sumL (timF M) == (M.length : Int)) = true := by rw [timF_yes hv, tim_sum hv]; simp
      have HG : Hid (∀ k (hk : k < (timF M).length), (timF M)[k] = eqc ((k : Int) + 1) M) := Lib.hid (get_of_eq (timF_yes hv) (tim_get M))
      have HJ : Hid (∀ k (hk : k < (conjF M).length), (conjF M)[k] = cnt ((k : Int) + 1) M) := Lib.hid (get_of_eq (conjF_yes hv) (fun k hk => conj_get M k hk))
      have HLE : Hid ((conjF M).length = (timF M).length) := Lib.hid (by rw [conjF_yes hv, timF_yes hv, tim_len, conj_len])
      have HQ : Hid (∀ k, k < (timF M).length → eqc ((k : Int) + 1) M = cnt ((k : Int) + 1) M - (if k + 1 < (timF M).length then cnt ((k : Int) + 2) M else 0)) := Lib.hid (by rw [timF_yes hv, tim_len]; exact tim_conj hv)
      have hM16 := (valid_bd hv).2.2.2
      have HV := Lib.hid hv
      clear hv
      go_wp2_with fail
      refine (iTimesOf_any _ _ _ _ _ ho.rd (by omega) (by omega)).mono ?_
      rintro e w2 ⟨a_ot, c_ot, rfl, ot, hb⟩
      replace ho := ho.below (hb.mono ho.le)
      replace hA := hA.trans (hb.mono hA.size)
      have hz2 := hb.size
      clear hb
      go_wp2_with fail
      refine (sTimesOf_any _ _ _ _ _ ho.rd (by omega) (by omega)).mono ?_
      rintro e w3 ⟨a_sp, c_sp, rfl, sp, hb⟩
      replace ho := ho.below (hb.mono ho.le)
      replace ot := ot.below (hb.mono ot.le)
      replace hA := hA.trans (hb.mono hA.size)
      have hz3 := hb.size
      clear hb
      go_wp2_with fail
      refine (equalInts_same _ _ _ _ _ _ _ _ ot.rd sp.rd (by omega)).mono ?_
      rintro e w4 ⟨rfl, hd⟩
      have hb : Below w3.heap.size w3 w4 := Dr.below hd _
      clear hd
      replace ho := ho.below (hb.mono ho.le)
      replace ot := ot.below (hb.mono ot.le)
      replace sp := sp.below (hb.mono sp.le)
      replace hA := hA.trans (hb.mono hA.size)
      have hz4 := hb.size
      clear hb
      go_wp2_with fail
      refine (iValidParts_any _ _ _ _ _ ho.rd (by omega) (by omega)).mono ?_
      rintro e w5 ⟨rfl, hb⟩
      replace ho := ho.below (hb.mono ho.le)
      replace ot := ot.below (hb.mono ot.le)
      replace sp := sp.below (hb.mono sp.le)
      replace hA := hA.trans (hb.mono hA.size)
      have hz5 := hb.size
      clear hb
      rw [HV.out]
      go_wp2_with fail
      refine (iConjugateOf_any _ _ _ _ _ ho.rd (by omega) (by omega)).mono ?_
      rintro e w6 ⟨a_cj, c_cj, rfl, cj, hb⟩
      replace ho := ho.below (hb.mono ho.le)
      replace ot := ot.below (hb.mono ot.le)
      replace sp := sp.below (hb.mono sp.le)
      replace hA := hA.trans (hb.mono hA.size)
      have hz6 := hb.size
      clear hb
      go_wp2_with fail
      go_loopw [6, 7] (fun s i wr => ∃ k : Nat, k ≤ (timF M).length ∧ i = .int .i64 k ∧ s = .int .i64 (wti M k) ∧ Dr w6 wr) (fun _ i _ => (timF M).length - (intOf i).toNat)
      case atStart => exact ⟨0, Nat.zero_le _, rfl, rfl, Dr.refl _⟩
      case round =>
        obtain ⟨k, hk, rfl, rfl, hdr⟩ := hrel
        have hwb := wti_bd M hM16 k (by omega)
        by_cases hlt : k < (timF M).length
        · have hltj : k < (conjF M).length := by rw [HLE.out]; exact hlt
          have otr := ot.dr hdr
          have cjr := cj.dr hdr
          obtain ⟨g, rfl, hcell⟩ := otr.read (k := k) (by simpa using hlt)
          obtain ⟨g2, rfl, hcell2⟩ := cjr.read (k := k) (by simpa using hltj)
          have hck : wr.cell? ⟨g, k, none⟩ = some (.int .i64 (eqc ((k : Int) + 1) M)) := by rw [hcell, List.getElem_map, HG.out k hlt]
          have hcj : wr.cell? ⟨g2, k, none⟩ = some (.int .i64 (cnt ((k : Int) + 1) M)) := by rw [hcell2, List.getElem_map, HJ.out k hltj]
          have hxq := HQ.out k hlt
          have hxb := eqc_bd ((k : Int) + 1) M
          have hyb := cnt_bd ((k : Int) + 1) M
          have hzb := cnt_bd ((k : Int) + 2) M
          have hmul := eqc_mul_bd M k (by omega) hM16
          have HS : Hid (wti M (k + 1) = wti M k + ((k : Int) + 1) * eqc ((k : Int) + 1) M) := Lib.hid rfl
          clear hcell hcell2 otr cjr hf1 hf2
          by_cases hn : k + 1 < (timF M).length
          · have hnj : k + 1 < (conjF M).length := by rw [HLE.out]; exact hn
            obtain ⟨g3, e3, hcell3⟩ := (cj.dr hdr).read (k := k + 1) (by simpa using hnj)
            injection e3 with e3
            injection e3 with e3
            subst e3
            have hcn : wr.cell? ⟨g2, k + 1, none⟩ = some (.int .i64 (cnt ((k : Int) + 2) M)) := by rw [hcell3, List.getElem_map, HJ.out (k + 1) hnj, (by omega : (((k + 1 : Nat) : Int) + 1) = (k : Int) + 2)]
            rw [if_pos hn] at hxq
            clear hcell3
            generalize eqc ((k : Int) + 1) M = x at *
            generalize cnt ((k : Int) + 1) M = y at *
            generalize cnt ((k : Int) + 2) M = z at *
            have hsub : y - z = x := by omega
            clear hxq
            obtain ⟨pr, hpr0, e1, e2, HPR⟩ : ∃ pr : Int, (0 ≤ pr ∧ pr ≤ 272) ∧ wrap64 (((k : Int) + 1) * x) = pr ∧ IntKind.i64.wrap (((k : Int) + 1) * x) = pr ∧ Hid (((k : Int) + 1) * x = pr) := ⟨_, hmul, IntWalk.wrap64_in _ (by omega), IntWalk.i64_in _ (by omega), Lib.hid rfl⟩
            rw [HPR.out] at HS
            clear hmul
            go_wp2_with fail
            go_quiet (fail)
            go_wp2_with fail
            go_roundw
            case rel => exact ⟨k + 1, by omega, by go_num, by rw [HS.out], hdr.drewN _⟩
            case measure => simp [intOf]; omega
          · have hnj : decide (k + 1 < (conjF M).length) = false := decide_eq_false (by rw [HLE.out]; exact hn)
            have hnj' : ((conjF M).length : Int) ≤ (k : Int) + 1 := by rw [HLE.out]; omega
            rw [if_neg hn] at hxq
            generalize eqc ((k : Int) + 1) M = x at *
            generalize cnt ((k : Int) + 1) M = y at *
            have hsub : y - 0 = x := by omega
            have hsub2 : y = x := by omega
            subst hsub2
            clear hxq hsub
            obtain ⟨pr, hpr0, e1, e2, HPR⟩ : ∃ pr : Int, (0 ≤ pr ∧ pr ≤ 272) ∧ wrap64 (((k : Int) + 1) * y) = pr ∧ IntKind.i64.wrap (((k : Int) + 1) * y) = pr ∧ Hid (((k : Int) + 1) * y = pr) := ⟨_, hmul, IntWalk.wrap64_in _ (by omega), IntWalk.i64_in _ (by omega), Lib.hid rfl⟩
            rw [HPR.out] at HS
            clear hmul
            go_wp2_with fail
            go_quiet (fail)
            go_wp2_with fail
            go_roundw
            case rel => exact ⟨k + 1, by omega, by go_num, by rw [HS.out], hdr.drewN _⟩
            case measure => simp [intOf]; omega
        · obtain rfl : k = (timF M).length := by omega
          have hor := ho.dr hdr
          have otr := ot.dr hdr
          have hAr := hA.trans ((hdr.below _).mono hA.size)
          go_wp2_with fail
          refine (total_any _ _ _ _ _ hor.rd hFit (by omega)).mono ?_
          rintro e w' ⟨rfl, rfl⟩
          go_wp2_with fail
          refine (total_any _ _ _ _ _ otr.rd hFt (by omega)).mono ?_
          rintro e w' ⟨rfl, rfl⟩
          go_wp2_with fail
          go_ret
          exact ⟨rfl, hAr⟩
    | false =>
      have hTl := timF_len M
      have HV := Lib.hid hv
      clear hv
      go_wp2_with fail
      refine (iTimesOf_any _ _ _ _ _ ho.rd (by omega) (by omega)).mono ?_
      rintro e w2 ⟨a_ot, c_ot, rfl, ot, hb⟩
      replace ho := ho.below (hb.mono ho.le)
      replace hA := hA.trans (hb.mono hA.size)
      have hz2 := hb.size
      clear hb
      go_wp2_with fail
      refine (sTimesOf_any _ _ _ _ _ ho.rd (by omega) (by omega)).mono ?_
      rintro e w3 ⟨a_sp, c_sp, rfl, sp, hb⟩
      replace ho := ho.below (hb.mono ho.le)
      replace ot := ot.below (hb.mono ot.le)
      replace hA := hA.trans (hb.mono hA.size)
      have hz3 := hb.size
      clear hb
      go_wp2_with fail
      refine (equalInts_same _ _ _ _ _ _ _ _ ot.rd sp.rd (by omega)).mono ?_
      rintro e w4 ⟨rfl, hd⟩
      have hb : Below w3.heap.size w3 w4 := Dr.below hd _
      clear hd
      replace ho := ho.below (hb.mono ho.le)
      replace ot := ot.below (hb.mono ot.le)
      replace sp := sp.below (hb.mono sp.le)
      replace hA := hA.trans (hb.mono hA.size)
      have hz4 := hb.size
      clear hb
      go_wp2_with fail
      refine (iValidParts_any _ _ _ _ _ ho.rd (by omega) (by omega)).mono ?_
      rintro e w5 ⟨rfl, hb⟩
      replace ho := ho.below (hb.mono ho.le)
      replace ot := ot.below (hb.mono ot.le)
      replace sp := sp.below (hb.mono sp.le)
      replace hA := hA.trans (hb.mono hA.size)
      have hz5 := hb.size
      clear hb
      rw [HV.out]
      go_wp2_with fail
      refine (sTimesOf_any _ _ _ _ _ ho.rd (by omega) (by omega)).mono ?_
      rintro e w6 ⟨a_s2, c_s2, rfl, s2, hb⟩
      replace ho := ho.below (hb.mono ho.le)
      replace ot := ot.below (hb.mono ot.le)
      replace sp := sp.below (hb.mono sp.le)
      replace hA := hA.trans (hb.mono hA.size)
      have hz6 := hb.size
      clear hb
      go_wp2_with fail
      refine (equalInts_same _ _ _ _ _ _ _ _ ot.rd s2.rd (by omega)).mono ?_
      rintro e w7 ⟨rfl, hd⟩
      have hb : Below w6.heap.size w6 w7 := Dr.below hd _
      clear hd
      replace ho := ho.below (hb.mono ho.le)
      replace ot := ot.below (hb.mono ot.le)
      replace sp := sp.below (hb.mono sp.le)
      replace s2 := s2.below (hb.mono s2.le)
      replace hA := hA.trans (hb.mono hA.size)
      have hz7 := hb.size
      clear hb
      go_wp2_with fail
      go_ret
      exact ⟨rfl, hA⟩
  · have hl' : 1048576 < bs.length := by omega
    go_enter Try.func3, Try.ntmps3
    go_wp2_with fail
    go_ret
    exact ⟨rfl, Below.refl _ _⟩

theorem own : ownKnob Try.prog.godebug = none := by kernel_rfl
theorem laidOut : laidOutB Try.prog = true := by kernel_rfl

set_option maxRecDepth 100000 in
theorem lifted (os : Os) (started : os.Started) (H : Type) (enc : TypeId × Value → H) :
    ReturnsInHanded {} Try.checked os 3 .any (Rows.fnTimesOfSpec.pre6 enc Try.prog Try.f3 Rows.fnTimesOfRow.domain false) (Rows.fnTimesOfSpec.post enc Try.prog Try.f3 false true false false) := by
  refine returnsInHanded_of_change (C := Try.checked) own started (by kernel_rfl) Try.func3
    (ChangeSpec.witness6 (enc := enc) (C := Try.checked) false ⟨#[], #[.slice none 0 0], []⟩ 8 (by kernel_rfl) (by kernel_rfl) (by kernel_rfl) (by kernel_rfl)) ?_
  intro W base args ds gs before hval0 hW hcnd _
  have hval : ∀ (j : Nat) t v, Try.f3.params[j]? = some t → args[j]? = some v → Value.okWide Try.prog W .any base t v := hval0
  have hW' := hW
  obtain ⟨p, q, hA0, hV, rfl, hfz, hnd⟩ := hW
  have hA : DataW.TrodAll enc Try.prog W 0 (fun _ => true) true Try.f3.params.toList args.toList ds p := hA0
  rw [Try.params3] at hA hval
  obtain ⟨v0, vs0, d0, ds0, p0, q0, hargs, rfl, rfl, h0, r0⟩ := trodAll_cons hA
  obtain ⟨rfl, rfl, rfl⟩ := trodAll_nil r0
  obtain rfl : args = #[v0] := by cases args; simp_all
  obtain ⟨rfl, rfl⟩ := trodVars_none hV
  obtain ⟨a0, len0, cap0, rfl⟩ := okWide_slice Try.underlying22 (hval 0 22 v0 rfl rfl)
  have k0 := h0
  have lt0 : ∀ x ∈ p0, x.block < W.heap.size := by obtain ⟨m, hm⟩ := k0; exact DataW.trod_lt m _ _ _ hm
  obtain ⟨z0, w0⟩ : ∃ zs, IsRow .u8 W a0 len0 cap0 zs := by
    obtain ⟨fuel, hf⟩ := h0
    rcases open_ints Try.underlying22 Try.underlying5 (by kernel_rfl) hf with ⟨hcs, _⟩ | ⟨x, l, c, zs, hcs, _, hl, hm, hz, _, hcell, hwz⟩
    · simp [Value.cells] at hcs
      obtain ⟨rfl, rfl, rfl⟩ := hcs
      exact ⟨[], .inl ⟨rfl, rfl, rfl, rfl⟩⟩
    · simp [Value.cells] at hcs
      obtain ⟨rfl, rfl, rfl⟩ := hcs
      exact ⟨zs, .inr ⟨_, rfl, hl, hm, by simpa using hz, hcell, hwz⟩⟩
  have lc0 := w0.lc
  obtain ⟨L0, rfl, R0, wf0, m0⟩ := w0.rd
  clear hA0 hval0
  refine (walk a0 cap0 L0 W R0 wf0 m0 (by simpa using lc0)).mono fun e W' ⟨he, bel⟩ => ?_
  subst he
  exact ⟨_, rfl, _, _, _, [], _, [], hW', trodAll_mk1 (shut_bool Try.underlying4 _), (trodAll_cons_mk (Below.trod laidOut (by kernel_rfl) (of_decide_eq_true (by kernel_rfl)) k0 bel lt0) trodAll_mk0), rfl, bel.frame _, fun h => by cases h⟩

theorem over : Rows.fnTimesOfRow.holds Try.pinned (OpenSpec.ofChange Rows.fnTimesOfSpec) :=
  OpenClaim.holds_of_wide 3 Try.f3 rfl rfl rfl rfl rfl rfl rfl ⟨rfl, rfl, rfl, rfl, rfl⟩ rfl rfl rfl rfl rfl (by kernel_rfl) Try.func3 (by kernel_rfl)
    (of_decide_eq_true (by kernel_rfl)) (by unfold Func.isWrapper; first | (rw [if_pos (by decide +kernel)]; kernel_rfl) | (rw [if_neg (by decide +kernel)]; exact ⟨rfl, rfl⟩))
    (fun os started H enc _ => lifted os started H enc)

/-- the given statement -/
theorem proved : Rows.FnTimesOfSaid := over
end Go.Proofs.Ytbldnjcjdnlhgaa.fnTimesOf
