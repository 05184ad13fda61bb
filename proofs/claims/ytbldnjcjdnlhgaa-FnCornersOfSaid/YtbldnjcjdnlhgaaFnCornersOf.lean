/-
  'laws.FnCornersOf' returns true for every code, and the code reads as it did. No condition.
-/
import Derived.Test.YtbldnjcjdnlhgaaRows
import Derived.Test.YtbldnjcjdnlhgaaW4
import Derived.Test.YtbldnjcjdnlhgaaD3
import Derived.Test.YtbldnjcjdnlhgaaW5
import Derived.Test.YtbldnjcjdnlhgaaW6
import Derived.Test.YtbldnjcjdnlhgaaW9
import Derived.WalkKit
import Derived.ProofKit
import Derived.OpenShut
import Derived.ShutString
import Derived.ChangeOld
import Derived.Below
namespace Go.Proofs.Ytbldnjcjdnlhgaa.fnCornersOf
open Go.ChangeShapes Go.WideShapes Go.ChangeAt Go.RowKit NP
open Go.ChangeMaps (open_string shut_string)
set_option linter.unusedVariables false

theorem walk (a : Option Addr) (c : Nat) (bs : List Int) (w0 : World) (h : Rd w0 w0.heap.size a (bs.map (Value.int .u8))) (hb : ∀ n ∈ bs, (Lit.int .u8 n).wf = true) (m : bs.length ≤ maxLen) (hc : bs.length ≤ c) :
    Calls Try.prog 5 #[.slice a bs.length c] w0 fun e w' => e = .returned (.bool true) ∧ Below w0.heap.size w0 w' := by
  unfold maxLen at m
  by_cases hl : bs.length ≤ 1048576
  · go_enter Try.func5, Try.ntmps5
    go_wp2_with fail
    refine (DrawCornersOf_any a c _ bs _ h (Nat.le_refl _) hb hl hc).mono ?_
    rintro e w1 ⟨a1, c1, M, rfl, ho, hs, hA⟩
    have hM := hs.1
    clear h hb hl hc m
    cases hv : valid M with
    | true =>
      have hTl := timF_len M
      have hCl := crnF_len M
      have hJl := conjF_len M
      have hn1 : (((crnF M).length : Int) == ((nz M (timF M).length : Nat) : Int)) = true := by rw [crnF_yes hv, timF_yes hv, tim_len, crn_len_nz hv]; simp
      have hn2 : (((crnF (conjF M)).length : Int) == ((nz M (timF M).length : Nat) : Int)) = true := by rw [conjF_yes hv, crnF_yes (valid_conj hv), timF_yes hv, tim_len, crn_conj_nz hv]; simp
      have HAS : Hid (∀ i (hi : i + 1 < (crnF M).length), (crnF M)[i] < (crnF M)[i + 1]) := Lib.hid (asc_of_eq (crnF_yes hv) (fl_asc _ _))
      have HG : Hid (∀ k (hk : k < (timF M).length), (timF M)[k] = eqc ((k : Int) + 1) M) := Lib.hid (get_of_eq (timF_yes hv) (tim_get M))
      have HZ : Hid (∀ k, k < (timF M).length → nz M k ≤ 16) := Lib.hid fun k hk => by have := nz_le M k; omega
      have HV := Lib.hid hv
      clear hv
      go_wp2_with fail
      refine (iCornersOf_any _ _ _ _ _ ho.rd (by omega) (by omega)).mono ?_
      rintro e w2 ⟨a_ot, c_ot, rfl, ot, hb⟩
      replace ho := ho.below (hb.mono ho.le)
      replace hA := hA.trans (hb.mono hA.size)
      have hz2 := hb.size
      clear hb
      go_wp2_with fail
      refine (sCornersOf_any _ _ _ _ _ ho.rd (by omega) (by omega)).mono ?_
      rintro e w3 ⟨a_sp, c_sp, rfl, sp, hb⟩
      replace ho := ho.below (hb.mono ho.le)
      replace ot := ot.below (hb.mono ot.le)
      replace hA := hA.trans (hb.mono hA.size)
      have hz3 := hb.size
      clear hb
      go_wp2_with fail
      refine (equalInts_same _ _ _ _ _ _ _ _ ot.rd sp.rd (by omega)).mono ?_
      rintro e w4 ⟨rfl, hd⟩
      have hb : Below w3.heap.size w3 w4 := Dr.below hd _
      clear hd
      replace ho := ho.below (hb.mono ho.le)
      replace ot := ot.below (hb.mono ot.le)
      replace sp := sp.below (hb.mono sp.le)
      replace hA := hA.trans (hb.mono hA.size)
      have hz4 := hb.size
      clear hb
      go_wp2_with fail
      refine (iValidParts_any _ _ _ _ _ ho.rd (by omega) (by omega)).mono ?_
      rintro e w5 ⟨rfl, hb⟩
      replace ho := ho.below (hb.mono ho.le)
      replace ot := ot.below (hb.mono ot.le)
      replace sp := sp.below (hb.mono sp.le)
      replace hA := hA.trans (hb.mono hA.size)
      have hz5 := hb.size
      clear hb
      rw [HV.out]
      go_wp2_with fail
      refine (iTimesOf_any _ _ _ _ _ ho.rd (by omega) (by omega)).mono ?_
      rintro e w6 ⟨a_ti, c_ti, rfl, ti, hb⟩
      replace ho := ho.below (hb.mono ho.le)
      replace ot := ot.below (hb.mono ot.le)
      replace sp := sp.below (hb.mono sp.le)
      replace hA := hA.trans (hb.mono hA.size)
      have hz6 := hb.size
      clear hb
      go_wp2_with fail
      go_loop [5, 7] (fun n i => ∃ k : Nat, k ≤ (timF M).length ∧ i = .int .i64 k ∧ n = .int .i64 ((nz M k : Nat) : Int)) (fun _ i => (timF M).length - (intOf i).toNat)
      case atStart => exact ⟨0, Nat.zero_le _, rfl, rfl⟩
      case round =>
        obtain ⟨k, hk, rfl, rfl⟩ := hrel
        by_cases hlt : k < (timF M).length
        · obtain ⟨g, rfl, hcell⟩ := ti.read (k := k) (by simpa using hlt)
          have hck : w6.cell? ⟨g, k, none⟩ = some (.int .i64 (eqc ((k : Int) + 1) M)) := by rw [hcell, List.getElem_map, HG.out k hlt]
          have hz := HZ.out k hlt
          have HS : Hid (nz M (k + 1) = nz M k + (if 0 < eqc ((k : Int) + 1) M then 1 else 0)) := Lib.hid rfl
          clear hcell hn1 hn2
          by_cases hx : 0 < eqc ((k : Int) + 1) M
          · have hxb : decide (0 < eqc ((k : Int) + 1) M) = true := decide_eq_true hx
            have HX := Lib.hid hx
            clear hx
            generalize eqc ((k : Int) + 1) M = x at hck hxb HX HS
            go_wp2_with fail
            go_round
            case rel => exact ⟨k + 1, by omega, by go_num, by rw [HS.out, if_pos HX.out]; go_num⟩
            case measure => simp [intOf]; omega
          · have hxb : decide (0 < eqc ((k : Int) + 1) M) = false := decide_eq_false hx
            have HX := Lib.hid hx
            clear hx
            generalize eqc ((k : Int) + 1) M = x at hck hxb HX HS
            go_wp2_with fail
            go_round
            case rel => exact ⟨k + 1, by omega, by go_num, by rw [HS.out, if_neg HX.out]; rfl⟩
            case measure => simp [intOf]; omega
        · obtain rfl : k = (timF M).length := by omega
          go_wp2_with fail
          refine (iConjugateOf_any _ _ _ _ _ ho.rd (by omega) (by omega)).mono ?_
          rintro e w7 ⟨a_cj, c_cj, rfl, cj, hb⟩
          replace ho := ho.below (hb.mono ho.le)
          replace ot := ot.below (hb.mono ot.le)
          replace sp := sp.below (hb.mono sp.le)
          replace ti := ti.below (hb.mono ti.le)
          replace hA := hA.trans (hb.mono hA.size)
          have hz7 := hb.size
          clear hb
          have hCl2 := crnF_len (conjF M)
          go_wp2_with fail
          refine (iCornersOf_any _ _ _ _ _ cj.rd (by omega) (by omega)).mono ?_
          rintro e w8 ⟨a_cc, c_cc, rfl, cc, hb⟩
          replace ho := ho.below (hb.mono ho.le)
          replace ot := ot.below (hb.mono ot.le)
          replace sp := sp.below (hb.mono sp.le)
          replace ti := ti.below (hb.mono ti.le)
          replace cj := cj.below (hb.mono cj.le)
          replace hA := hA.trans (hb.mono hA.size)
          have hz8 := hb.size
          clear hb
          go_wp2_with fail
          refine (ascends_any _ _ _ _ _ ot.rd HAS.out (by omega)).mono ?_
          rintro e w9 ⟨rfl, hd⟩
          have hb : Below w8.heap.size w8 w9 := Dr.below hd _
          clear hd
          replace ho := ho.below (hb.mono ho.le)
          replace ot := ot.below (hb.mono ot.le)
          replace sp := sp.below (hb.mono sp.le)
          replace ti := ti.below (hb.mono ti.le)
          replace cj := cj.below (hb.mono cj.le)
          replace cc := cc.below (hb.mono cc.le)
          replace hA := hA.trans (hb.mono hA.size)
          have hz9 := hb.size
          clear hb
          go_wp2_with fail
          go_ret
          exact ⟨rfl, hA⟩
    | false =>
      have hCl := crnF_len M
      have HV := Lib.hid hv
      clear hv
      go_wp2_with fail
      refine (iCornersOf_any _ _ _ _ _ ho.rd (by omega) (by omega)).mono ?_
      rintro e w2 ⟨a_ot, c_ot, rfl, ot, hb⟩
      replace ho := ho.below (hb.mono ho.le)
      replace hA := hA.trans (hb.mono hA.size)
      have hz2 := hb.size
      clear hb
      go_wp2_with fail
      refine (sCornersOf_any _ _ _ _ _ ho.rd (by omega) (by omega)).mono ?_
      rintro e w3 ⟨a_sp, c_sp, rfl, sp, hb⟩
      replace ho := ho.below (hb.mono ho.le)
      replace ot := ot.below (hb.mono ot.le)
      replace hA := hA.trans (hb.mono hA.size)
      have hz3 := hb.size
      clear hb
      go_wp2_with fail
      refine (equalInts_same _ _ _ _ _ _ _ _ ot.rd sp.rd (by omega)).mono ?_
      rintro e w4 ⟨rfl, hd⟩
      have hb : Below w3.heap.size w3 w4 := Dr.below hd _
      clear hd
      replace ho := ho.below (hb.mono ho.le)
      replace ot := ot.below (hb.mono ot.le)
      replace sp := sp.below (hb.mono sp.le)
      replace hA := hA.trans (hb.mono hA.size)
      have hz4 := hb.size
      clear hb
      go_wp2_with fail
      refine (iValidParts_any _ _ _ _ _ ho.rd (by omega) (by omega)).mono ?_
      rintro e w5 ⟨rfl, hb⟩
      replace ho := ho.below (hb.mono ho.le)
      replace ot := ot.below (hb.mono ot.le)
      replace sp := sp.below (hb.mono sp.le)
      replace hA := hA.trans (hb.mono hA.size)
      have hz5 := hb.size
      clear hb
      rw [HV.out]
      go_wp2_with fail
      refine (sCornersOf_any _ _ _ _ _ ho.rd (by omega) (by omega)).mono ?_
      rintro e w6 ⟨a_s2, c_s2, rfl, s2, hb⟩
      replace ho := ho.below (hb.mono ho.le)
      replace ot := ot.below (hb.mono ot.le)
      replace sp := sp.below (hb.mono sp.le)
      replace hA := hA.trans (hb.mono hA.size)
      have hz6 := hb.size
      clear hb
      go_wp2_with fail
      refine (equalInts_same _ _ _ _ _ _ _ _ ot.rd s2.rd (by omega)).mono ?_
      rintro e w7 ⟨rfl, hd⟩
      have hb : Below w6.heap.size w6 w7 := Dr.below hd _
      clear hd
      replace ho := ho.below (hb.mono ho.le)
      replace ot := ot.below (hb.mono ot.le)
      replace sp := sp.below (hb.mono sp.le)
      replace s2 := s2.below (hb.mono s2.le)
      replace hA := hA.trans (hb.mono hA.size)
      have hz7 := hb.size
      clear hb
      go_wp2_with fail
      go_ret
      exact ⟨rfl, hA⟩
  · have hl' : 1048576 < bs.length := by omega
    go_enter Try.func5, Try.ntmps5
    go_wp2_with fail
    go_ret
    exact ⟨rfl, Below.refl _ _⟩

theorem own : ownKnob Try.prog.godebug = none := by kernel_rfl
theorem laidOut : laidOutB Try.prog = true := by kernel_rfl

set_option maxRecDepth 100000 in
theorem lifted (os : Os) (started : os.Started) (H : Type) (enc : TypeId × Value → H) :
    ReturnsInHanded {} Try.checked os 5 .any (Rows.fnCornersOfSpec.pre6 enc Try.prog Try.f5 Rows.fnCornersOfRow.domain false) (Rows.fnCornersOfSpec.post enc Try.prog Try.f5 false true false false) := by
  refine returnsInHanded_of_change (C := Try.checked) own started (by kernel_rfl) Try.func5
    (ChangeSpec.witness6 (enc := enc) (C := Try.checked) false ⟨#[], #[.slice none 0 0], []⟩ 8 (by kernel_rfl) (by kernel_rfl) (by kernel_rfl) (by kernel_rfl)) ?_
  intro W base args ds gs before hval0 hW hcnd _
  have hval : ∀ (j : Nat) t v, Try.f5.params[j]? = some t → args[j]? = some v → Value.okWide Try.prog W .any base t v := hval0
  have hW' := hW
  obtain ⟨p, q, hA0, hV, rfl, hfz, hnd⟩ := hW
  have hA : DataW.TrodAll enc Try.prog W 0 (fun _ => true) true Try.f5.params.toList args.toList ds p := hA0
  rw [Try.params5] at hA hval
  obtain ⟨v0, vs0, d0, ds0, p0, q0, hargs, rfl, rfl, h0, r0⟩ := trodAll_cons hA
  obtain ⟨rfl, rfl, rfl⟩ := trodAll_nil r0
  obtain rfl : args = #[v0] := by cases args; simp_all
  obtain ⟨rfl, rfl⟩ := trodVars_none hV
  obtain ⟨a0, len0, cap0, rfl⟩ := okWide_slice Try.underlying22 (hval 0 22 v0 rfl rfl)
  have k0 := h0
  have lt0 : ∀ x ∈ p0, x.block < W.heap.size := by obtain ⟨m, hm⟩ := k0; exact DataW.trod_lt m _ _ _ hm
  obtain ⟨z0, w0⟩ : ∃ zs, IsRow .u8 W a0 len0 cap0 zs := by
    obtain ⟨fuel, hf⟩ := h0
    rcases open_ints Try.underlying22 Try.underlying5 (by kernel_rfl) hf with ⟨hcs, _⟩ | ⟨x, l, c, zs, hcs, _, hl, hm, hz, _, hcell, hwz⟩
    · simp [Value.cells] at hcs
      obtain ⟨rfl, rfl, rfl⟩ := hcs
      exact ⟨[], .inl ⟨rfl, rfl, rfl, rfl⟩⟩
    · simp [Value.cells] at hcs
      obtain ⟨rfl, rfl, rfl⟩ := hcs
      exact ⟨zs, .inr ⟨_, rfl, hl, hm, by simpa using hz, hcell, hwz⟩⟩
  have lc0 := w0.lc
  obtain ⟨L0, rfl, R0, wf0, m0⟩ := w0.rd
  clear hA0 hval0
  refine (walk a0 cap0 L0 W R0 wf0 m0 (by simpa using lc0)).mono fun e W' ⟨he, bel⟩ => ?_
  subst he
  exact ⟨_, rfl, _, _, _, [], _, [], hW', trodAll_mk1 (shut_bool Try.underlying4 _), (trodAll_cons_mk (Below.trod laidOut (by kernel_rfl) (of_decide_eq_true (by kernel_rfl)) k0 bel lt0) trodAll_mk0), rfl, bel.frame _, fun h => by cases h⟩

theorem over : Rows.fnCornersOfRow.holds Try.pinned (OpenSpec.ofChange Rows.fnCornersOfSpec) :=
  OpenClaim.holds_of_wide 5 Try.f5 rfl rfl rfl rfl rfl rfl rfl ⟨rfl, rfl, rfl, rfl, rfl⟩ rfl rfl rfl rfl rfl (by kernel_rfl) Try.func5 (by kernel_rfl)
    (of_decide_eq_true (by kernel_rfl)) (by unfold Func.isWrapper; first | (rw [if_pos (by decide +kernel)]; kernel_rfl) | (rw [if_neg (by decide +kernel)]; exact ⟨rfl, rfl⟩))
    (fun os started H enc _ => lifted os started H enc)

/-- the given statement -/
theorem proved : Rows.FnCornersOfSaid := over
end Go.Proofs.Ytbldnjcjdnlhgaa.fnCornersOf
