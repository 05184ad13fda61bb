/-
  'laws.FnDiagonalsOf' returns true for every code, and the code reads as it did. No condition.
-/
import Derived.Test.YtbldnjcjdnlhgaaRows
import Derived.Test.YtbldnjcjdnlhgaaW4
import Derived.Test.YtbldnjcjdnlhgaaD3
import Derived.Test.YtbldnjcjdnlhgaaW7
import Derived.Test.YtbldnjcjdnlhgaaW9
import Derived.Test.YtbldnjcjdnlhgaaW10
import Derived.WalkKit
import Derived.ProofKit
import Derived.OpenShut
import Derived.ShutString
import Derived.ChangeOld
import Derived.Below
namespace Go.Proofs.Ytbldnjcjdnlhgaa.fnDiagonalsOf
open Go.ChangeShapes Go.WideShapes Go.ChangeAt Go.RowKit NP
open Go.ChangeMaps (open_string shut_string)
set_option linter.unusedVariables false

set_option maxHeartbeats 1600000 in
theorem walk (a : Option Addr) (c : Nat) (bs : List Int) (w0 : World) (h : Rd w0 w0.heap.size a (bs.map (Value.int .u8))) (hb : ∀ n ∈ bs, (Lit.int .u8 n).wf = true) (m : bs.length ≤ maxLen) (hc : bs.length ≤ c) :
    Calls Try.prog 7 #[.slice a bs.length c] w0 fun e w' => e = .returned (.bool true) ∧ Below w0.heap.size w0 w' := by
  unfold maxLen at m
  by_cases hl : bs.length ≤ 1048576
  · go_enter Try.func7, Try.ntmps7
    go_wp2_with fail
    refine (DrawDiagonalsOf_any a c _ bs _ h (Nat.le_refl _) hb hl hc).mono ?_
    rintro e w1 ⟨a1, c1, M, rfl, ho, hs, hA⟩
    have hM := hs.1
    clear h hb hl hc m
    cases hv : valid M with
    | true =>
      have hGl := diaF_len M
      have hJl := conjF_len M
      have hFit := valid_fits hv
      have hM16 := (valid_bd hv).2.2.2
      have hd1 := durF_yes hv
      have hFd : sumFits (diaF M) := fits_bd (fun x hx => by
        rw [diaF_yes hv] at hx
        obtain ⟨k, hk, e⟩ := List.mem_iff_getElem.1 hx
        have h1 := dia_pos hv k hk
        have h2 := dia_dur hv k hk
        have h3 := (durS_spec M).1
        omega) (by omega)
      have hsb : (sumL (diaF M) == sumL M) = true := by rw [diaF_yes hv, dia_sum hv]; simp
      have hrev : diaF (conjF M) = (diaF M).reverse := by rw [conjF_yes hv, diaF_yes (valid_conj hv), diaF_yes hv, dia_conj hv]
      have HB : Hid (∀ k (hk : k < (diaF M).length), 1 ≤ (diaF M)[k] ∧ (diaF M)[k] ≤ durF M) := Lib.hid (by
        have e : ∀ X, X = dia M → ∀ k (hk : k < X.length), 1 ≤ X[k] ∧ X[k] ≤ durF M := by
          rintro X rfl k hk
          rw [hd1]
          exact ⟨dia_pos hv k hk, dia_dur hv k hk⟩
        exact e _ (diaF_yes hv))
      have HN : Hid (0 < M.length → ((diaF M).length : Int) = (M.length : Int) + M.headD 0 - 1) := Lib.hid fun h0 => by
        rw [diaF_yes hv, dia_len]
        have := headD_bd hv
        have e := headD_get M h0
        have := (preS_of_valid hv 0 h0 h0).1
        omega
      obtain ⟨RV, hRV⟩ : ∃ X, X = (diaF M).reverse := ⟨_, rfl⟩
      rw [← hRV] at hrev
      have hrvl : RV.length ≤ 32 := by rw [hRV]; simpa using hGl
      have HREV := Lib.hid hrev
      have HRV := Lib.hid hRV
      have HV := Lib.hid hv
      clear hv hrev hRV hd1
      go_wp2_with fail
      refine (iDiagonalsOf_any _ _ _ _ _ ho.rd (by omega) (by omega)).mono ?_
      rintro e w2 ⟨a_ot, c_ot, rfl, ot, hb⟩
      replace ho := ho.below (hb.mono ho.le)
      replace hA := hA.trans (hb.mono hA.size)
      have hz2 := hb.size
      clear hb
      go_wp2_with fail
      refine (sDiagonalsOf_any _ _ _ _ _ ho.rd (by omega) (by omega)).mono ?_
      rintro e w3 ⟨a_sp, c_sp, rfl, sp, hb⟩
      replace ho := ho.below (hb.mono ho.le)
      replace ot := ot.below (hb.mono ot.le)
      replace hA := hA.trans (hb.mono hA.size)
      have hz3 := hb.size
      clear hb
      go_wp2_with fail
      refine (equalInts_same _ _ _ _ _ _ _ _ ot.rd sp.rd (by omega)).mono ?_
      rintro e w4 ⟨rfl, hd⟩
      have hb : Below w3.heap.size w3 w4 := Dr.below hd _
      clear hd
      replace ho := ho.below (hb.mono ho.le)
      replace ot := ot.below (hb.mono ot.le)
      replace sp := sp.below (hb.mono sp.le)
      replace hA := hA.trans (hb.mono hA.size)
      have hz4 := hb.size
      clear hb
      go_wp2_with fail
      refine (iValidParts_any _ _ _ _ _ ho.rd (by omega) (by omega)).mono ?_
      rintro e w5 ⟨rfl, hb⟩
      replace ho := ho.below (hb.mono ho.le)
      replace ot := ot.below (hb.mono ot.le)
      replace sp := sp.below (hb.mono sp.le)
      replace hA := hA.trans (hb.mono hA.size)
      have hz5 := hb.size
      clear hb
      rw [HV.out]
      go_wp2_with fail
      go_loopw [5] (fun i wr => ∃ k : Nat, k ≤ (diaF M).length ∧ i = .int .i64 k ∧ Below w5.heap.size w5 wr) (fun i _ => (diaF M).length - (intOf i).toNat)
      case atStart => exact ⟨0, Nat.zero_le _, rfl, Below.refl _ _⟩
      case round =>
        obtain ⟨k, hk, rfl, hbr⟩ := hrel
        by_cases hlt : k < (diaF M).length
        · have hor := ho.below (hbr.mono ho.le)
          have otr := ot.below (hbr.mono ot.le)
          obtain ⟨g, rfl, hcell⟩ := otr.read (k := k) (by simpa using hlt)
          have hbk := HB.out k hlt
          have hck : wr.cell? ⟨g, k, none⟩ = some (.int .i64 (diaF M)[k]) := by rw [hcell, List.getElem_map]
          have hglt : g < wr.heap.size := Nat.lt_of_lt_of_le (otr.lt g rfl) otr.le
          have g1 : decide ((diaF M)[k] < 1) = false := decide_eq_false (by omega)
          have g2 : decide (durF M < (diaF M)[k]) = false := decide_eq_false (by omega)
          have hRd := hor.rd.more hor.le
          clear hcell hsb hbk otr hor
          generalize (diaF M)[k] = x at hck g1 g2
          go_wp2_with fail
          go_region_held3 (fun w' => w'.cell? ⟨g, k, none⟩ = some (.int .i64 x) ∧ Below wr.heap.size wr w') (first | exact ⟨hck, (Dr.n wr 1).below _⟩ | exact keep2 (by assumption) ((Dr.n wr 1).below _) hbd hglt)
            (first | (go_at_call 29; refine (iDurfeeOf_any _ _ wr.heap.size M _ (hRd.below ((Dr.n wr 1).below _)) (Nat.le_refl _) (by omega)).mono ?_; rintro e w' ⟨rfl, hbd⟩))
          have hbw := ((Dr.n wr 1).below wr.heap.size).trans hbd
          go_wp2_with fail
          go_roundw
          case rel => exact ⟨k + 1, by omega, by go_num, hbr.trans (hbw.mono hbr.size)⟩
          case measure => simp [intOf]; omega
        · obtain rfl : k = (diaF M).length := by omega
          replace ho := ho.below (hbr.mono ho.le)
          replace ot := ot.below (hbr.mono ot.le)
          replace hA := hA.trans (hbr.mono hA.size)
          have hzr := hbr.size
          clear hbr sp
          obtain ⟨w6, rfl⟩ : ∃ wx : World, wx = wr := ⟨_, rfl⟩
          go_wp2_with fail
          refine (total_any _ _ _ _ _ ot.rd hFd (by omega)).mono ?_
          rintro e w' ⟨rfl, rfl⟩
          go_wp2_with fail
          refine (total_any _ _ _ _ _ ho.rd hFit (by omega)).mono ?_
          rintro e w' ⟨rfl, rfl⟩
          go_wp2_with fail
          refine (iConjugateOf_any _ _ _ _ _ ho.rd (by omega) (by omega)).mono ?_
          rintro e w7 ⟨a_cj, c_cj, rfl, cj, hb⟩
          replace ho := ho.below (hb.mono ho.le)
          replace ot := ot.below (hb.mono ot.le)
          replace hA := hA.trans (hb.mono hA.size)
          have hz7 := hb.size
          clear hb
          go_wp2_with fail
          refine (iDiagonalsOf_any _ _ _ _ _ cj.rd (by omega) (by omega)).mono ?_
          rintro e w8 ⟨a_dd, c_dd, rfl, dd, hb⟩
          replace ho := ho.below (hb.mono ho.le)
          replace ot := ot.below (hb.mono ot.le)
          replace cj := cj.below (hb.mono cj.le)
          replace hA := hA.trans (hb.mono hA.size)
          have hz8 := hb.size
          clear hb
          rw [HREV.out] at dd ⊢
          go_wp2_with fail
          refine (mirrored_any _ _ _ _ _ ot.rd (by omega) (by omega)).mono ?_
          rintro e w9 ⟨a_mi, c_mi, rfl, mi, hb⟩
          replace ho := ho.below (hb.mono ho.le)
          replace ot := ot.below (hb.mono ot.le)
          replace cj := cj.below (hb.mono cj.le)
          replace dd := dd.below (hb.mono dd.le)
          replace hA := hA.trans (hb.mono hA.size)
          have hz9 := hb.size
          clear hb
          rw [← HRV.out] at mi ⊢
          clear cj
          go_wp2_with fail
          refine (equalInts_same _ _ _ _ _ _ _ _ dd.rd mi.rd (by omega)).mono ?_
          rintro e w10 ⟨rfl, hd⟩
          have hb : Below w9.heap.size w9 w10 := Dr.below hd _
          clear hd
          replace ho := ho.below (hb.mono ho.le)
          replace ot := ot.below (hb.mono ot.le)
          replace dd := dd.below (hb.mono dd.le)
          replace mi := mi.below (hb.mono mi.le)
          replace hA := hA.trans (hb.mono hA.size)
          have hz10 := hb.size
          clear hb
          by_cases hM0 : M.length = 0
          · have e1 : ((M.length : Int) == 0) = true := by simp [hM0]
            clear hM0
            go_wp2_with fail
            go_ret
            exact ⟨rfl, hA⟩
          · have e1 : ((M.length : Int) == 0) = false := beq_eq_false_iff_ne.2 (by omega)
            have hM1 : 0 < M.length := by omega
            obtain ⟨g1, rfl, hcell1⟩ := ho.read (k := 0) (by simpa using hM1)
            have hv1 : (ints M)[0]'(by simpa using hM1) = .int .i64 (M.headD 0) := by rw [List.getElem_map, headD_get M hM1]
            rw [hv1] at hcell1
            have hn := HN.out hM1
            have hh := headD_bd HV.out
            have e2 : (((diaF M).length : Int) == (M.length : Int) + M.headD 0 - 1) = true := beq_iff_eq.2 hn
            have hM1' : (0 : Int) < (M.length : Int) := by omega
            clear hM0 hv1 hn hM1
            generalize M.headD 0 = y at hcell1 e2 hh
            go_wp2_with fail
            go_ret
            exact ⟨rfl, hA⟩
    | false =>
      have hGl := diaF_len M
      have HV := Lib.hid hv
      clear hv
      go_wp2_with fail
      refine (iDiagonalsOf_any _ _ _ _ _ ho.rd (by omega) (by omega)).mono ?_
      rintro e w2 ⟨a_ot, c_ot, rfl, ot, hb⟩
      replace ho := ho.below (hb.mono ho.le)
      replace hA := hA.trans (hb.mono hA.size)
      have hz2 := hb.size
      clear hb
      go_wp2_with fail
      refine (sDiagonalsOf_any _ _ _ _ _ ho.rd (by omega) (by omega)).mono ?_
      rintro e w3 ⟨a_sp, c_sp, rfl, sp, hb⟩
      replace ho := ho.below (hb.mono ho.le)
      replace ot := ot.below (hb.mono ot.le)
      replace hA := hA.trans (hb.mono hA.size)
      have hz3 := hb.size
      clear hb
      go_wp2_with fail
      refine (equalInts_same _ _ _ _ _ _ _ _ ot.rd sp.rd (by omega)).mono ?_
      rintro e w4 ⟨rfl, hd⟩
      have hb : Below w3.heap.size w3 w4 := Dr.below hd _
      clear hd
      replace ho := ho.below (hb.mono ho.le)
      replace ot := ot.below (hb.mono ot.le)
      replace sp := sp.below (hb.mono sp.le)
      replace hA := hA.trans (hb.mono hA.size)
      have hz4 := hb.size
      clear hb
      go_wp2_with fail
      refine (iValidParts_any _ _ _ _ _ ho.rd (by omega) (by omega)).mono ?_
      rintro e w5 ⟨rfl, hb⟩
      replace ho := ho.below (hb.mono ho.le)
      replace ot := ot.below (hb.mono ot.le)
      replace sp := sp.below (hb.mono sp.le)
      replace hA := hA.trans (hb.mono hA.size)
      have hz5 := hb.size
      clear hb
      rw [HV.out]
      go_wp2_with fail
      refine (sDiagonalsOf_any _ _ _ _ _ ho.rd (by omega) (by omega)).mono ?_
      rintro e w6 ⟨a_s2, c_s2, rfl, s2, hb⟩
      replace ho := ho.below (hb.mono ho.le)
      replace ot := ot.below (hb.mono ot.le)
      replace sp := sp.below (hb.mono sp.le)
      replace hA := hA.trans (hb.mono hA.size)
      have hz6 := hb.size
      clear hb
      go_wp2_with fail
      refine (equalInts_same _ _ _ _ _ _ _ _ ot.rd s2.rd (by omega)).mono ?_
      rintro e w7 ⟨rfl, hd⟩
      have hb : Below w6.heap.size w6 w7 := Dr.below hd _
      clear hd
      replace ho := ho.below (hb.mono ho.le)
      replace ot := ot.below (hb.mono ot.le)
      replace sp := sp.below (hb.mono sp.le)
      replace s2 := s2.below (hb.mono s2.le)
      replace hA := hA.trans (hb.mono hA.size)
      have hz7 := hb.size
      clear hb
      go_wp2_with fail
      go_ret
      exact ⟨rfl, hA⟩
  · have hl' : 1048576 < bs.length := by omega
    go_enter Try.func7, Try.ntmps7
    go_wp2_with fail
    go_ret
    exact ⟨rfl, Below.refl _ _⟩

theorem own : ownKnob Try.prog.godebug = none := by kernel_rfl
theorem laidOut : laidOutB Try.prog = true := by kernel_rfl

set_option maxRecDepth 100000 in
theorem lifted (os : Os) (started : os.Started) (H : Type) (enc : TypeId × Value → H) :
    ReturnsInHanded {} Try.checked os 7 .any (Rows.fnDiagonalsOfSpec.pre6 enc Try.prog Try.f7 Rows.fnDiagonalsOfRow.domain false) (Rows.fnDiagonalsOfSpec.post enc Try.prog Try.f7 false true false false) := by
  refine returnsInHanded_of_change (C := Try.checked) own started (by kernel_rfl) Try.func7
    (ChangeSpec.witness6 (enc := enc) (C := Try.checked) false ⟨#[], #[.slice none 0 0], []⟩ 8 (by kernel_rfl) (by kernel_rfl) (by kernel_rfl) (by kernel_rfl)) ?_
  intro W base args ds gs before hval0 hW hcnd _
  have hval : ∀ (j : Nat) t v, Try.f7.params[j]? = some t → args[j]? = some v → Value.okWide Try.prog W .any base t v := hval0
  have hW' := hW
  obtain ⟨p, q, hA0, hV, rfl, hfz, hnd⟩ := hW
  have hA : DataW.TrodAll enc Try.prog W 0 (fun _ => true) true Try.f7.params.toList args.toList ds p := hA0
  rw [Try.params7] at hA hval
  obtain ⟨v0, vs0, d0, ds0, p0, q0, hargs, rfl, rfl, h0, r0⟩ := trodAll_cons hA
  obtain ⟨rfl, rfl, rfl⟩ := trodAll_nil r0
  obtain rfl : args = #[v0] := by cases args; simp_all
  obtain ⟨rfl, rfl⟩ := trodVars_none hV
  obtain ⟨a0, len0, cap0, rfl⟩ := okWide_slice Try.underlying22 (hval 0 22 v0 rfl rfl)
  have k0 := h0
  have lt0 : ∀ x ∈ p0, x.block < W.heap.size := by obtain ⟨m, hm⟩ := k0; exact DataW.trod_lt m _ _ _ hm
  obtain ⟨z0, w0⟩ : ∃ zs, IsRow .u8 W a0 len0 cap0 zs := by
    obtain ⟨fuel, hf⟩ := h0
    rcases open_ints Try.underlying22 Try.underlying5 (by kernel_rfl) hf with ⟨hcs, _⟩ | ⟨x, l, c, zs, hcs, _, hl, hm, hz, _, hcell, hwz⟩
    · simp [Value.cells] at hcs
      obtain ⟨rfl, rfl, rfl⟩ := hcs
      exact ⟨[], .inl ⟨rfl, rfl, rfl, rfl⟩⟩
    · simp [Value.cells] at hcs
      obtain ⟨rfl, rfl, rfl⟩ := hcs
      exact ⟨zs, .inr ⟨_, rfl, hl, hm, by simpa using hz, hcell, hwz⟩⟩
  have lc0 := w0.lc
  obtain ⟨L0, rfl, R0, wf0, m0⟩ := w0.rd
  clear hA0 hval0
  refine (walk a0 cap0 L0 W R0 wf0 m0 (by simpa using lc0)).mono fun e W' ⟨he, bel⟩ => ?_
  subst he
  exact ⟨_, rfl, _, _, _, [], _, [], hW', trodAll_mk1 (shut_bool Try.underlying4 _), (trodAll_cons_mk (Below.trod laidOut (by kernel_rfl) (of_decide_eq_true (by kernel_rfl)) k0 bel lt0) trodAll_mk0), rfl, bel.frame _, fun h => by cases h⟩

theorem over : Rows.fnDiagonalsOfRow.holds Try.pinned (OpenSpec.ofChange Rows.fnDiagonalsOfSpec) :=
  OpenClaim.holds_of_wide 7 Try.f7 rfl rfl rfl rfl rfl rfl rfl ⟨rfl, rfl, rfl, rfl, rfl⟩ rfl rfl rfl rfl rfl (by kernel_rfl) Try.func7 (by kernel_rfl)
    (of_decide_eq_true (by kernel_rfl)) (by unfold Func.isWrapper; first | (rw [if_pos (by decide +kernel)]; kernel_rfl) | (rw [if_neg (by decide +kernel)]; exact ⟨rfl, rfl⟩))
    (fun os started H enc _ => lifted os started H enc)

/-- the given statement -/
theorem proved : Rows.FnDiagonalsOfSaid := over
end Go.Proofs.Ytbldnjcjdnlhgaa.fnDiagonalsOf
