/-
  'laws.FnAllParts' returns true for every code, and the code reads as it did. No condition.
-/
import Derived.Test.YteglcoalfgjjiaaRows
import Derived.Test.YteglcoalfgjjiaaD14
import Derived.Test.YteglcoalfgjjiaaM32
import Derived.Test.YteglcoalfgjjiaaLL1
import Derived.Test.YteglcoalfgjjiaaW18
import Derived.Test.YteglcoalfgjjiaaC2
import Derived.WalkKit
import Derived.ProofKit
import Derived.OpenShut
import Derived.ShutString
import Derived.ChangeOld
import Derived.Below
namespace Go.Proofs.Yteglcoalfgjjiaa.fnAllParts
open Go.ChangeShapes Go.WideShapes Go.ChangeAt Go.RowKit NP
open Go.ChangeMaps (open_string shut_string)
set_option linter.unusedVariables false

set_option maxHeartbeats 1600000 in
theorem walk (a : Option Addr) (c : Nat) (bs : List Int) (w0 : World) (h : Rd w0 w0.heap.size a (bs.map (Value.int .u8))) (hb : ∀ n ∈ bs, (Lit.int .u8 n).wf = true) (m : bs.length ≤ maxLen) (hc : bs.length ≤ c) :
    Calls Try.prog 7 #[.slice a bs.length c] w0 fun e w' => e = .returned (.bool true) ∧ Below w0.heap.size w0 w' := by
  unfold maxLen at m
  by_cases hl : bs.length ≤ 1048576
  · go_enter Try.func7, Try.ntmps7
    go_wp2_with fail
    refine (DrawAllParts_any a c _ bs _ h (Nat.le_refl _) hb hl hc).mono ?_
    rintro e w1 ⟨n, rfl, hn, hA⟩
    clear h hb hl hc m
    have hln := apF_few2 n
    have hil := apF_short2 n
    by_cases hr : n < 0
    · have g1 : decide (n < 0) = true := decide_eq_true hr
      clear hr
      go_wp2_with fail
      refine (iAllParts_any n _).mono ?_
      rintro e w2 ⟨a_g, c_g, vg, rfl, ot, hb⟩
      replace hA := hA.trans (hb.mono hA.size)
      have hz2 := hb.size
      clear hb
      go_wp2_with fail
      refine (sAllParts_any n _).mono ?_
      rintro e w3 ⟨a_r, c_r, vr, rfl, sp, hb⟩
      replace ot := ot.below (hb.mono ot.le)
      replace hA := hA.trans (hb.mono hA.size)
      have hz3 := hb.size
      clear hb
      go_wp2_with fail
      refine (equalLists_same _ _ _ _ _ _ (apF n) _ ot.rd sp.rd (by omega) hil).mono ?_
      rintro e w4 ⟨rfl, hd⟩
      have hb : Below w3.heap.size w3 w4 := Dr.below hd _
      clear hd
      replace ot := ot.below (hb.mono ot.le)
      replace sp := sp.below (hb.mono sp.le)
      replace hA := hA.trans (hb.mono hA.size)
      have hz4 := hb.size
      clear hb
      go_wp2_with fail
      refine (sAllParts_any n _).mono ?_
      rintro e w5 ⟨a_s, c_s, vs, rfl, sq, hb⟩
      replace ot := ot.below (hb.mono ot.le)
      replace hA := hA.trans (hb.mono hA.size)
      have hz5 := hb.size
      clear hb
      go_wp2_with fail
      refine (equalLists_same _ _ _ _ _ _ (apF n) _ ot.rd sq.rd (by omega) hil).mono ?_
      rintro e w6 ⟨rfl, hd⟩
      have hb : Below w5.heap.size w5 w6 := Dr.below hd _
      clear hd
      replace hA := hA.trans (hb.mono hA.size)
      clear hb
      go_wp2_with fail
      go_ret
      exact ⟨rfl, hA⟩
    · have g1 : decide (n < 0) = false := decide_eq_false hr
      by_cases hr2 : 12 < n
      · have g2 : decide (12 < n) = true := decide_eq_true hr2
        clear hr2 hr
        go_wp2_with fail
        refine (iAllParts_any n _).mono ?_
        rintro e w2 ⟨a_g, c_g, vg, rfl, ot, hb⟩
        replace hA := hA.trans (hb.mono hA.size)
        have hz2 := hb.size
        clear hb
        go_wp2_with fail
        refine (sAllParts_any n _).mono ?_
        rintro e w3 ⟨a_r, c_r, vr, rfl, sp, hb⟩
        replace ot := ot.below (hb.mono ot.le)
        replace hA := hA.trans (hb.mono hA.size)
        have hz3 := hb.size
        clear hb
        go_wp2_with fail
        refine (equalLists_same _ _ _ _ _ _ (apF n) _ ot.rd sp.rd (by omega) hil).mono ?_
        rintro e w4 ⟨rfl, hd⟩
        have hb : Below w3.heap.size w3 w4 := Dr.below hd _
        clear hd
        replace ot := ot.below (hb.mono ot.le)
        replace sp := sp.below (hb.mono sp.le)
        replace hA := hA.trans (hb.mono hA.size)
        have hz4 := hb.size
        clear hb
        go_wp2_with fail
        refine (sAllParts_any n _).mono ?_
        rintro e w5 ⟨a_s, c_s, vs, rfl, sq, hb⟩
        replace ot := ot.below (hb.mono ot.le)
        replace hA := hA.trans (hb.mono hA.size)
        have hz5 := hb.size
        clear hb
        go_wp2_with fail
        refine (equalLists_same _ _ _ _ _ _ (apF n) _ ot.rd sq.rd (by omega) hil).mono ?_
        rintro e w6 ⟨rfl, hd⟩
        have hb : Below w5.heap.size w5 w6 := Dr.below hd _
        clear hd
        replace hA := hA.trans (hb.mono hA.size)
        clear hb
        go_wp2_with fail
        go_ret
        exact ⟨rfl, hA⟩
      · have g2 : decide (12 < n) = false := decide_eq_false hr2
        obtain ⟨m, rfl⟩ := Int.eq_ofNat_of_zero_le (show 0 ≤ n by omega)
        have g2' : decide (12 < m) = false := decide_eq_false (by omega)
        have hm12 : m ≤ 12 := by omega
        have HFA := Lib.hid (ap_facts hm12)
        have HAF := Lib.hid (apF_yes hm12)
        clear hr2 hr
        go_wp2_with fail
        refine (iAllParts_any (m : Int) _).mono ?_
        rintro e w2 ⟨a_g, c_g, vg, rfl, ot, hb⟩
        replace hA := hA.trans (hb.mono hA.size)
        have hz2 := hb.size
        clear hb
        go_wp2_with fail
        refine (sAllParts_any (m : Int) _).mono ?_
        rintro e w3 ⟨a_r, c_r, vr, rfl, sp, hb⟩
        replace ot := ot.below (hb.mono ot.le)
        replace hA := hA.trans (hb.mono hA.size)
        have hz3 := hb.size
        clear hb
        go_wp2_with fail
        refine (equalLists_same _ _ _ _ _ _ (apF (m : Int)) _ ot.rd sp.rd (by omega) hil).mono ?_
        rintro e w4 ⟨rfl, hd⟩
        have hb : Below w3.heap.size w3 w4 := Dr.below hd _
        clear hd
        replace ot := ot.below (hb.mono ot.le)
        replace sp := sp.below (hb.mono sp.le)
        replace hA := hA.trans (hb.mono hA.size)
        have hz4 := hb.size
        clear hb
        rw [HAF.out] at ot sp hln hil ⊢
        go_wp2_with fail
        go_loopw [5] (fun vi wr => ∃ k : Nat, k ≤ (allQ m m m).length ∧ vi = .int .i64 k ∧ Below w4.heap.size w4 wr) (fun vi _ => 2000 - (intOf vi).toNat)
        case atStart => exact ⟨0, Nat.zero_le _, rfl, Below.refl _ _⟩
        case round =>
          obtain ⟨k, hk, rfl, hbr⟩ := hrel
          by_cases hlt : k < (allQ m m m).length
          · have llr := ot.below (hbr.mono ot.le)
            have hzr := hbr.size
            have hle := ot.le
            obtain ⟨b2, o2, a2, c2, e2, hb2, hc, hx, _⟩ := (llr.rd).at_ hlt
            subst e2
            have hlt' : (k : Int) < ((allQ m m m).length : Int) := by omega
            have hX16 : ((allQ m m m)[k]).length ≤ 4611686018427387904 := hil _ (List.getElem_mem hlt)
            obtain ⟨q1, q2⟩ := HFA.out.2 k hlt
            obtain ⟨X, hXX⟩ : ∃ X, X = (allQ m m m)[k] := ⟨_, rfl⟩
            rw [← hXX] at hc hx hX16 q1 q2
            have Q1 := Lib.hid q1
            have Q2 := Lib.hid q2
            clear hXX llr q1 q2
            have hb2' : b2 < wr.heap.size := by omega
            have hmm : ((m : Int) != (m : Int)) = false := by simp
            have hkk : ((k : Int) != (k : Int)) = false := by simp
            go_wp2_with fail
            refine (iSumOf_any _ _ _ X _ hx (by omega) hX16).mono ?_
            rintro e wr1 ⟨rfl, hbb1⟩
            rw [Q1.out]
            have hx1 := hx.below (hbb1.mono (by omega))
            have hc1 := (hbb1.cell (p := ⟨b2, o2 + k, none⟩) (by show b2 < _; omega)).trans hc
            have hzz1 := hbb1.size
            go_wp2_with fail
            refine (iPlaceOf_any _ _ _ X _ hx1 (by omega) hX16).mono ?_
            rintro e wr2 ⟨rfl, hbb2⟩
            rw [Q2.out]
            go_wp2_with fail
            go_roundw
            case rel => exact ⟨k + 1, by omega, by go_num, hbr.trans ((hbb1.trans (hbb2.mono hbb1.size)).mono hbr.size)⟩
            case measure => simp [intOf]; omega
          · obtain rfl : k = (allQ m m m).length := by omega
            replace ot := ot.below (hbr.mono ot.le)
            replace hA := hA.trans (hbr.mono hA.size)
            clear hbr sp
            obtain ⟨w5, rfl⟩ : ∃ wx : World, wx = wr := ⟨_, rfl⟩
            have HLN := Lib.hid HFA.out.1
            go_wp2_with fail
            refine (iCountParts_any (m : Int) _).mono ?_
            rintro e w6 ⟨rfl, hb⟩
            rw [← HLN.out]
            replace hA := hA.trans (hb.mono hA.size)
            clear hb
            go_wp2_with fail
            go_ret
            exact ⟨rfl, hA⟩
  · have hl' : 1048576 < bs.length := by omega
    go_enter Try.func7, Try.ntmps7
    go_wp2_with fail
    go_ret
    exact ⟨rfl, Below.refl _ _⟩

theorem own : ownKnob Try.prog.godebug = none := by kernel_rfl
theorem laidOut : laidOutB Try.prog = true := by kernel_rfl

set_option maxRecDepth 100000 in
theorem lifted (os : Os) (started : os.Started) (H : Type) (enc : TypeId × Value → H) :
    ReturnsInHanded {} Try.checked os 7 .any (Rows.fnAllPartsSpec.pre6 enc Try.prog Try.f7 Rows.fnAllPartsRow.domain false) (Rows.fnAllPartsSpec.post enc Try.prog Try.f7 false true false false) := by
  refine returnsInHanded_of_change (C := Try.checked) own started (by kernel_rfl) Try.func7
    (ChangeSpec.witness6 (enc := enc) (C := Try.checked) false ⟨#[], #[.slice none 0 0], []⟩ 8 (by kernel_rfl) (by kernel_rfl) (by kernel_rfl) (by kernel_rfl)) ?_
  intro W base args ds gs before hval0 hW hcnd _
  have hval : ∀ (j : Nat) t v, Try.f7.params[j]? = some t → args[j]? = some v → Value.okWide Try.prog W .any base t v := hval0
  have hW' := hW
  obtain ⟨p, q, hA0, hV, rfl, hfz, hnd⟩ := hW
  have hA : DataW.TrodAll enc Try.prog W 0 (fun _ => true) true Try.f7.params.toList args.toList ds p := hA0
  rw [Try.params7] at hA hval
  obtain ⟨v0, vs0, d0, ds0, p0, q0, hargs, rfl, rfl, h0, r0⟩ := trodAll_cons hA
  obtain ⟨rfl, rfl, rfl⟩ := trodAll_nil r0
  obtain rfl : args = #[v0] := by cases args; simp_all
  obtain ⟨rfl, rfl⟩ := trodVars_none hV
  obtain ⟨a0, len0, cap0, rfl⟩ := okWide_slice Try.underlying27 (hval 0 27 v0 rfl rfl)
  have k0 := h0
  have lt0 : ∀ x ∈ p0, x.block < W.heap.size := by obtain ⟨m, hm⟩ := k0; exact DataW.trod_lt m _ _ _ hm
  obtain ⟨z0, w0⟩ : ∃ zs, IsRow .u8 W a0 len0 cap0 zs := by
    obtain ⟨fuel, hf⟩ := h0
    rcases open_ints Try.underlying27 Try.underlying5 (by kernel_rfl) hf with ⟨hcs, _⟩ | ⟨x, l, c, zs, hcs, _, hl, hm, hz, _, hcell, hwz⟩
    · simp [Value.cells] at hcs
      obtain ⟨rfl, rfl, rfl⟩ := hcs
      exact ⟨[], .inl ⟨rfl, rfl, rfl, rfl⟩⟩
    · simp [Value.cells] at hcs
      obtain ⟨rfl, rfl, rfl⟩ := hcs
      exact ⟨zs, .inr ⟨_, rfl, hl, hm, by simpa using hz, hcell, hwz⟩⟩
  have lc0 := w0.lc
  obtain ⟨L0, rfl, R0, wf0, m0⟩ := w0.rd
  clear hA0 hval0
  refine (walk a0 cap0 L0 W R0 wf0 m0 (by simpa using lc0)).mono fun e W' ⟨he, bel⟩ => ?_
  subst he
  exact ⟨_, rfl, _, _, _, [], _, [], hW', trodAll_mk1 (shut_bool Try.underlying4 _), (trodAll_cons_mk (Below.trod laidOut (by kernel_rfl) (of_decide_eq_true (by kernel_rfl)) k0 bel lt0) trodAll_mk0), rfl, bel.frame _, fun h => by cases h⟩

theorem over : Rows.fnAllPartsRow.holds Try.pinned (OpenSpec.ofChange Rows.fnAllPartsSpec) :=
  OpenClaim.holds_of_wide 7 Try.f7 rfl rfl rfl rfl rfl rfl rfl ⟨rfl, rfl, rfl, rfl, rfl⟩ rfl rfl rfl rfl rfl (by kernel_rfl) Try.func7 (by kernel_rfl)
    (of_decide_eq_true (by kernel_rfl)) (by unfold Func.isWrapper; first | (rw [if_pos (by decide +kernel)]; kernel_rfl) | (rw [if_neg (by decide +kernel)]; exact ⟨rfl, rfl⟩))
    (fun os started H enc _ => lifted os started H enc)

/-- the given statement -/
theorem proved : Rows.FnAllPartsSaid := over
end Go.Proofs.Yteglcoalfgjjiaa.fnAllParts
