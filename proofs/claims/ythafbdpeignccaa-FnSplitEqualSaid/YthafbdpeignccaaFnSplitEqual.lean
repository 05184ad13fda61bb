/-
  'laws.FnSplitEqual' returns true for every code, and the code reads as it did. No condition.
-/
import Derived.Test.YthafbdpeignccaaRows
import Derived.Test.YthafbdpeignccaaZA1
import Derived.Test.YthafbdpeignccaaZA2
import Derived.Test.YthafbdpeignccaaZA3
import Derived.Test.YthafbdpeignccaaZA4
import Derived.Test.YthafbdpeignccaaZA5
import Derived.Test.YthafbdpeignccaaZA6
import Derived.Test.YthafbdpeignccaaZA7
import Derived.Test.YthafbdpeignccaaZA8
import Derived.WalkKit
import Derived.ProofKit
import Derived.OpenShut
import Derived.ShutString
import Derived.ChangeOld
import Derived.Below
namespace Go.Proofs.Ythafbdpeignccaa.fnSplitEqual
open Go.ChangeShapes Go.WideShapes Go.ChangeAt Go.RowKit NP
open Go.ChangeMaps (open_string shut_string)
set_option linter.unusedVariables false
theorem fitsV {L : List Int} (h : vsm L = true) : sumFits L := fun k hk => by have := vsm_bd (vsm_take h k); omega

set_option maxHeartbeats 1600000 in
theorem walk (a : Option Addr) (c : Nat) (bs : List Int) (w0 : World) (h : Rd w0 w0.heap.size a (bs.map (Value.int .u8))) (hb : ∀ n ∈ bs, (Lit.int .u8 n).wf = true) (m : bs.length ≤ maxLen) (hc : bs.length ≤ c) :
    Calls Try.prog 6 #[.slice a bs.length c] w0 fun e w' => e = .returned (.bool true) ∧ Below w0.heap.size w0 w' := by
  unfold maxLen at m
  by_cases hl : bs.length ≤ 1048576
  · go_enter Try.func6, Try.ntmps6
    go_wp2_with fail
    refine (DrawSplitEqual_any a c _ bs _ h (Nat.le_refl _) hb hl hc).mono ?_
    rintro e w1 ⟨a1, c1, P, x, rfl, p, hP, hx, hA⟩
    clear h hb hl hc m
    cases ht : mpOk (kSp x) P with
    | true =>
      obtain ⟨n, rfl⟩ := Int.eq_ofNat_of_zero_le (show 0 ≤ x by omega)
      obtain ⟨hn, hvP, hE, hokX, hbX, hsX, hvX, hkX⟩ := sp_back ht
      have HT := Lib.hid ht
      have HKX : Hid (n = 2 → kindF [111, 100, 100] (soF n P) = true) := Lib.hid (fun e => by
        subst e
        rw [kindF_some kindOf_odd, hvX, (kFall_none hvX).2, show ((soF 2 P).all fun x => x % 2 != 0) = true from hkX]; rfl)
      obtain ⟨X, hXX⟩ : ∃ X, X = soF n P := ⟨_, rfl⟩
      rw [← hXX] at hE hokX hbX hsX hvX HKX
      have HE := Lib.hid hE
      have HC := Lib.hid hbX
      have HD := Lib.hid hokX
      have HS := Lib.hid hsX
      have HK := HKX
      have HFX := Lib.hid (fitsV (vsm_of_valid hvX))
      have HFP := Lib.hid (fitsV (vsm_of_valid hvP))
      have hX16 := (valid_bd hvX).2.2.2
      clear ht hE hokX hbX hsX hvX hXX hvP hkX HKX
      go_wp2_with fail
      refine (iSplitEqual_any _ _ _ P (n : Int) _ p.rd (by omega) (by omega)).mono ?_
      rintro e w2 ⟨a_ot, c_ot, rfl, ot, hb⟩
      replace p := p.below (hb.mono p.le)
      replace hA := hA.trans (hb.mono hA.size)
      have hz2 := hb.size
      clear hb
      rw [HE.out] at ot ⊢
      rw [HT.out]
      go_wp2_with fail
      refine (sSplitEqual_any _ _ _ P (n : Int) _ p.rd (by omega) (by omega)).mono ?_
      rintro e w3 ⟨a_sp, c_sp, rfl, sp, hb⟩
      replace p := p.below (hb.mono p.le)
      replace ot := ot.below (hb.mono ot.le)
      replace hA := hA.trans (hb.mono hA.size)
      have hz3 := hb.size
      clear hb
      rw [HE.out] at sp ⊢
      rw [HT.out]
      go_wp2_with fail
      refine (equalInts_same _ _ _ _ _ _ _ _ ot.rd sp.rd (by omega)).mono ?_
      rintro e w4 ⟨rfl, hd⟩
      have hb : Below w3.heap.size w3 w4 := Dr.below hd _
      clear hd
      replace p := p.below (hb.mono p.le)
      replace ot := ot.below (hb.mono ot.le)
      replace sp := sp.below (hb.mono sp.le)
      replace hA := hA.trans (hb.mono hA.size)
      have hz4 := hb.size
      clear hb
      go_wp2_with fail
      refine (iMergeEqual_any _ _ _ X (n : Int) _ ot.rd (by omega) (by omega)).mono ?_
      rintro e w5 ⟨a_bk, c_bk, rfl, bk, hb⟩
      replace p := p.below (hb.mono p.le)
      replace ot := ot.below (hb.mono ot.le)
      replace sp := sp.below (hb.mono sp.le)
      replace hA := hA.trans (hb.mono hA.size)
      have hz5 := hb.size
      clear hb
      rw [HC.out] at bk ⊢
      rw [HD.out]
      go_wp2_with fail
      refine (equalInts_same _ _ _ _ _ _ _ _ bk.rd p.rd (by omega)).mono ?_
      rintro e w6 ⟨rfl, hd⟩
      have hb : Below w5.heap.size w5 w6 := Dr.below hd _
      clear hd
      replace p := p.below (hb.mono p.le)
      replace ot := ot.below (hb.mono ot.le)
      replace sp := sp.below (hb.mono sp.le)
      replace bk := bk.below (hb.mono bk.le)
      replace hA := hA.trans (hb.mono hA.size)
      have hz6 := hb.size
      clear hb
      go_wp2_with fail
      refine (total_any _ _ _ _ _ ot.rd HFX.out (by omega)).mono ?_
      rintro e w' ⟨rfl, rfl⟩
      go_wp2_with fail
      refine (total_any _ _ _ _ _ p.rd HFP.out (by omega)).mono ?_
      rintro e w' ⟨rfl, rfl⟩
      by_cases h2 : n = 2
      · subst h2
        have hg2 : decide ((2 : Int) < ((2 : Nat) : Int)) = false := by decide
        rw [HS.out]
        go_wp2_with fail
        refine (iIsKind_any (⟨#[111, 100, 100]⟩ : ByteArray) (by decide) _ _ _ X _ ot.rd (by omega) (by omega)).mono ?_
        rintro e w7 ⟨rfl, hb⟩
        replace p := p.below (hb.mono p.le)
        replace ot := ot.below (hb.mono ot.le)
        replace sp := sp.below (hb.mono sp.le)
        replace bk := bk.below (hb.mono bk.le)
        replace hA := hA.trans (hb.mono hA.size)
        have hz7 := hb.size
        clear hb
        rw [show kindF (⟨#[111, 100, 100]⟩ : ByteArray).data.toList X = true from by first | exact HK.out rfl | exact HK.out trivial | exact HK.out]
        go_wp2_with fail
        go_ret
        exact ⟨rfl, hA⟩
      · have hg2 : (2 : Int) < (n : Int) := by omega
        rw [HS.out]
        go_wp2_with fail
        go_ret
        exact ⟨rfl, hA⟩
    | false =>
      have HT := Lib.hid ht
      have HX : Hid (mpF (kSp x) (soF x.toNat) P = []) := Lib.hid (by unfold mpF; rw [ht]; rfl)
      have hnl : ([] : List Int).length ≤ 4611686018427387904 := by simp
      clear ht
      go_wp2_with fail
      refine (iSplitEqual_any _ _ _ P x _ p.rd (by omega) (by omega)).mono ?_
      rintro e w2 ⟨a_ot, c_ot, rfl, ot, hb⟩
      replace p := p.below (hb.mono p.le)
      replace hA := hA.trans (hb.mono hA.size)
      have hz2 := hb.size
      clear hb
      rw [HX.out] at ot ⊢
      rw [HT.out]
      go_wp2_with fail
      refine (sSplitEqual_any _ _ _ P x _ p.rd (by omega) (by omega)).mono ?_
      rintro e w3 ⟨a_sp, c_sp, rfl, sp, hb⟩
      replace p := p.below (hb.mono p.le)
      replace ot := ot.below (hb.mono ot.le)
      replace hA := hA.trans (hb.mono hA.size)
      have hz3 := hb.size
      clear hb
      rw [HX.out] at sp ⊢
      rw [HT.out]
      go_wp2_with fail
      refine (equalInts_same _ _ _ _ _ _ _ _ ot.rd sp.rd hnl).mono ?_
      rintro e w4 ⟨rfl, hd⟩
      have hb : Below w3.heap.size w3 w4 := Dr.below hd _
      clear hd
      replace p := p.below (hb.mono p.le)
      replace ot := ot.below (hb.mono ot.le)
      replace sp := sp.below (hb.mono sp.le)
      replace hA := hA.trans (hb.mono hA.size)
      have hz4 := hb.size
      clear hb
      go_wp2_with fail
      refine (equalInts_same _ _ _ _ _ _ _ _ ot.rd sp.rd hnl).mono ?_
      rintro e w5 ⟨rfl, hd⟩
      have hb : Below w4.heap.size w4 w5 := Dr.below hd _
      clear hd
      replace p := p.below (hb.mono p.le)
      replace ot := ot.below (hb.mono ot.le)
      replace sp := sp.below (hb.mono sp.le)
      replace hA := hA.trans (hb.mono hA.size)
      have hz5 := hb.size
      clear hb
      go_wp2_with fail
      go_ret
      exact ⟨rfl, hA⟩
  · have hl' : 1048576 < bs.length := by omega
    go_enter Try.func6, Try.ntmps6
    go_wp2_with fail
    go_ret
    exact ⟨rfl, Below.refl _ _⟩

theorem own : ownKnob Try.prog.godebug = none := by kernel_rfl
theorem laidOut : laidOutB Try.prog = true := by kernel_rfl

set_option maxRecDepth 100000 in
theorem lifted (os : Os) (started : os.Started) (H : Type) (enc : TypeId × Value → H) :
    ReturnsInHanded {} Try.checked os 6 .any (Rows.fnSplitEqualSpec.pre6 enc Try.prog Try.f6 Rows.fnSplitEqualRow.domain false) (Rows.fnSplitEqualSpec.post enc Try.prog Try.f6 false true false false) := by
  refine returnsInHanded_of_change (C := Try.checked) own started (by kernel_rfl) Try.func6
    (ChangeSpec.witness6 (enc := enc) (C := Try.checked) false ⟨#[], #[.slice none 0 0], []⟩ 8 (by kernel_rfl) (by kernel_rfl) (by kernel_rfl) (by kernel_rfl)) ?_
  intro W base args ds gs before hval0 hW hcnd _
  have hval : ∀ (j : Nat) t v, Try.f6.params[j]? = some t → args[j]? = some v → Value.okWide Try.prog W .any base t v := hval0
  have hW' := hW
  obtain ⟨p, q, hA0, hV, rfl, hfz, hnd⟩ := hW
  have hA : DataW.TrodAll enc Try.prog W 0 (fun _ => true) true Try.f6.params.toList args.toList ds p := hA0
  rw [Try.params6] at hA hval
  obtain ⟨v0, vs0, d0, ds0, p0, q0, hargs, rfl, rfl, h0, r0⟩ := trodAll_cons hA
  obtain ⟨rfl, rfl, rfl⟩ := trodAll_nil r0
  obtain rfl : args = #[v0] := by cases args; simp_all
  obtain ⟨rfl, rfl⟩ := trodVars_none hV
  obtain ⟨a0, len0, cap0, rfl⟩ := okWide_slice Try.underlying29 (hval 0 29 v0 rfl rfl)
  have k0 := h0
  have lt0 : ∀ x ∈ p0, x.block < W.heap.size := by obtain ⟨m, hm⟩ := k0; exact DataW.trod_lt m _ _ _ hm
  obtain ⟨z0, w0⟩ : ∃ zs, IsRow .u8 W a0 len0 cap0 zs := by
    obtain ⟨fuel, hf⟩ := h0
    rcases open_ints Try.underlying29 Try.underlying5 (by kernel_rfl) hf with ⟨hcs, _⟩ | ⟨x, l, c, zs, hcs, _, hl, hm, hz, _, hcell, hwz⟩
    · simp [Value.cells] at hcs
      obtain ⟨rfl, rfl, rfl⟩ := hcs
      exact ⟨[], .inl ⟨rfl, rfl, rfl, rfl⟩⟩
    · simp [Value.cells] at hcs
      obtain ⟨rfl, rfl, rfl⟩ := hcs
      exact ⟨zs, .inr ⟨_, rfl, hl, hm, by simpa using hz, hcell, hwz⟩⟩
  have lc0 := w0.lc
  obtain ⟨L0, rfl, R0, wf0, m0⟩ := w0.rd
  clear hA0 hval0
  refine (walk a0 cap0 L0 W R0 wf0 m0 (by simpa using lc0)).mono fun e W' ⟨he, bel⟩ => ?_
  subst he
  exact ⟨_, rfl, _, _, _, [], _, [], hW', trodAll_mk1 (shut_bool Try.underlying4 _), (trodAll_cons_mk (Below.trod laidOut (by kernel_rfl) (of_decide_eq_true (by kernel_rfl)) k0 bel lt0) trodAll_mk0), rfl, bel.frame _, fun h => by cases h⟩

theorem over : Rows.fnSplitEqualRow.holds Try.pinned (OpenSpec.ofChange Rows.fnSplitEqualSpec) :=
  OpenClaim.holds_of_wide 6 Try.f6 rfl rfl rfl rfl rfl rfl rfl ⟨rfl, rfl, rfl, rfl, rfl⟩ rfl rfl rfl rfl rfl (by kernel_rfl) Try.func6 (by kernel_rfl)
    (of_decide_eq_true (by kernel_rfl)) (by unfold Func.isWrapper; first | (rw [if_pos (by decide +kernel)]; kernel_rfl) | (rw [if_neg (by decide +kernel)]; exact ⟨rfl, rfl⟩))
    (fun os started H enc _ => lifted os started H enc)

/-- the given statement -/
theorem proved : Rows.FnSplitEqualSaid := over
end Go.Proofs.Ythafbdpeignccaa.fnSplitEqual
