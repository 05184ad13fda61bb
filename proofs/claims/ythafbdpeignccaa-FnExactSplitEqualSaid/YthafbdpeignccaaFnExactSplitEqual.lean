/-
  'laws.FnExactSplitEqual' returns true for all arguments, and they read as they did. No condition.
-/
import Derived.Test.YthafbdpeignccaaRows
import Derived.Test.YthafbdpeignccaaZA1
import Derived.Test.YthafbdpeignccaaZA2
import Derived.Test.YthafbdpeignccaaZA3
import Derived.Test.YthafbdpeignccaaZA4
import Derived.Test.YthafbdpeignccaaZA5
import Derived.Test.YthafbdpeignccaaZA6
import Derived.Test.YthafbdpeignccaaZA7
import Derived.Test.YthafbdpeignccaaZA8
import Derived.WalkKit
import Derived.ProofKit
import Derived.OpenShut
import Derived.ShutString
import Derived.ChangeOld
import Derived.Below
namespace Go.Proofs.Ythafbdpeignccaa.fnExactSplitEqual
open Go.ChangeShapes Go.WideShapes Go.ChangeAt Go.RowKit NP
open Go.ChangeMaps (open_string shut_string)
set_option linter.unusedVariables false

theorem walk (w0 : World) (a0 : Option Addr) (c0 : Nat) (L0 : List Int) (h0 : Rd w0 w0.heap.size a0 (ints L0)) (m0 : L0.length ≤ maxLen) (n1 : Int) (wf1 : (Lit.int .i64 n1).wf = true) :
    Calls Try.prog 5 #[.slice a0 L0.length c0, .int .i64 n1] w0 fun e w' => e = .returned (.bool true) ∧ Below w0.heap.size w0 w' := by
  unfold maxLen at m0
  by_cases hl0 : L0.length ≤ 1048576
  · have hA : Below w0.heap.size w0 w0 := Below.refl _ _
    have hF : (mpF (kSp n1) (soF n1.toNat) L0).length ≤ 1048576 := by have := mpS_len L0 n1; omega
    go_enter Try.func5, Try.ntmps5
    go_wp2_with fail
    refine (toIntS_any a0 c0 w0.heap.size L0 _ (h0.below hA) hA.size hl0).mono ?_
    rintro e w1 ⟨a_t0, rfl, t0, hb⟩
    replace hA := hA.trans (hb.mono hA.size)
    have hz1 := hb.size
    clear hb
    go_wp2_with fail
    refine (sSplitEqual_any _ _ _ L0 n1 _ t0.rd (by omega) (by omega)).mono ?_
    rintro e w2 ⟨a_r0, c_r0, rfl, r0, hb⟩
    replace t0 := t0.below (hb.mono t0.le)
    replace hA := hA.trans (hb.mono hA.size)
    have hz2 := hb.size
    clear hb
    clear t0
    go_wp2_with fail
    refine (toIntS_any a0 c0 w0.heap.size L0 _ (h0.below hA) hA.size hl0).mono ?_
    rintro e w3 ⟨a_x0, rfl, x0, hb⟩
    replace r0 := r0.below (hb.mono r0.le)
    replace hA := hA.trans (hb.mono hA.size)
    have hz3 := hb.size
    clear hb
    go_wp2_with fail
    refine (iSplitEqual_any _ _ _ L0 n1 _ x0.rd (by omega) (by omega)).mono ?_
    rintro e w4 ⟨a_g0, c_g0, rfl, g0, hb⟩
    replace r0 := r0.below (hb.mono r0.le)
    replace x0 := x0.below (hb.mono x0.le)
    replace hA := hA.trans (hb.mono hA.size)
    have hz4 := hb.size
    clear hb
    go_wp2_with fail
    refine (eqIntS_same _ _ _ _ _ _ _ _ g0.rd r0.rd (by omega)).mono ?_
    rintro e w5 ⟨rfl, hd⟩
    have hb : Below w4.heap.size w4 w5 := Dr.below hd _
    clear hd
    replace r0 := r0.below (hb.mono r0.le)
    replace x0 := x0.below (hb.mono x0.le)
    replace g0 := g0.below (hb.mono g0.le)
    replace hA := hA.trans (hb.mono hA.size)
    have hz5 := hb.size
    clear hb
    go_wp2_with fail
    refine (toIntS_any a0 c0 w0.heap.size L0 _ (h0.below hA) hA.size hl0).mono ?_
    rintro e w6 ⟨a_u0, rfl, u0, hb⟩
    replace r0 := r0.below (hb.mono r0.le)
    replace x0 := x0.below (hb.mono x0.le)
    replace g0 := g0.below (hb.mono g0.le)
    replace hA := hA.trans (hb.mono hA.size)
    have hz6 := hb.size
    clear hb
    go_wp2_with fail
    refine (eqIntS_same _ _ _ _ _ _ _ _ x0.rd u0.rd (by omega)).mono ?_
    rintro e w7 ⟨rfl, hd⟩
    have hb : Below w6.heap.size w6 w7 := Dr.below hd _
    clear hd
    replace r0 := r0.below (hb.mono r0.le)
    replace x0 := x0.below (hb.mono x0.le)
    replace g0 := g0.below (hb.mono g0.le)
    replace u0 := u0.below (hb.mono u0.le)
    replace hA := hA.trans (hb.mono hA.size)
    have hz7 := hb.size
    clear hb
    clear u0
    go_wp2_with fail
    refine (markIntS_any _ _ _ _ _ _ _ x0 (by omega) (by omega) (by omega)).mono ?_
    rintro e w8 ⟨rfl, x0', hg⟩
    have hbm := x0.belowMark (by omega) hg
    replace r0 := r0.below (hbm.mono (by omega))
    replace g0 := g0.above x0 hg (by omega)
    replace hA := hA.trans (hbm.mono (by omega))
    have hz8 := hbm.size
    clear hbm hg x0
    have x0 := x0'
    clear x0'
    go_wp2_with fail
    refine (eqIntS_same _ _ _ _ _ _ _ _ g0.rd r0.rd (by omega)).mono ?_
    rintro e w9 ⟨rfl, hd⟩
    have hb : Below w8.heap.size w8 w9 := Dr.below hd _
    clear hd
    replace r0 := r0.below (hb.mono r0.le)
    replace x0 := x0.below (hb.mono x0.le)
    replace g0 := g0.below (hb.mono g0.le)
    replace hA := hA.trans (hb.mono hA.size)
    have hz9 := hb.size
    clear hb
    go_wp2_with fail
    refine (markIntS_any _ _ _ _ _ _ _ g0 (by omega) (by omega) (by omega)).mono ?_
    rintro e w10 ⟨rfl, g0', hg⟩
    have hbm := g0.belowMark (by omega) hg
    replace r0 := r0.below (hbm.mono (by omega))
    replace x0 := x0.below (hbm.mono (by omega))
    replace hA := hA.trans (hbm.mono (by omega))
    have hz10 := hbm.size
    clear hbm hg g0
    have g0 := g0'
    clear g0'
    go_wp2_with fail
    refine (heldIntS_any _ _ _ _ _ _ g0.rd (by omega) (by omega) (by omega)).mono ?_
    rintro e w' ⟨rfl, rfl⟩
    go_wp2_with fail
    refine (toIntS_any a0 c0 w0.heap.size L0 _ (h0.below hA) hA.size hl0).mono ?_
    rintro e w11 ⟨a_v0, rfl, v0, hb⟩
    replace r0 := r0.below (hb.mono r0.le)
    replace x0 := x0.below (hb.mono x0.le)
    replace g0 := g0.below (hb.mono g0.le)
    replace hA := hA.trans (hb.mono hA.size)
    have hz11 := hb.size
    clear hb
    go_wp2_with fail
    refine (iSplitEqual_any _ _ _ L0 n1 _ v0.rd (by omega) (by omega)).mono ?_
    rintro e w12 ⟨a_h_0, c_h_0, rfl, h_0, hb⟩
    replace r0 := r0.below (hb.mono r0.le)
    replace x0 := x0.below (hb.mono x0.le)
    replace g0 := g0.below (hb.mono g0.le)
    replace v0 := v0.below (hb.mono v0.le)
    replace hA := hA.trans (hb.mono hA.size)
    have hz12 := hb.size
    clear hb
    clear v0
    go_wp2_with fail
    refine (eqIntS_same _ _ _ _ _ _ _ _ h_0.rd r0.rd (by omega)).mono ?_
    rintro e w13 ⟨rfl, hd⟩
    have hb : Below w12.heap.size w12 w13 := Dr.below hd _
    clear hd
    replace r0 := r0.below (hb.mono r0.le)
    replace x0 := x0.below (hb.mono x0.le)
    replace g0 := g0.below (hb.mono g0.le)
    replace h_0 := h_0.below (hb.mono h_0.le)
    replace hA := hA.trans (hb.mono hA.size)
    have hz13 := hb.size
    clear hb
    go_wp2_with fail
    refine (heldIntS_any _ _ _ _ _ _ g0.rd (by omega) (by omega) (by omega)).mono ?_
    rintro e w' ⟨rfl, rfl⟩
    go_wp2_with fail
    go_ret
    exact ⟨rfl, hA⟩
  · have hl0' : 1048576 < L0.length := by omega
    go_enter Try.func5, Try.ntmps5
    go_wp2_with fail
    go_ret
    exact ⟨rfl, Below.refl _ _⟩

theorem own : ownKnob Try.prog.godebug = none := by kernel_rfl
theorem laidOut : laidOutB Try.prog = true := by kernel_rfl

set_option maxRecDepth 100000 in
theorem lifted (os : Os) (started : os.Started) (H : Type) (enc : TypeId × Value → H) :
    ReturnsInHanded {} Try.checked os 5 .any (Rows.fnExactSplitEqualSpec.pre6 enc Try.prog Try.f5 Rows.fnExactSplitEqualRow.domain false) (Rows.fnExactSplitEqualSpec.post enc Try.prog Try.f5 false true false false) := by
  refine returnsInHanded_of_change (C := Try.checked) own started (by kernel_rfl) Try.func5
    (ChangeSpec.witness6 (enc := enc) (C := Try.checked) false ⟨#[], #[.slice none 0 0, .int .i64 0], []⟩ 8 (by kernel_rfl) (by kernel_rfl) (by kernel_rfl) (by kernel_rfl)) ?_
  intro W base args ds gs before hval0 hW hcnd _
  have hval : ∀ (j : Nat) t v, Try.f5.params[j]? = some t → args[j]? = some v → Value.okWide Try.prog W .any base t v := hval0
  have hW' := hW
  obtain ⟨p, q, hA0, hV, rfl, hfz, hnd⟩ := hW
  have hA : DataW.TrodAll enc Try.prog W 0 (fun _ => true) true Try.f5.params.toList args.toList ds p := hA0
  rw [Try.params5] at hA hval
  obtain ⟨v0, vs0, d0, ds0, p0, q0, hargs, rfl, rfl, h0, r0⟩ := trodAll_cons hA
  obtain ⟨v1, vs1, d1, ds1, p1, q1, rfl, rfl, rfl, h1, r1⟩ := trodAll_cons r0
  obtain ⟨rfl, rfl, rfl⟩ := trodAll_nil r1
  obtain rfl : args = #[v0, v1] := by cases args; simp_all
  obtain ⟨rfl, rfl⟩ := trodVars_none hV
  obtain ⟨a0, len0, cap0, rfl⟩ := okWide_slice Try.underlying22 (hval 0 22 v0 rfl rfl)
  have k0 := h0
  have lt0 : ∀ x ∈ p0, x.block < W.heap.size := by obtain ⟨m, hm⟩ := k0; exact DataW.trod_lt m _ _ _ hm
  obtain ⟨z0, w0⟩ : ∃ zs, IsRow .i64 W a0 len0 cap0 zs := by
    obtain ⟨fuel, hf⟩ := h0
    rcases open_ints Try.underlying22 Try.underlying3 (by kernel_rfl) hf with ⟨hcs, _⟩ | ⟨x, l, c, zs, hcs, _, hl, hm, hz, _, hcell, hwz⟩
    · simp [Value.cells] at hcs
      obtain ⟨rfl, rfl, rfl⟩ := hcs
      exact ⟨[], .inl ⟨rfl, rfl, rfl, rfl⟩⟩
    · simp [Value.cells] at hcs
      obtain ⟨rfl, rfl, rfl⟩ := hcs
      exact ⟨zs, .inr ⟨_, rfl, hl, hm, by simpa using hz, hcell, hwz⟩⟩
  have lc0 := w0.lc
  obtain ⟨L0, rfl, R0, wf0, m0⟩ := w0.rd
  obtain ⟨n1, rfl, rfl, rfl, wf1⟩ := open_int Try.underlying3 (hval 1 3 v1 rfl rfl) h1
  clear hA0 hval0
  refine (walk W a0 cap0 L0 R0 m0 n1 wf1).mono fun e W' ⟨he, bel⟩ => ?_
  subst he
  exact ⟨_, rfl, _, _, _, [], _, [], hW', trodAll_mk1 (shut_bool Try.underlying4 _), (trodAll_cons_mk (Below.trod laidOut (by kernel_rfl) (of_decide_eq_true (by kernel_rfl)) k0 bel lt0) (trodAll_cons_mk (shut_int Try.underlying3 wf1) trodAll_mk0)), rfl, bel.frame _, fun h => by cases h⟩

theorem over : Rows.fnExactSplitEqualRow.holds Try.pinned (OpenSpec.ofChange Rows.fnExactSplitEqualSpec) :=
  OpenClaim.holds_of_wide 5 Try.f5 rfl rfl rfl rfl rfl rfl rfl ⟨rfl, rfl, rfl, rfl, rfl⟩ rfl rfl rfl rfl rfl (by kernel_rfl) Try.func5 (by kernel_rfl)
    (of_decide_eq_true (by kernel_rfl)) (by unfold Func.isWrapper; first | (rw [if_pos (by decide +kernel)]; kernel_rfl) | (rw [if_neg (by decide +kernel)]; exact ⟨rfl, rfl⟩))
    (fun os started H enc _ => lifted os started H enc)

/-- the given statement -/
theorem proved : Rows.FnExactSplitEqualSaid := over
end Go.Proofs.Ythafbdpeignccaa.fnExactSplitEqual
