/-
  'laws.FnExactRefines' returns true for all arguments, and they read as they did. No condition.
-/
import Derived.Test.YthafbdpeignccaaRows
import Derived.Test.YthafbdpeignccaaZR1
import Derived.Test.YthafbdpeignccaaZR2
import Derived.Test.YthafbdpeignccaaZR3
import Derived.Test.YthafbdpeignccaaZR4
import Derived.Test.YthafbdpeignccaaZR5
import Derived.Test.YthafbdpeignccaaZR6
import Derived.Test.YthafbdpeignccaaZR7
import Derived.Test.YthafbdpeignccaaZR8
import Derived.Test.YthafbdpeignccaaZR9
import Derived.Test.YthafbdpeignccaaZR10
import Derived.WalkKit
import Derived.ProofKit
import Derived.OpenShut
import Derived.ShutString
import Derived.ChangeOld
import Derived.Below
namespace Go.Proofs.Ythafbdpeignccaa.fnExactRefines
open Go.ChangeShapes Go.WideShapes Go.ChangeAt Go.RowKit NP
open Go.ChangeMaps (open_string shut_string)
set_option linter.unusedVariables false

theorem walk (w0 : World) (a0 : Option Addr) (c0 : Nat) (L0 : List Int) (h0 : Rd w0 w0.heap.size a0 (ints L0)) (m0 : L0.length ≤ maxLen) (a1 : Option Addr) (c1 : Nat) (L1 : List Int) (h1 : Rd w0 w0.heap.size a1 (ints L1)) (m1 : L1.length ≤ maxLen) :
    Calls Try.prog 10 #[.slice a0 L0.length c0, .slice a1 L1.length c1] w0 fun e w' => e = .returned (.bool true) ∧ Below w0.heap.size w0 w' := by
  unfold maxLen at m0
  unfold maxLen at m1
  by_cases hl0 : L0.length ≤ 1048576
  · by_cases hl1 : L1.length ≤ 1048576
    · have hA : Below w0.heap.size w0 w0 := Below.refl _ _
      go_enter Try.func10, Try.ntmps10
      go_wp2_with fail
      refine (toIntS_any a0 c0 w0.heap.size L0 _ (h0.below hA) hA.size hl0).mono ?_
      rintro e w1 ⟨a_t0, rfl, t0, hb⟩
      replace hA := hA.trans (hb.mono hA.size)
      have hz1 := hb.size
      clear hb
      go_wp2_with fail
      refine (toIntS_any a1 c1 w0.heap.size L1 _ (h1.below hA) hA.size hl1).mono ?_
      rintro e w2 ⟨a_t1, rfl, t1, hb⟩
      replace t0 := t0.below (hb.mono t0.le)
      replace hA := hA.trans (hb.mono hA.size)
      have hz2 := hb.size
      clear hb
      go_wp2_with fail
      refine (sRefines_any _ _ _ _ _ _ L0 L1 _ t0.rd t1.rd (by omega) (by omega) (by omega) (by omega) (Nat.le_refl _) (Nat.le_refl _)).mono ?_
      rintro e w3 ⟨rfl, hb⟩
      replace t0 := t0.below (hb.mono t0.le)
      replace t1 := t1.below (hb.mono t1.le)
      replace hA := hA.trans (hb.mono hA.size)
      have hz3 := hb.size
      clear hb
      clear t0
      clear t1
      go_wp2_with fail
      refine (toIntS_any a0 c0 w0.heap.size L0 _ (h0.below hA) hA.size hl0).mono ?_
      rintro e w4 ⟨a_x0, rfl, x0, hb⟩
      replace hA := hA.trans (hb.mono hA.size)
      have hz4 := hb.size
      clear hb
      go_wp2_with fail
      refine (toIntS_any a1 c1 w0.heap.size L1 _ (h1.below hA) hA.size hl1).mono ?_
      rintro e w5 ⟨a_x1, rfl, x1, hb⟩
      replace x0 := x0.below (hb.mono x0.le)
      replace hA := hA.trans (hb.mono hA.size)
      have hz5 := hb.size
      clear hb
      go_wp2_with fail
      refine (iRefines_any _ _ _ _ _ _ L0 L1 _ x0.rd x1.rd (by omega) (by omega) (by omega) (by omega)).mono ?_
      rintro e w6 ⟨rfl, hb⟩
      replace x0 := x0.below (hb.mono x0.le)
      replace x1 := x1.below (hb.mono x1.le)
      replace hA := hA.trans (hb.mono hA.size)
      have hz6 := hb.size
      clear hb
      go_wp2_with fail
      refine (toIntS_any a0 c0 w0.heap.size L0 _ (h0.below hA) hA.size hl0).mono ?_
      rintro e w7 ⟨a_u0, rfl, u0, hb⟩
      replace x0 := x0.below (hb.mono x0.le)
      replace x1 := x1.below (hb.mono x1.le)
      replace hA := hA.trans (hb.mono hA.size)
      have hz7 := hb.size
      clear hb
      go_wp2_with fail
      refine (eqIntS_same _ _ _ _ _ _ _ _ x0.rd u0.rd (by omega)).mono ?_
      rintro e w8 ⟨rfl, hd⟩
      have hb : Below w7.heap.size w7 w8 := Dr.below hd _
      clear hd
      replace x0 := x0.below (hb.mono x0.le)
      replace x1 := x1.below (hb.mono x1.le)
      replace u0 := u0.below (hb.mono u0.le)
      replace hA := hA.trans (hb.mono hA.size)
      have hz8 := hb.size
      clear hb
      clear u0
      go_wp2_with fail
      refine (toIntS_any a1 c1 w0.heap.size L1 _ (h1.below hA) hA.size hl1).mono ?_
      rintro e w9 ⟨a_u1, rfl, u1, hb⟩
      replace x0 := x0.below (hb.mono x0.le)
      replace x1 := x1.below (hb.mono x1.le)
      replace hA := hA.trans (hb.mono hA.size)
      have hz9 := hb.size
      clear hb
      go_wp2_with fail
      refine (eqIntS_same _ _ _ _ _ _ _ _ x1.rd u1.rd (by omega)).mono ?_
      rintro e w10 ⟨rfl, hd⟩
      have hb : Below w9.heap.size w9 w10 := Dr.below hd _
      clear hd
      replace x0 := x0.below (hb.mono x0.le)
      replace x1 := x1.below (hb.mono x1.le)
      replace u1 := u1.below (hb.mono u1.le)
      replace hA := hA.trans (hb.mono hA.size)
      have hz10 := hb.size
      clear hb
      clear u1
      go_wp2_with fail
      go_ret
      exact ⟨rfl, hA⟩
    · have hl1' : 1048576 < L1.length := by omega
      go_enter Try.func10, Try.ntmps10
      go_wp2_with fail
      go_ret
      exact ⟨rfl, Below.refl _ _⟩
  · have hl0' : 1048576 < L0.length := by omega
    go_enter Try.func10, Try.ntmps10
    go_wp2_with fail
    go_ret
    exact ⟨rfl, Below.refl _ _⟩

theorem own : ownKnob Try.prog.godebug = none := by kernel_rfl
theorem laidOut : laidOutB Try.prog = true := by kernel_rfl

set_option maxRecDepth 100000 in
theorem lifted (os : Os) (started : os.Started) (H : Type) (enc : TypeId × Value → H) :
    ReturnsInHanded {} Try.checked os 10 .any (Rows.fnExactRefinesSpec.pre6 enc Try.prog Try.f10 Rows.fnExactRefinesRow.domain false) (Rows.fnExactRefinesSpec.post enc Try.prog Try.f10 false true false false) := by
  refine returnsInHanded_of_change (C := Try.checked) own started (by kernel_rfl) Try.func10
    (ChangeSpec.witness6 (enc := enc) (C := Try.checked) false ⟨#[], #[.slice none 0 0, .slice none 0 0], []⟩ 8 (by kernel_rfl) (by kernel_rfl) (by kernel_rfl) (by kernel_rfl)) ?_
  intro W base args ds gs before hval0 hW hcnd _
  have hval : ∀ (j : Nat) t v, Try.f10.params[j]? = some t → args[j]? = some v → Value.okWide Try.prog W .any base t v := hval0
  have hW' := hW
  obtain ⟨p, q, hA0, hV, rfl, hfz, hnd⟩ := hW
  have hA : DataW.TrodAll enc Try.prog W 0 (fun _ => true) true Try.f10.params.toList args.toList ds p := hA0
  rw [Try.params10] at hA hval
  obtain ⟨v0, vs0, d0, ds0, p0, q0, hargs, rfl, rfl, h0, r0⟩ := trodAll_cons hA
  obtain ⟨v1, vs1, d1, ds1, p1, q1, rfl, rfl, rfl, h1, r1⟩ := trodAll_cons r0
  obtain ⟨rfl, rfl, rfl⟩ := trodAll_nil r1
  obtain rfl : args = #[v0, v1] := by cases args; simp_all
  obtain ⟨rfl, rfl⟩ := trodVars_none hV
  obtain ⟨a0, len0, cap0, rfl⟩ := okWide_slice Try.underlying22 (hval 0 22 v0 rfl rfl)
  have k0 := h0
  have lt0 : ∀ x ∈ p0, x.block < W.heap.size := by obtain ⟨m, hm⟩ := k0; exact DataW.trod_lt m _ _ _ hm
  obtain ⟨z0, w0⟩ : ∃ zs, IsRow .i64 W a0 len0 cap0 zs := by
    obtain ⟨fuel, hf⟩ := h0
    rcases open_ints Try.underlying22 Try.underlying3 (by kernel_rfl) hf with ⟨hcs, _⟩ | ⟨x, l, c, zs, hcs, _, hl, hm, hz, _, hcell, hwz⟩
    · simp [Value.cells] at hcs
      obtain ⟨rfl, rfl, rfl⟩ := hcs
      exact ⟨[], .inl ⟨rfl, rfl, rfl, rfl⟩⟩
    · simp [Value.cells] at hcs
      obtain ⟨rfl, rfl, rfl⟩ := hcs
      exact ⟨zs, .inr ⟨_, rfl, hl, hm, by simpa using hz, hcell, hwz⟩⟩
  have lc0 := w0.lc
  obtain ⟨L0, rfl, R0, wf0, m0⟩ := w0.rd
  obtain ⟨a1, len1, cap1, rfl⟩ := okWide_slice Try.underlying22 (hval 1 22 v1 rfl rfl)
  have k1 := h1
  have lt1 : ∀ x ∈ p1, x.block < W.heap.size := by obtain ⟨m, hm⟩ := k1; exact DataW.trod_lt m _ _ _ hm
  obtain ⟨z1, w1⟩ : ∃ zs, IsRow .i64 W a1 len1 cap1 zs := by
    obtain ⟨fuel, hf⟩ := h1
    rcases open_ints Try.underlying22 Try.underlying3 (by kernel_rfl) hf with ⟨hcs, _⟩ | ⟨x, l, c, zs, hcs, _, hl, hm, hz, _, hcell, hwz⟩
    · simp [Value.cells] at hcs
      obtain ⟨rfl, rfl, rfl⟩ := hcs
      exact ⟨[], .inl ⟨rfl, rfl, rfl, rfl⟩⟩
    · simp [Value.cells] at hcs
      obtain ⟨rfl, rfl, rfl⟩ := hcs
      exact ⟨zs, .inr ⟨_, rfl, hl, hm, by simpa using hz, hcell, hwz⟩⟩
  have lc1 := w1.lc
  obtain ⟨L1, rfl, R1, wf1, m1⟩ := w1.rd
  clear hA0 hval0
  refine (walk W a0 cap0 L0 R0 m0 a1 cap1 L1 R1 m1).mono fun e W' ⟨he, bel⟩ => ?_
  subst he
  exact ⟨_, rfl, _, _, _, [], _, [], hW', trodAll_mk1 (shut_bool Try.underlying4 _), (trodAll_cons_mk (Below.trod laidOut (by kernel_rfl) (of_decide_eq_true (by kernel_rfl)) k0 bel lt0) (trodAll_cons_mk (Below.trod laidOut (by kernel_rfl) (of_decide_eq_true (by kernel_rfl)) k1 bel lt1) trodAll_mk0)), rfl, bel.frame _, fun h => by cases h⟩

theorem over : Rows.fnExactRefinesRow.holds Try.pinned (OpenSpec.ofChange Rows.fnExactRefinesSpec) :=
  OpenClaim.holds_of_wide 10 Try.f10 rfl rfl rfl rfl rfl rfl rfl ⟨rfl, rfl, rfl, rfl, rfl⟩ rfl rfl rfl rfl rfl (by kernel_rfl) Try.func10 (by kernel_rfl)
    (of_decide_eq_true (by kernel_rfl)) (by unfold Func.isWrapper; first | (rw [if_pos (by decide +kernel)]; kernel_rfl) | (rw [if_neg (by decide +kernel)]; exact ⟨rfl, rfl⟩))
    (fun os started H enc _ => lifted os started H enc)

/-- the given statement -/
theorem proved : Rows.FnExactRefinesSaid := over
end Go.Proofs.Ythafbdpeignccaa.fnExactRefines
