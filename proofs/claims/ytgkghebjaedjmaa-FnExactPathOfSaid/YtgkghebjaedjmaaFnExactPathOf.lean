/-
  'laws.FnExactPathOf' returns true for all arguments, and they read as they did. No condition.
-/
import Derived.Test.YtgkghebjaedjmaaRows
import Derived.Test.YtgkghebjaedjmaaZF1
import Derived.Test.YtgkghebjaedjmaaZF2
import Derived.Test.YtgkghebjaedjmaaZF3
import Derived.WalkKit
import Derived.ProofKit
import Derived.OpenShut
import Derived.ShutString
import Derived.ChangeOld
import Derived.Below
namespace Go.Proofs.Ytgkghebjaedjmaa.fnExactPathOf
open Go.ChangeShapes Go.WideShapes Go.ChangeAt Go.RowKit NP
open Go.ChangeMaps (open_string shut_string)
set_option linter.unusedVariables false

theorem walk (w0 : World) (a0 : Option Addr) (c0 : Nat) (L0 : List Int) (h0 : Rd w0 w0.heap.size a0 (ints L0)) (m0 : L0.length ≤ maxLen) (n1 : Int) (wf1 : (Lit.int .i64 n1).wf = true) (n2 : Int) (wf2 : (Lit.int .i64 n2).wf = true) :
    Calls Try.prog 8 #[.slice a0 L0.length c0, .int .i64 n1, .int .i64 n2] w0 fun e w' => e = .returned (.bool true) ∧ Below w0.heap.size w0 w' := by
  unfold maxLen at m0
  by_cases hl0 : L0.length ≤ 1048576
  · obtain ⟨S, hS⟩ : ∃ S : ByteArray, S = ⟨(wayF L0 n1 n2).toArray⟩ := ⟨_, rfl⟩
    have HS := Lib.hid hS.symm
    clear hS
    have hA : Below w0.heap.size w0 w0 := Below.refl _ _
    go_enter Try.func8, Try.ntmps8
    go_wp2_with fail
    refine (toIntS_any a0 c0 w0.heap.size L0 _ (h0.below hA) hA.size hl0).mono ?_
    rintro e w1 ⟨a_t0, rfl, t0, hb⟩
    replace hA := hA.trans (hb.mono hA.size)
    have hz1 := hb.size
    clear hb
    go_wp2_with fail
    refine (sPathOf_any _ _ _ L0 n1 n2 _ t0.rd (by omega)).mono ?_
    rintro e w2 ⟨rfl, hd⟩
    rw [HS.out]
    have hb : Below w1.heap.size w1 w2 := Dr.below hd _
    clear hd
    replace t0 := t0.below (hb.mono t0.le)
    replace hA := hA.trans (hb.mono hA.size)
    have hz2 := hb.size
    clear hb
    clear t0
    go_wp2_with fail
    refine (toIntS_any a0 c0 w0.heap.size L0 _ (h0.below hA) hA.size hl0).mono ?_
    rintro e w3 ⟨a_x0, rfl, x0, hb⟩
    replace hA := hA.trans (hb.mono hA.size)
    have hz3 := hb.size
    clear hb
    go_wp2_with fail
    refine (iPathOf_any _ _ _ L0 n1 n2 _ x0.rd (by omega) (by omega)).mono ?_
    rintro e w4 ⟨rfl, hb⟩
    rw [HS.out]
    replace x0 := x0.below (hb.mono x0.le)
    replace hA := hA.trans (hb.mono hA.size)
    have hz4 := hb.size
    clear hb
    go_wp2_with fail
    refine (toIntS_any a0 c0 w0.heap.size L0 _ (h0.below hA) hA.size hl0).mono ?_
    rintro e w5 ⟨a_u0, rfl, u0, hb⟩
    replace x0 := x0.below (hb.mono x0.le)
    replace hA := hA.trans (hb.mono hA.size)
    have hz5 := hb.size
    clear hb
    go_wp2_with fail
    refine (eqIntS_same _ _ _ _ _ _ _ _ x0.rd u0.rd (by omega)).mono ?_
    rintro e w6 ⟨rfl, hd⟩
    have hb : Below w5.heap.size w5 w6 := Dr.below hd _
    clear hd
    replace x0 := x0.below (hb.mono x0.le)
    replace u0 := u0.below (hb.mono u0.le)
    replace hA := hA.trans (hb.mono hA.size)
    have hz6 := hb.size
    clear hb
    clear u0
    go_wp2_with fail
    go_ret
    exact ⟨rfl, hA⟩
  · have hl0' : 1048576 < L0.length := by omega
    go_enter Try.func8, Try.ntmps8
    go_wp2_with fail
    go_ret
    exact ⟨rfl, Below.refl _ _⟩

theorem own : ownKnob Try.prog.godebug = none := by kernel_rfl
theorem laidOut : laidOutB Try.prog = true := by kernel_rfl

set_option maxRecDepth 100000 in
theorem lifted (os : Os) (started : os.Started) (H : Type) (enc : TypeId × Value → H) :
    ReturnsInHanded {} Try.checked os 8 .any (Rows.fnExactPathOfSpec.pre6 enc Try.prog Try.f8 Rows.fnExactPathOfRow.domain false) (Rows.fnExactPathOfSpec.post enc Try.prog Try.f8 false true false false) := by
  refine returnsInHanded_of_change (C := Try.checked) own started (by kernel_rfl) Try.func8
    (ChangeSpec.witness6 (enc := enc) (C := Try.checked) false ⟨#[], #[.slice none 0 0, .int .i64 0, .int .i64 0], []⟩ 8 (by kernel_rfl) (by kernel_rfl) (by kernel_rfl) (by kernel_rfl)) ?_
  intro W base args ds gs before hval0 hW hcnd _
  have hval : ∀ (j : Nat) t v, Try.f8.params[j]? = some t → args[j]? = some v → Value.okWide Try.prog W .any base t v := hval0
  have hW' := hW
  obtain ⟨p, q, hA0, hV, rfl, hfz, hnd⟩ := hW
  have hA : DataW.TrodAll enc Try.prog W 0 (fun _ => true) true Try.f8.params.toList args.toList ds p := hA0
  rw [Try.params8] at hA hval
  obtain ⟨v0, vs0, d0, ds0, p0, q0, hargs, rfl, rfl, h0, r0⟩ := trodAll_cons hA
  obtain ⟨v1, vs1, d1, ds1, p1, q1, rfl, rfl, rfl, h1, r1⟩ := trodAll_cons r0
  obtain ⟨v2, vs2, d2, ds2, p2, q2, rfl, rfl, rfl, h2, r2⟩ := trodAll_cons r1
  obtain ⟨rfl, rfl, rfl⟩ := trodAll_nil r2
  obtain rfl : args = #[v0, v1, v2] := by cases args; simp_all
  obtain ⟨rfl, rfl⟩ := trodVars_none hV
  obtain ⟨a0, len0, cap0, rfl⟩ := okWide_slice Try.underlying30 (hval 0 30 v0 rfl rfl)
  have k0 := h0
  have lt0 : ∀ x ∈ p0, x.block < W.heap.size := by obtain ⟨m, hm⟩ := k0; exact DataW.trod_lt m _ _ _ hm
  obtain ⟨z0, w0⟩ : ∃ zs, IsRow .i64 W a0 len0 cap0 zs := by
    obtain ⟨fuel, hf⟩ := h0
    rcases open_ints Try.underlying30 Try.underlying3 (by kernel_rfl) hf with ⟨hcs, _⟩ | ⟨x, l, c, zs, hcs, _, hl, hm, hz, _, hcell, hwz⟩
    · simp [Value.cells] at hcs
      obtain ⟨rfl, rfl, rfl⟩ := hcs
      exact ⟨[], .inl ⟨rfl, rfl, rfl, rfl⟩⟩
    · simp [Value.cells] at hcs
      obtain ⟨rfl, rfl, rfl⟩ := hcs
      exact ⟨zs, .inr ⟨_, rfl, hl, hm, by simpa using hz, hcell, hwz⟩⟩
  have lc0 := w0.lc
  obtain ⟨L0, rfl, R0, wf0, m0⟩ := w0.rd
  obtain ⟨n1, rfl, rfl, rfl, wf1⟩ := open_int Try.underlying3 (hval 1 3 v1 rfl rfl) h1
  obtain ⟨n2, rfl, rfl, rfl, wf2⟩ := open_int Try.underlying3 (hval 2 3 v2 rfl rfl) h2
  clear hA0 hval0
  refine (walk W a0 cap0 L0 R0 m0 n1 wf1 n2 wf2).mono fun e W' ⟨he, bel⟩ => ?_
  subst he
  exact ⟨_, rfl, _, _, _, [], _, [], hW', trodAll_mk1 (shut_bool Try.underlying4 _), (trodAll_cons_mk (Below.trod laidOut (by kernel_rfl) (of_decide_eq_true (by kernel_rfl)) k0 bel lt0) (trodAll_cons_mk (shut_int Try.underlying3 wf1) (trodAll_cons_mk (shut_int Try.underlying3 wf2) trodAll_mk0))), rfl, bel.frame _, fun h => by cases h⟩

theorem over : Rows.fnExactPathOfRow.holds Try.pinned (OpenSpec.ofChange Rows.fnExactPathOfSpec) :=
  OpenClaim.holds_of_wide 8 Try.f8 rfl rfl rfl rfl rfl rfl rfl ⟨rfl, rfl, rfl, rfl, rfl⟩ rfl rfl rfl rfl rfl (by kernel_rfl) Try.func8 (by kernel_rfl)
    (of_decide_eq_true (by kernel_rfl)) (by unfold Func.isWrapper; first | (rw [if_pos (by decide +kernel)]; kernel_rfl) | (rw [if_neg (by decide +kernel)]; exact ⟨rfl, rfl⟩))
    (fun os started H enc _ => lifted os started H enc)

/-- the given statement -/
theorem proved : Rows.FnExactPathOfSaid := over
end Go.Proofs.Ytgkghebjaedjmaa.fnExactPathOf
