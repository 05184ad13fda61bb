/-
  'laws.FnExactIsKind' returns true for all arguments, and they read as they did. No condition.
-/
import Derived.Test.YthincndannopmaaRows
import Derived.Test.YthincndannopmaaW62
import Derived.Test.YthincndannopmaaL1
import Derived.WalkKit
import Derived.ProofKit
import Derived.OpenShut
import Derived.ShutString
import Derived.ChangeOld
import Derived.Below
namespace Go.Proofs.Ythincndannopmaa.fnExactIsKind
open Go.ChangeShapes Go.WideShapes Go.ChangeAt Go.RowKit NP
open Go.ChangeMaps (open_string shut_string)
set_option linter.unusedVariables false

theorem walk (w0 : World) (s : ByteArray) (ms : s.size ≤ maxLen) (a1 : Option Addr) (c1 : Nat) (L1 : List Int) (h1 : Rd w0 w0.heap.size a1 (ints L1)) (m1 : L1.length ≤ maxLen) :
    Calls Try.prog 5 #[.string s, .slice a1 L1.length c1] w0 fun e w' => e = .returned (.bool true) ∧ Below w0.heap.size w0 w' := by
  have ms' := ms
  unfold maxLen at m1 ms'
  by_cases hs : s.size ≤ 1048576
  · by_cases hl1 : L1.length ≤ 1048576
    · have hA : Below w0.heap.size w0 w0 := Below.refl _ _
      have hkk : (kindF s.data.toList L1 != kindF s.data.toList L1) = false := by simp
      go_enter Try.func5, Try.ntmps5
      go_wp2_with fail
      refine (toIntS_any a1 c1 w0.heap.size L1 _ (h1.below hA) hA.size hl1).mono ?_
      rintro e w1 ⟨a_t1, rfl, t1, hb⟩
      replace hA := hA.trans (hb.mono hA.size)
      have hz1 := hb.size
      clear hb
      go_wp2_with fail
      refine (sIsKind_any s _ _ _ L1 _ t1.rd (by omega) (by omega)).mono ?_
      rintro e w2 ⟨rfl, hb⟩
      replace hA := hA.trans (hb.mono hA.size)
      have hz2 := hb.size
      clear hb t1
      go_wp2_with fail
      refine (toIntS_any a1 c1 w0.heap.size L1 _ (h1.below hA) hA.size hl1).mono ?_
      rintro e w3 ⟨a_x1, rfl, x1, hb⟩
      replace hA := hA.trans (hb.mono hA.size)
      have hz3 := hb.size
      clear hb
      go_wp2_with fail
      refine (iIsKind_any s ms _ _ _ L1 _ x1.rd (by omega) (by omega)).mono ?_
      rintro e w4 ⟨rfl, hb⟩
      replace x1 := x1.below (hb.mono x1.le)
      replace hA := hA.trans (hb.mono hA.size)
      have hz4 := hb.size
      clear hb
      go_wp2_with fail
      refine (toIntS_any a1 c1 w0.heap.size L1 _ (h1.below hA) hA.size hl1).mono ?_
      rintro e w5 ⟨a_u1, rfl, u1, hb⟩
      replace x1 := x1.below (hb.mono x1.le)
      replace hA := hA.trans (hb.mono hA.size)
      have hz5 := hb.size
      clear hb
      go_wp2_with fail
      refine (eqIntS_same _ _ _ _ _ _ _ _ x1.rd u1.rd (by omega)).mono ?_
      rintro e w6 ⟨rfl, hd⟩
      have hb : Below w5.heap.size w5 w6 := Dr.below hd _
      replace hA := hA.trans (hb.mono hA.size)
      clear hb hd
      go_wp2_with fail
      go_ret
      exact ⟨rfl, hA⟩
    · have hl' : 1048576 < L1.length := by omega
      go_enter Try.func5, Try.ntmps5
      go_wp2_with fail
      go_ret
      exact ⟨rfl, Below.refl _ _⟩
  · have hs' : 1048576 < s.size := by omega
    go_enter Try.func5, Try.ntmps5
    go_wp2_with fail
    go_ret
    exact ⟨rfl, Below.refl _ _⟩

theorem own : ownKnob Try.prog.godebug = none := by kernel_rfl
theorem laidOut : laidOutB Try.prog = true := by kernel_rfl

set_option maxRecDepth 100000 in
theorem lifted (os : Os) (started : os.Started) (H : Type) (enc : TypeId × Value → H) :
    ReturnsInHanded {} Try.checked os 5 .any (Rows.fnExactIsKindSpec.pre6 enc Try.prog Try.f5 Rows.fnExactIsKindRow.domain false) (Rows.fnExactIsKindSpec.post enc Try.prog Try.f5 false true false false) := by
  refine returnsInHanded_of_change (C := Try.checked) own started (by kernel_rfl) Try.func5
    (ChangeSpec.witness6 (enc := enc) (C := Try.checked) false ⟨#[], #[.string ⟨#[]⟩, .slice none 0 0], []⟩ 8 (by kernel_rfl) (by kernel_rfl) (by kernel_rfl) (by kernel_rfl)) ?_
  intro W base args ds gs before hval0 hW hcnd _
  have hval : ∀ (j : Nat) t v, Try.f5.params[j]? = some t → args[j]? = some v → Value.okWide Try.prog W .any base t v := hval0
  have hW' := hW
  obtain ⟨p, q, hA0, hV, rfl, hfz, hnd⟩ := hW
  have hA : DataW.TrodAll enc Try.prog W 0 (fun _ => true) true Try.f5.params.toList args.toList ds p := hA0
  rw [Try.params5] at hA hval
  obtain ⟨v0, vs0, d0, ds0, p0, q0, hargs, rfl, rfl, h0, r0⟩ := trodAll_cons hA
  obtain ⟨v1, vs1, d1, ds1, p1, q1, rfl, rfl, rfl, h1, r1⟩ := trodAll_cons r0
  obtain ⟨rfl, rfl, rfl⟩ := trodAll_nil r1
  obtain rfl : args = #[v0, v1] := by cases args; simp_all
  obtain ⟨rfl, rfl⟩ := trodVars_none hV
  obtain ⟨s0, rfl, rfl, rfl, ws0⟩ := open_string Try.underlying9 (hval 0 9 v0 rfl rfl) h0
  obtain ⟨a1, len1, cap1, rfl⟩ := okWide_slice Try.underlying30 (hval 1 30 v1 rfl rfl)
  have k1 := h1
  have lt1 : ∀ x ∈ p1, x.block < W.heap.size := by obtain ⟨m, hm⟩ := k1; exact DataW.trod_lt m _ _ _ hm
  obtain ⟨z1, w1⟩ : ∃ zs, IsRow .i64 W a1 len1 cap1 zs := by
    obtain ⟨fuel, hf⟩ := h1
    rcases open_ints Try.underlying30 Try.underlying3 (by kernel_rfl) hf with ⟨hcs, _⟩ | ⟨x, l, c, zs, hcs, _, hl, hm, hz, _, hcell, hwz⟩
    · simp [Value.cells] at hcs
      obtain ⟨rfl, rfl, rfl⟩ := hcs
      exact ⟨[], .inl ⟨rfl, rfl, rfl, rfl⟩⟩
    · simp [Value.cells] at hcs
      obtain ⟨rfl, rfl, rfl⟩ := hcs
      exact ⟨zs, .inr ⟨_, rfl, hl, hm, by simpa using hz, hcell, hwz⟩⟩
  have lc1 := w1.lc
  obtain ⟨L1, rfl, R1, wf1, m1⟩ := w1.rd
  clear hA0 hval0
  refine (walk W s0 ws0 a1 cap1 L1 R1 m1).mono fun e W' ⟨he, bel⟩ => ?_
  subst he
  exact ⟨_, rfl, _, _, _, [], _, [], hW', trodAll_mk1 (shut_bool Try.underlying4 _), (trodAll_cons_mk (shut_string Try.underlying9 ws0) (trodAll_cons_mk (Below.trod laidOut (by kernel_rfl) (of_decide_eq_true (by kernel_rfl)) k1 bel lt1) trodAll_mk0)), rfl, bel.frame _, fun h => by cases h⟩

theorem over : Rows.fnExactIsKindRow.holds Try.pinned (OpenSpec.ofChange Rows.fnExactIsKindSpec) :=
  OpenClaim.holds_of_wide 5 Try.f5 rfl rfl rfl rfl rfl rfl rfl ⟨rfl, rfl, rfl, rfl, rfl⟩ rfl rfl rfl rfl rfl (by kernel_rfl) Try.func5 (by kernel_rfl)
    (of_decide_eq_true (by kernel_rfl)) (by unfold Func.isWrapper; first | (rw [if_pos (by decide +kernel)]; kernel_rfl) | (rw [if_neg (by decide +kernel)]; exact ⟨rfl, rfl⟩))
    (fun os started H enc _ => lifted os started H enc)

/-- the given statement -/
theorem proved : Rows.FnExactIsKindSaid := over
end Go.Proofs.Ythincndannopmaa.fnExactIsKind
