/-
  'laws.FnBoxRow' returns true for every code, and the code reads as it did. No condition.
-/
import Derived.Test.YtcjnmconehfbgaaRows
import Derived.Test.YtcjnmconehfbgaaZBXR1
import Derived.Test.YtcjnmconehfbgaaZBXR2
import Derived.Test.YtcjnmconehfbgaaZBXR3
import Derived.Test.YtcjnmconehfbgaaZBXR4
import Derived.Test.YtcjnmconehfbgaaZBXR5
import Derived.Test.YtcjnmconehfbgaaZBXR6
import Derived.WalkKit
import Derived.ProofKit
import Derived.OpenShut
import Derived.ShutString
import Derived.ChangeOld
import Derived.Below
namespace Go.Proofs.Ytcjnmconehfbgaa.fnBoxRow
open Go.ChangeShapes Go.WideShapes Go.ChangeAt Go.RowKit NP
open Go.ChangeMaps (open_string shut_string)
set_option linter.unusedVariables false

set_option linter.unusedSimpArgs false
set_option maxRecDepth 100000 in
set_option maxHeartbeats 4000000 in
theorem walk (a : Option Addr) (c : Nat) (bs : List Int) (w0 : World) (h : Rd w0 w0.heap.size a (bs.map (Value.int .u8))) (hb : ∀ n ∈ bs, (Lit.int .u8 n).wf = true) (m : bs.length ≤ maxLen) (hc : bs.length ≤ c) :
    Calls Try.prog 8 #[.slice a bs.length c] w0 fun e w' => e = .returned (.bool true) ∧ Below w0.heap.size w0 w' := by
  unfold maxLen at m
  by_cases hl : bs.length ≤ 1048576
  · go_enter Try.func8, Try.ntmps8
    go_wp2_with fail
    refine (DrawBoxRow_any a c _ bs _ h (Nat.le_refl _) hb hl hc).mono ?_
    rintro e w1 ⟨nn, mm, rfl, hn, hm, hA⟩
    clear h hb hl hc m
    obtain ⟨R, hR⟩ : ∃ R, brF nn mm = R := ⟨_, rfl⟩
    have hRl : R.length ≤ 17 := hR ▸ brF_len nn mm
    have HR := Lib.hid hR
    clear hR
    go_wp2_with fail
    refine (iBoxRow_any nn mm _).mono ?_
    rintro e w2 ⟨ag, cg, rfl, g0, hb⟩
    replace hA := hA.trans (hb.mono hA.size)
    have hz2 := hb.size
    clear hb
    rw [HR.out] at g0 ⊢
    go_wp2_with fail
    refine (sBoxRow_any nn mm _).mono ?_
    rintro e w3 ⟨ar, cr, rfl, s0, hb⟩
    replace g0 := g0.below (hb.mono g0.le)
    replace hA := hA.trans (hb.mono hA.size)
    have hz3 := hb.size
    clear hb
    rw [HR.out] at s0 ⊢
    go_wp2_with fail
    refine (equalInts_same _ _ _ _ _ _ _ _ g0.rd s0.rd (by omega)).mono ?_
    rintro e w4 ⟨rfl, hd⟩
    have hb : Below w3.heap.size w3 w4 := hd.below _
    clear hd
    replace g0 := g0.below (hb.mono g0.le)
    replace s0 := s0.below (hb.mono s0.le)
    replace hA := hA.trans (hb.mono hA.size)
    have hz4 := hb.size
    clear hb
    by_cases h0 : R.length = 0
    · have e0 : ((R.length : Int) == 0) = true := by simp [h0]
      clear h0
      go_wp2_with fail
      refine (sBoxRow_any nn mm _).mono ?_
      rintro e w5 ⟨ar2, cr2, rfl, s1, hb⟩
      replace g0 := g0.below (hb.mono g0.le)
      replace s0 := s0.below (hb.mono s0.le)
      replace hA := hA.trans (hb.mono hA.size)
      have hz5 := hb.size
      clear hb
      rw [HR.out] at s1 ⊢
      go_wp2_with fail
      refine (equalInts_same _ _ _ _ _ _ _ _ g0.rd s1.rd (by omega)).mono ?_
      rintro e w6 ⟨rfl, hd⟩
      have hb : Below w5.heap.size w5 w6 := hd.below _
      clear hd
      replace g0 := g0.below (hb.mono g0.le)
      replace s0 := s0.below (hb.mono s0.le)
      replace s1 := s1.below (hb.mono s1.le)
      replace hA := hA.trans (hb.mono hA.size)
      have hz6 := hb.size
      clear hb
      go_wp2_with fail
      go_ret
      exact ⟨rfl, hA⟩
    · have e0 : ((R.length : Int) == 0) = false := by simp; intro e; exact h0 (by rw [e]; rfl)
      have hok : limB nn mm = true := by
        cases hk : limB nn mm with
        | true => rfl
        | false => exact absurd (by rw [← HR.out, brF_no hk]; rfl) h0
      obtain ⟨a1, b1, rfl, rfl, ha, hb⟩ := limB_nat hok
      have hgb : gbox a1 b1 = R := by rw [← HR.out, brF_yes hok]
      have hgt := gboxT_ok ha hb
      rw [hgb] at hgt
      have HREV := Lib.hid hgt.1
      have HBA : Hid (brF (b1 : Int) (a1 : Int) = R) := Lib.hid (by
        have h : limB (b1 : Int) (a1 : Int) = true := by unfold limB; simp; omega
        rw [brF_yes h, hgt.2.1])
      have HSU := Lib.hid hgt.2.2
      have HBD : Hid (∀ x ∈ R, 0 ≤ x ∧ x ≤ 1000) := Lib.hid (fun x hx => by have := gbox_bd ha hb x (hgb ▸ hx); omega)
      obtain ⟨p, hp⟩ : ∃ p, a1 * b1 = p := ⟨_, rfl⟩
      have hp16 : p ≤ 16 := by rw [← hp]; exact Nat.le_trans (Nat.mul_le_mul ha hb) (by omega)
      have hpi : (a1 : Int) * (b1 : Int) = (p : Int) := by rw [← Int.natCast_mul, hp]
      have hlp : ((R.length : Int) == (p : Int) + 1) = true := beq_iff_eq.2 (by rw [← hgb, gbox_len, hp]; rfl)
      clear h0 hok hn hm hgb hgt hp
      go_wp2_with fail
      refine (mirrored_any _ _ _ R _ g0.rd g0.le (by omega)).mono ?_
      rintro e w5 ⟨am, cm, rfl, m0, hb⟩
      replace g0 := g0.below (hb.mono g0.le)
      replace s0 := s0.below (hb.mono s0.le)
      replace hA := hA.trans (hb.mono hA.size)
      have hz5 := hb.size
      clear hb
      rw [HREV.out] at m0 ⊢
      go_wp2_with fail
      refine (equalInts_same _ _ _ _ _ _ _ _ m0.rd g0.rd (by omega)).mono ?_
      rintro e w6 ⟨rfl, hd⟩
      have hb : Below w5.heap.size w5 w6 := hd.below _
      clear hd
      replace g0 := g0.below (hb.mono g0.le)
      replace s0 := s0.below (hb.mono s0.le)
      replace m0 := m0.below (hb.mono m0.le)
      replace hA := hA.trans (hb.mono hA.size)
      have hz6 := hb.size
      clear hb
      go_wp2_with fail
      refine (iBoxRow_any (b1 : Int) (a1 : Int) _).mono ?_
      rintro e w7 ⟨ag2, cg2, rfl, g1, hb⟩
      replace g0 := g0.below (hb.mono g0.le)
      replace s0 := s0.below (hb.mono s0.le)
      replace m0 := m0.below (hb.mono m0.le)
      replace hA := hA.trans (hb.mono hA.size)
      have hz7 := hb.size
      clear hb
      rw [HBA.out] at g1 ⊢
      go_wp2_with fail
      refine (equalInts_same _ _ _ _ _ _ _ _ g1.rd g0.rd (by omega)).mono ?_
      rintro e w8 ⟨rfl, hd⟩
      have hb : Below w7.heap.size w7 w8 := hd.below _
      clear hd
      replace g0 := g0.below (hb.mono g0.le)
      replace s0 := s0.below (hb.mono s0.le)
      replace m0 := m0.below (hb.mono m0.le)
      replace g1 := g1.below (hb.mono g1.le)
      replace hA := hA.trans (hb.mono hA.size)
      have hz8 := hb.size
      clear hb
      go_wp2_with fail
      refine (total_any _ _ _ R _ g0.rd (fits_thou HBD.out (by omega)) (by omega)).mono ?_
      rintro e w' ⟨rfl, rfl⟩
      rw [HSU.out]
      go_wp2_with fail
      refine (choose_ab a1 b1 ha hb _).mono ?_
      rintro e w' ⟨rfl, rfl⟩
      go_wp2_with fail
      go_ret
      exact ⟨rfl, hA⟩
  · have hl' : 1048576 < bs.length := by omega
    go_enter Try.func8, Try.ntmps8
    go_wp2_with fail
    go_ret
    exact ⟨rfl, Below.refl _ _⟩

theorem own : ownKnob Try.prog.godebug = none := by kernel_rfl
theorem laidOut : laidOutB Try.prog = true := by kernel_rfl

set_option maxRecDepth 100000 in
theorem lifted (os : Os) (started : os.Started) (H : Type) (enc : TypeId × Value → H) :
    ReturnsInHanded {} Try.checked os 8 .any (Rows.fnBoxRowSpec.pre6 enc Try.prog Try.f8 Rows.fnBoxRowRow.domain false) (Rows.fnBoxRowSpec.post enc Try.prog Try.f8 false true false false) := by
  refine returnsInHanded_of_change (C := Try.checked) own started (by kernel_rfl) Try.func8
    (ChangeSpec.witness6 (enc := enc) (C := Try.checked) false ⟨#[], #[.slice none 0 0], []⟩ 8 (by kernel_rfl) (by kernel_rfl) (by kernel_rfl) (by kernel_rfl)) ?_
  intro W base args ds gs before hval0 hW hcnd _
  have hval : ∀ (j : Nat) t v, Try.f8.params[j]? = some t → args[j]? = some v → Value.okWide Try.prog W .any base t v := hval0
  have hW' := hW
  obtain ⟨p, q, hA0, hV, rfl, hfz, hnd⟩ := hW
  have hA : DataW.TrodAll enc Try.prog W 0 (fun _ => true) true Try.f8.params.toList args.toList ds p := hA0
  rw [Try.params8] at hA hval
  obtain ⟨v0, vs0, d0, ds0, p0, q0, hargs, rfl, rfl, h0, r0⟩ := trodAll_cons hA
  obtain ⟨rfl, rfl, rfl⟩ := trodAll_nil r0
  obtain rfl : args = #[v0] := by cases args; simp_all
  obtain ⟨rfl, rfl⟩ := trodVars_none hV
  obtain ⟨a0, len0, cap0, rfl⟩ := okWide_slice Try.underlying27 (hval 0 27 v0 rfl rfl)
  have k0 := h0
  have lt0 : ∀ x ∈ p0, x.block < W.heap.size := by obtain ⟨m, hm⟩ := k0; exact DataW.trod_lt m _ _ _ hm
  obtain ⟨z0, w0⟩ : ∃ zs, IsRow .u8 W a0 len0 cap0 zs := by
    obtain ⟨fuel, hf⟩ := h0
    rcases open_ints Try.underlying27 Try.underlying5 (by kernel_rfl) hf with ⟨hcs, _⟩ | ⟨x, l, c, zs, hcs, _, hl, hm, hz, _, hcell, hwz⟩
    · simp [Value.cells] at hcs
      obtain ⟨rfl, rfl, rfl⟩ := hcs
      exact ⟨[], .inl ⟨rfl, rfl, rfl, rfl⟩⟩
    · simp [Value.cells] at hcs
      obtain ⟨rfl, rfl, rfl⟩ := hcs
      exact ⟨zs, .inr ⟨_, rfl, hl, hm, by simpa using hz, hcell, hwz⟩⟩
  have lc0 := w0.lc
  obtain ⟨L0, rfl, R0, wf0, m0⟩ := w0.rd
  clear hA0 hval0
  refine (walk a0 cap0 L0 W R0 wf0 m0 (by simpa using lc0)).mono fun e W' ⟨he, bel⟩ => ?_
  subst he
  exact ⟨_, rfl, _, _, _, [], _, [], hW', trodAll_mk1 (shut_bool Try.underlying4 _), (trodAll_cons_mk (Below.trod laidOut (by kernel_rfl) (of_decide_eq_true (by kernel_rfl)) k0 bel lt0) trodAll_mk0), rfl, bel.frame _, fun h => by cases h⟩

theorem over : Rows.fnBoxRowRow.holds Try.pinned (OpenSpec.ofChange Rows.fnBoxRowSpec) :=
  OpenClaim.holds_of_wide 8 Try.f8 rfl rfl rfl rfl rfl rfl rfl ⟨rfl, rfl, rfl, rfl, rfl⟩ rfl rfl rfl rfl rfl (by kernel_rfl) Try.func8 (by kernel_rfl)
    (of_decide_eq_true (by kernel_rfl)) (by unfold Func.isWrapper; first | (rw [if_pos (by decide +kernel)]; kernel_rfl) | (rw [if_neg (by decide +kernel)]; exact ⟨rfl, rfl⟩))
    (fun os started H enc _ => lifted os started H enc)

/-- the given statement -/
theorem proved : Rows.FnBoxRowSaid := over
end Go.Proofs.Ytcjnmconehfbgaa.fnBoxRow
