/-
  'laws.FnExactChainDown' returns true for all lists of numbers, and they read as they did. No condition.
-/
import Derived.Test.YtmojonpjgaidgaaRows
import Derived.Test.YtmojonpjgaidgaaZchain1
import Derived.Test.YtmojonpjgaidgaaZchain2
import Derived.Test.YtmojonpjgaidgaaZchain3
import Derived.Test.YtmojonpjgaidgaaZchain4
import Derived.Test.YtmojonpjgaidgaaZchain5
import Derived.Test.YtmojonpjgaidgaaZchain6
import Derived.Test.YtmojonpjgaidgaaZchain7
import Derived.Test.YtmojonpjgaidgaaZchain8
import Derived.Test.YtmojonpjgaidgaaZchain9
import Derived.Test.YtmojonpjgaidgaaZchain10
import Derived.Test.YtmojonpjgaidgaaZchain11
import Derived.Test.YtmojonpjgaidgaaZchain12
import Derived.WalkKit
import Derived.ProofKit
import Derived.OpenShut
import Derived.ShutString
import Derived.ChangeOld
import Derived.Below
namespace Go.Proofs.Ytmojonpjgaidgaa.fnExactChainDown
open Go.ChangeShapes Go.WideShapes Go.ChangeAt Go.RowKit NP
open Go.ChangeMaps (open_string shut_string)
set_option linter.unusedVariables false

structure RdK (w : World) (hi : Nat) (a : Option Addr) (LL : List (List Int)) : Prop where
  rd : RdLL w hi a LL
  le : hi ≤ w.heap.size
theorem RdK.below {w w' : World} {hi : Nat} {a : Option Addr} {LL : List (List Int)} (h : RdK w hi a LL) (hb : Below hi w w') : RdK w' hi a LL := ⟨h.rd.below hb, Nat.le_trans h.le hb.size⟩
theorem cdF_cnt (P Q : List Int) : cntLL (cdF P Q) ≤ 16016 := by
  have h := cdF_ok P Q
  have h1 := cntLL_leH 16 (cdF P Q) fun L hL => (h.2 L hL).2.1
  have h2 := Nat.mul_le_mul_right 16 h.1
  omega
theorem walk (w0 : World) (a0 : Option Addr) (c0 : Nat) (L0 : List Int) (h0 : Rd w0 w0.heap.size a0 (ints L0)) (m0 : L0.length ≤ maxLen) (a1 : Option Addr) (c1 : Nat) (L1 : List Int) (h1 : Rd w0 w0.heap.size a1 (ints L1)) (m1 : L1.length ≤ maxLen) :
    Calls Try.prog 3 #[.slice a0 L0.length c0, .slice a1 L1.length c1] w0 fun e w' => e = .returned (.bool true) ∧ Below w0.heap.size w0 w' := by
  unfold maxLen at m0
  unfold maxLen at m1
  by_cases hl0 : L0.length ≤ 1048576
  · by_cases hl1 : L1.length ≤ 1048576
    · have hA : Below w0.heap.size w0 w0 := Below.refl _ _
      obtain ⟨FF, hFF⟩ : ∃ FF, cdF L0 L1 = FF := ⟨_, rfl⟩
      have hln : FF.length ≤ 1001 := hFF ▸ (cdF_ok L0 L1).1
      have hil : ∀ X ∈ FF, X.length ≤ 4611686018427387904 := hFF ▸ fun X hX => Nat.le_trans ((cdF_ok L0 L1).2 X hX).2.1 (by omega)
      have hcn : cntLL FF ≤ 16016 := hFF ▸ cdF_cnt L0 L1
      obtain ⟨bb, hbb⟩ : ∃ bb, cdB L0 L1 = bb := ⟨_, rfl⟩
      have hne0 : (bb != bb) = false := by simp
      have HBB := Lib.hid hbb
      have HFF := Lib.hid hFF
      have HIL := Lib.hid hil
      clear hFF hil hbb
      go_enter Try.func3, Try.ntmps3
      go_wp2_with fail
      refine (toIntS_any a0 c0 w0.heap.size L0 _ (h0.below hA) hA.size hl0).mono ?_
      rintro e w1 ⟨a_t0, rfl, t0, hb⟩
      replace hA := hA.trans (hb.mono hA.size)
      have hz1 := hb.size
      clear hb
      go_wp2_with fail
      refine (toIntS_any a1 c1 w0.heap.size L1 _ (h1.below hA) hA.size hl1).mono ?_
      rintro e w2 ⟨a_t1, rfl, t1, hb⟩
      replace t0 := t0.below (hb.mono t0.le)
      replace hA := hA.trans (hb.mono hA.size)
      have hz2 := hb.size
      clear hb
      go_wp2_with fail
      refine (sChainDown_any _ _ _ _ _ _ L0 L1 _ t0.rd t1.rd (by omega) (by omega) (by omega) (by omega)).mono ?_
      rintro e w3 ⟨a_r0, c_r0, rfl, r0, hb⟩
      rw [HFF.out] at r0 ⊢
      replace t0 := t0.below (hb.mono t0.le)
      replace t1 := t1.below (hb.mono t1.le)
      replace hA := hA.trans (hb.mono hA.size)
      have hz3 := hb.size
      clear hb
      replace r0 := RdK.mk r0 (Nat.le_refl _)
      rw [HBB.out]
      clear t0
      clear t1
      go_wp2_with fail
      refine (toIntS_any a0 c0 w0.heap.size L0 _ (h0.below hA) hA.size hl0).mono ?_
      rintro e w4 ⟨a_x0, rfl, x0, hb⟩
      replace r0 := r0.below (hb.mono r0.le)
      replace hA := hA.trans (hb.mono hA.size)
      have hz4 := hb.size
      clear hb
      go_wp2_with fail
      refine (toIntS_any a1 c1 w0.heap.size L1 _ (h1.below hA) hA.size hl1).mono ?_
      rintro e w5 ⟨a_x1, rfl, x1, hb⟩
      replace r0 := r0.below (hb.mono r0.le)
      replace x0 := x0.below (hb.mono x0.le)
      replace hA := hA.trans (hb.mono hA.size)
      have hz5 := hb.size
      clear hb
      go_wp2_with fail
      refine (iChainDown_any _ _ _ _ _ _ L0 L1 _ x0.rd x1.rd (by omega) (by omega) (by omega) (by omega)).mono ?_
      rintro e w6 ⟨a_g0, c_g0, u_g0, rfl, g0, hb⟩
      rw [HFF.out] at g0 ⊢
      replace r0 := r0.below (hb.mono r0.le)
      replace x0 := x0.below (hb.mono x0.le)
      replace x1 := x1.below (hb.mono x1.le)
      replace hA := hA.trans (hb.mono hA.size)
      have hz6 := hb.size
      clear hb
      rw [HBB.out]
      go_wp2_with fail
      refine (eqIntSS_same _ _ _ _ _ _ FF _ g0.rd r0.rd (by omega) HIL.out).mono ?_
      rintro e w7 ⟨rfl, hd⟩
      have hb : Below w6.heap.size w6 w7 := Dr.below hd _
      clear hd
      replace r0 := r0.below (hb.mono r0.le)
      replace x0 := x0.below (hb.mono x0.le)
      replace x1 := x1.below (hb.mono x1.le)
      replace g0 := g0.below (hb.mono g0.le)
      replace hA := hA.trans (hb.mono hA.size)
      have hz7 := hb.size
      clear hb
      go_wp2_with fail
      refine (toIntS_any a0 c0 w0.heap.size L0 _ (h0.below hA) hA.size hl0).mono ?_
      rintro e w8 ⟨a_u0, rfl, u0, hb⟩
      replace r0 := r0.below (hb.mono r0.le)
      replace x0 := x0.below (hb.mono x0.le)
      replace x1 := x1.below (hb.mono x1.le)
      replace g0 := g0.below (hb.mono g0.le)
      replace hA := hA.trans (hb.mono hA.size)
      have hz8 := hb.size
      clear hb
      go_wp2_with fail
      refine (eqIntS_same _ _ _ _ _ _ _ _ x0.rd u0.rd (by omega)).mono ?_
      rintro e w9 ⟨rfl, hd⟩
      have hb : Below w8.heap.size w8 w9 := Dr.below hd _
      clear hd
      replace r0 := r0.below (hb.mono r0.le)
      replace x0 := x0.below (hb.mono x0.le)
      replace x1 := x1.below (hb.mono x1.le)
      replace g0 := g0.below (hb.mono g0.le)
      replace u0 := u0.below (hb.mono u0.le)
      replace hA := hA.trans (hb.mono hA.size)
      have hz9 := hb.size
      clear hb
      clear u0
      go_wp2_with fail
      refine (toIntS_any a1 c1 w0.heap.size L1 _ (h1.below hA) hA.size hl1).mono ?_
      rintro e w10 ⟨a_u1, rfl, u1, hb⟩
      replace r0 := r0.below (hb.mono r0.le)
      replace x0 := x0.below (hb.mono x0.le)
      replace x1 := x1.below (hb.mono x1.le)
      replace g0 := g0.below (hb.mono g0.le)
      replace hA := hA.trans (hb.mono hA.size)
      have hz10 := hb.size
      clear hb
      go_wp2_with fail
      refine (eqIntS_same _ _ _ _ _ _ _ _ x1.rd u1.rd (by omega)).mono ?_
      rintro e w11 ⟨rfl, hd⟩
      have hb : Below w10.heap.size w10 w11 := Dr.below hd _
      clear hd
      replace r0 := r0.below (hb.mono r0.le)
      replace x0 := x0.below (hb.mono x0.le)
      replace x1 := x1.below (hb.mono x1.le)
      replace g0 := g0.below (hb.mono g0.le)
      replace u1 := u1.below (hb.mono u1.le)
      replace hA := hA.trans (hb.mono hA.size)
      have hz11 := hb.size
      clear hb
      clear u1
      go_wp2_with fail
      refine (markIntS_any _ _ _ _ _ _ _ x0 (by omega) (by omega) (by omega)).mono ?_
      rintro e w12 ⟨rfl, x0', hg⟩
      have hbm := x0.belowMark (by omega) hg
      replace r0 := r0.below (hbm.mono (by omega))
      replace x1 := x1.above x0 hg (by omega)
      replace g0 := g0.aboveH x0 hg (by omega)
      replace hA := hA.trans (hbm.mono (by omega))
      have hz12 := hbm.size
      clear hbm hg x0
      have x0 := x0'
      clear x0'
      go_wp2_with fail
      refine (markIntS_any _ _ _ _ _ _ _ x1 (by omega) (by omega) (by omega)).mono ?_
      rintro e w13 ⟨rfl, x1', hg⟩
      have hbm := x1.belowMark (by omega) hg
      replace r0 := r0.below (hbm.mono (by omega))
      replace x0 := x0.below (hbm.mono (by omega))
      replace g0 := g0.aboveH x1 hg (by omega)
      replace hA := hA.trans (hbm.mono (by omega))
      have hz13 := hbm.size
      clear hbm hg x1
      have x1 := x1'
      clear x1'
      go_wp2_with fail
      refine (eqIntSS_same _ _ _ _ _ _ FF _ g0.rd r0.rd (by omega) HIL.out).mono ?_
      rintro e w14 ⟨rfl, hd⟩
      have hb : Below w13.heap.size w13 w14 := Dr.below hd _
      clear hd
      replace r0 := r0.below (hb.mono r0.le)
      replace x0 := x0.below (hb.mono x0.le)
      replace x1 := x1.below (hb.mono x1.le)
      replace g0 := g0.below (hb.mono g0.le)
      replace hA := hA.trans (hb.mono hA.size)
      have hz14 := hb.size
      clear hb
      go_wp2_with fail
      refine (markIntSS_any _ _ _ _ 1 FF _ _ g0 (by omega) (by omega) (by omega) (by omega) (by omega)).mono ?_
      rintro e w15 ⟨rfl, gm, hb⟩
      replace r0 := r0.below (hb.mono (by omega))
      replace x0 := x0.below (hb.mono (by omega))
      replace x1 := x1.below (hb.mono (by omega))
      replace hA := hA.trans (hb.mono (by omega))
      have hz15 := hb.size
      clear hb g0
      have hge : decide ((1 : Int) + (cntLL FF : Int) < 0) = false := decide_eq_false (by omega)
      have hne : ((1 : Int) + (cntLL FF : Int) != (1 : Int) + (cntLL FF : Int)) = false := by simp
      generalize hC : (1 : Int) + (cntLL FF : Int) = C at *
      have HC := Lib.hid hC
      clear hC
      go_wp2_with fail
      refine (heldIntSS_any _ _ _ 1 FF _ gm.rd (by omega) (by omega) (by omega) (by omega)).mono ?_
      rintro e w' ⟨rfl, rfl⟩
      rw [HC.out]
      go_wp2_with fail
      refine (toIntS_any a0 c0 w0.heap.size L0 _ (h0.below hA) hA.size hl0).mono ?_
      rintro e w16 ⟨a_v0, rfl, v0, hb⟩
      replace r0 := r0.below (hb.mono r0.le)
      replace x0 := x0.below (hb.mono x0.le)
      replace x1 := x1.below (hb.mono x1.le)
      replace gm := gm.below (hb.mono gm.le)
      replace hA := hA.trans (hb.mono hA.size)
      have hz16 := hb.size
      clear hb
      go_wp2_with fail
      refine (toIntS_any a1 c1 w0.heap.size L1 _ (h1.below hA) hA.size hl1).mono ?_
      rintro e w17 ⟨a_v1, rfl, v1, hb⟩
      replace r0 := r0.below (hb.mono r0.le)
      replace x0 := x0.below (hb.mono x0.le)
      replace x1 := x1.below (hb.mono x1.le)
      replace gm := gm.below (hb.mono gm.le)
      replace v0 := v0.below (hb.mono v0.le)
      replace hA := hA.trans (hb.mono hA.size)
      have hz17 := hb.size
      clear hb
      go_wp2_with fail
      refine (iChainDown_any _ _ _ _ _ _ L0 L1 _ v0.rd v1.rd (by omega) (by omega) (by omega) (by omega)).mono ?_
      rintro e w18 ⟨a_h0, c_h0, u_h0, rfl, h0, hb⟩
      rw [HFF.out] at h0 ⊢
      replace r0 := r0.below (hb.mono r0.le)
      replace x0 := x0.below (hb.mono x0.le)
      replace x1 := x1.below (hb.mono x1.le)
      replace gm := gm.below (hb.mono gm.le)
      replace v0 := v0.below (hb.mono v0.le)
      replace v1 := v1.below (hb.mono v1.le)
      replace hA := hA.trans (hb.mono hA.size)
      have hz18 := hb.size
      clear hb
      rw [HBB.out]
      clear v0
      clear v1
      go_wp2_with fail
      refine (eqIntSS_same _ _ _ _ _ _ FF _ h0.rd r0.rd (by omega) HIL.out).mono ?_
      rintro e w19 ⟨rfl, hd⟩
      have hb : Below w18.heap.size w18 w19 := Dr.below hd _
      clear hd
      replace r0 := r0.below (hb.mono r0.le)
      replace x0 := x0.below (hb.mono x0.le)
      replace x1 := x1.below (hb.mono x1.le)
      replace gm := gm.below (hb.mono gm.le)
      replace h0 := h0.below (hb.mono h0.le)
      replace hA := hA.trans (hb.mono hA.size)
      have hz19 := hb.size
      clear hb
      go_wp2_with fail
      refine (heldIntSS_any _ _ _ 1 FF _ gm.rd (by omega) (by omega) (by omega) (by omega)).mono ?_
      rintro e w' ⟨rfl, rfl⟩
      rw [HC.out]
      go_wp2_with fail
      go_ret
      exact ⟨rfl, hA⟩
    · have hl1' : 1048576 < L1.length := by omega
      go_enter Try.func3, Try.ntmps3
      go_wp2_with fail
      go_ret
      exact ⟨rfl, Below.refl _ _⟩
  · have hl0' : 1048576 < L0.length := by omega
    go_enter Try.func3, Try.ntmps3
    go_wp2_with fail
    go_ret
    exact ⟨rfl, Below.refl _ _⟩

theorem own : ownKnob Try.prog.godebug = none := by kernel_rfl
theorem laidOut : laidOutB Try.prog = true := by kernel_rfl

set_option maxRecDepth 100000 in
theorem lifted (os : Os) (started : os.Started) (H : Type) (enc : TypeId × Value → H) :
    ReturnsInHanded {} Try.checked os 3 .any (Rows.fnExactChainDownSpec.pre6 enc Try.prog Try.f3 Rows.fnExactChainDownRow.domain false) (Rows.fnExactChainDownSpec.post enc Try.prog Try.f3 false true false false) := by
  refine returnsInHanded_of_change (C := Try.checked) own started (by kernel_rfl) Try.func3
    (ChangeSpec.witness6 (enc := enc) (C := Try.checked) false ⟨#[], #[.slice none 0 0, .slice none 0 0], []⟩ 8 (by kernel_rfl) (by kernel_rfl) (by kernel_rfl) (by kernel_rfl)) ?_
  intro W base args ds gs before hval0 hW hcnd _
  have hval : ∀ (j : Nat) t v, Try.f3.params[j]? = some t → args[j]? = some v → Value.okWide Try.prog W .any base t v := hval0
  have hW' := hW
  obtain ⟨p, q, hA0, hV, rfl, hfz, hnd⟩ := hW
  have hA : DataW.TrodAll enc Try.prog W 0 (fun _ => true) true Try.f3.params.toList args.toList ds p := hA0
  rw [Try.params3] at hA hval
  obtain ⟨v0, vs0, d0, ds0, p0, q0, hargs, rfl, rfl, h0, r0⟩ := trodAll_cons hA
  obtain ⟨v1, vs1, d1, ds1, p1, q1, rfl, rfl, rfl, h1, r1⟩ := trodAll_cons r0
  obtain ⟨rfl, rfl, rfl⟩ := trodAll_nil r1
  obtain rfl : args = #[v0, v1] := by cases args; simp_all
  obtain ⟨rfl, rfl⟩ := trodVars_none hV
  obtain ⟨a0, len0, cap0, rfl⟩ := okWide_slice Try.underlying22 (hval 0 22 v0 rfl rfl)
  have k0 := h0
  have lt0 : ∀ x ∈ p0, x.block < W.heap.size := by obtain ⟨m, hm⟩ := k0; exact DataW.trod_lt m _ _ _ hm
  obtain ⟨z0, w0⟩ : ∃ zs, IsRow .i64 W a0 len0 cap0 zs := by
    obtain ⟨fuel, hf⟩ := h0
    rcases open_ints Try.underlying22 Try.underlying3 (by kernel_rfl) hf with ⟨hcs, _⟩ | ⟨x, l, c, zs, hcs, _, hl, hm, hz, _, hcell, hwz⟩
    · simp [Value.cells] at hcs
      obtain ⟨rfl, rfl, rfl⟩ := hcs
      exact ⟨[], .inl ⟨rfl, rfl, rfl, rfl⟩⟩
    · simp [Value.cells] at hcs
      obtain ⟨rfl, rfl, rfl⟩ := hcs
      exact ⟨zs, .inr ⟨_, rfl, hl, hm, by simpa using hz, hcell, hwz⟩⟩
  have lc0 := w0.lc
  obtain ⟨L0, rfl, R0, wf0, m0⟩ := w0.rd
  obtain ⟨a1, len1, cap1, rfl⟩ := okWide_slice Try.underlying22 (hval 1 22 v1 rfl rfl)
  have k1 := h1
  have lt1 : ∀ x ∈ p1, x.block < W.heap.size := by obtain ⟨m, hm⟩ := k1; exact DataW.trod_lt m _ _ _ hm
  obtain ⟨z1, w1⟩ : ∃ zs, IsRow .i64 W a1 len1 cap1 zs := by
    obtain ⟨fuel, hf⟩ := h1
    rcases open_ints Try.underlying22 Try.underlying3 (by kernel_rfl) hf with ⟨hcs, _⟩ | ⟨x, l, c, zs, hcs, _, hl, hm, hz, _, hcell, hwz⟩
    · simp [Value.cells] at hcs
      obtain ⟨rfl, rfl, rfl⟩ := hcs
      exact ⟨[], .inl ⟨rfl, rfl, rfl, rfl⟩⟩
    · simp [Value.cells] at hcs
      obtain ⟨rfl, rfl, rfl⟩ := hcs
      exact ⟨zs, .inr ⟨_, rfl, hl, hm, by simpa using hz, hcell, hwz⟩⟩
  have lc1 := w1.lc
  obtain ⟨L1, rfl, R1, wf1, m1⟩ := w1.rd
  clear hA0 hval0
  refine (walk W a0 cap0 L0 R0 m0 a1 cap1 L1 R1 m1).mono fun e W' ⟨he, bel⟩ => ?_
  subst he
  exact ⟨_, rfl, _, _, _, [], _, [], hW', trodAll_mk1 (shut_bool Try.underlying4 _), (trodAll_cons_mk (Below.trod laidOut (by kernel_rfl) (of_decide_eq_true (by kernel_rfl)) k0 bel lt0) (trodAll_cons_mk (Below.trod laidOut (by kernel_rfl) (of_decide_eq_true (by kernel_rfl)) k1 bel lt1) trodAll_mk0)), rfl, bel.frame _, fun h => by cases h⟩

theorem over : Rows.fnExactChainDownRow.holds Try.pinned (OpenSpec.ofChange Rows.fnExactChainDownSpec) :=
  OpenClaim.holds_of_wide 3 Try.f3 rfl rfl rfl rfl rfl rfl rfl ⟨rfl, rfl, rfl, rfl, rfl⟩ rfl rfl rfl rfl rfl (by kernel_rfl) Try.func3 (by kernel_rfl)
    (of_decide_eq_true (by kernel_rfl)) (by unfold Func.isWrapper; first | (rw [if_pos (by decide +kernel)]; kernel_rfl) | (rw [if_neg (by decide +kernel)]; exact ⟨rfl, rfl⟩))
    (fun os started H enc _ => lifted os started H enc)

/-- the given statement -/
theorem proved : Rows.FnExactChainDownSaid := over
end Go.Proofs.Ytmojonpjgaidgaa.fnExactChainDown
